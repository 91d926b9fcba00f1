/- The walk of SchemaUps: it returns true for every input. No condition. -/
import Derived.Test.YtjgbflgeicejeaaDoorRup
namespace Go.Proofs.YtjgbflgeicejeaaDoor
open Go.RowKit Go.Lib

set_option maxRecDepth 100000 in
theorem schemaUps_walk (s : ByteArray) (f t : Int) (f1 : -9223372036854775808 ≤ f) (f2 : f ≤ 9223372036854775807) (t1 : -9223372036854775808 ≤ t) (t2 : t ≤ 9223372036854775807) (w : World) :
    Calls Tryd.prog 3 #[.string s, .int .i64 f, .int .i64 t] w fun e w' => e = .returned (.bool true) ∧ w.grownBy w' none := by
  have HK := fun w => Lib.hid (known_any w)
  by_cases hs : s.size ≤ 300
  · have h1 : ¬ (300 : Int) < (s.size : Int) := by omega
    have hss : s.size ≤ maxLen := by unfold maxLen; omega
    have HU := fun f t w => Lib.hid (up_any s f t hss w)
    have HR := fun f t w => Lib.hid (rup_any s f t hss w)
    clear hss hs
    go_enter Tryd.func3, Tryd.ntmps3
    go_wp2_with fail
    refine (HK _).out.mono ?_
    rintro _ w1 ⟨rfl, g1⟩
    go_wp2_with fail
    go_loopw [1, 2, 7] (fun sf st sk wr => ∃ (f t : Int) (k : Nat), sf = .int .i64 f ∧ st = .int .i64 t ∧ sk = .int .i64 k ∧ k ≤ 2 ∧ (-9223372036854775808 ≤ f ∧ f ≤ 9223372036854775807) ∧ (-9223372036854775808 ≤ t ∧ t ≤ 9223372036854775807) ∧ w.grownBy wr none)
      (fun _ _ sk _ => 2 - (intOf sk).toNat)
    case atStart => exact ⟨f, t, 0, rfl, rfl, rfl, by omega, ⟨f1, f2⟩, ⟨t1, t2⟩, g1⟩
    case round =>
      obtain ⟨f, t, k, rfl, rfl, rfl, hk, hf, ht, hG⟩ := hrel
      by_cases hlt : k < 2
      · have hb : (k : Int) < 2 := by omega
        have hes : IntKind.i64.wrap ((k : Int) + 1) = (k : Int) + 1 := by rw [IntKind.wrap_i64]; omega
        obtain ⟨u, hu⟩ : ∃ u, u = upS s f t := ⟨_, rfl⟩
        obtain ⟨c, hc⟩ : ∃ c, c = chk f t := ⟨_, rfl⟩
        obtain ⟨d, hd⟩ : ∃ d : Int, d = if chk f t = 0 then f else 0 := ⟨_, rfl⟩
        have U := fun w => HU f t w
        have R := fun w => HR f t w
        have P := fun w => Lib.hid (pick_any f t w)
        have Q := fun w => Lib.hid (rpick_any f t w)
        have W1 := fun w => Lib.hid (within_any f 3 hf.1 hf.2 (by omega) (by omega) w)
        have W2 := fun w => Lib.hid (within_any t 3 ht.1 ht.2 (by omega) (by omega) w)
        rw [← hu, ← hc] at U R
        rw [← hd, ← hc] at P Q
        have hfa := Int.emod_nonneg f (show (3 : Int) ≠ 0 by decide)
        have hfb := Int.emod_lt_of_pos f (show (0 : Int) < 3 by decide)
        have hta := Int.emod_nonneg t (show (3 : Int) ≠ 0 by decide)
        have htb := Int.emod_lt_of_pos t (show (0 : Int) < 3 by decide)
        obtain ⟨p, hp⟩ : ∃ p, p = f % 3 := ⟨_, rfl⟩
        obtain ⟨q, hq⟩ : ∃ q, q = t % 3 := ⟨_, rfl⟩
        rw [← hp] at W1 hfa hfb
        rw [← hq] at W2 hta htb
        have hwp : IntKind.i64.wrap (1 + p) = 1 + p := by rw [IntKind.wrap_i64]; omega
        have hwq : IntKind.i64.wrap (1 + q) = 1 + q := by rw [IntKind.wrap_i64]; omega
        clear hu hc hd hp hq
        go_wp2_with fail
        refine (U _).out.mono ?_
        rintro _ w2 ⟨rfl, g2⟩
        go_wp2_with fail
        refine (R _).out.mono ?_
        rintro _ w3 ⟨rfl, g3⟩
        go_wp2_with fail
        refine (P _).out.mono ?_
        rintro _ w4 ⟨rfl, rfl⟩
        go_wp2_with fail
        refine (Q _).out.mono ?_
        rintro _ w4 ⟨rfl, rfl⟩
        go_wp2_with fail
        refine (W1 _).out.mono ?_
        rintro _ w4 ⟨rfl, rfl⟩
        go_wp2_with fail
        refine (W2 _).out.mono ?_
        rintro _ w4 ⟨rfl, rfl⟩
        go_wp2_with fail
        go_roundw
        case rel => exact ⟨1 + p, 1 + q, k + 1, rfl, rfl, by go_num, by omega, ⟨by omega, by omega⟩, ⟨by omega, by omega⟩, only_step (only_step hG g2 (fun _ h => by cases h)) g3 (fun _ h => by cases h)⟩
        case measure => simp [intOf]; omega
      · have hb : ¬ (k : Int) < 2 := by omega
        go_wp2_with fail
        go_ret
        exact ⟨rfl, hG⟩
  · have h1 : (300 : Int) < (s.size : Int) := by omega
    go_enter Tryd.func3, Tryd.ntmps3
    go_wp2_with fail
    refine (HK _).out.mono ?_
    rintro _ w1 ⟨rfl, g1⟩
    go_wp2_with fail
    go_ret
    exact ⟨rfl, g1⟩
end Go.Proofs.YtjgbflgeicejeaaDoor
