/- find's closure, slices.IndexFunc, find of package ranges. No condition of the program's own. -/
import Derived.Test.YtnljccmchmclnaaRu
namespace Go.Proofs.Ytnljccmchmclnaa
open Go.RowKit Go.Deep

theorem clo_any (f t n : Int) (B : Nat) (w : World) (h : w.cell? ⟨B, 0, none⟩ = some (.int .i64 n)) (hB : B < w.heap.size) :
    Calls Try.prog 23 #[.agg #[.int .i64 f, .int .i64 t], .pointer (some ⟨B, 0, none⟩)] w fun e w' => e = .returned (.bool (decide (f ≤ n ∧ n < t))) ∧ w.grownBy w' none := by
  have g := World.grownBy_alloc w (.cells #[.int .i64 f, .int .i64 t] 24) none
  have h2 : (w.alloc (.cells #[.int .i64 f, .int .i64 t] 24)).cell? ⟨B, 0, none⟩ = some (.int .i64 n) := (World.cell?_of_block (g.block B hB (by simp))).trans h
  by_cases h1 : f ≤ n
  · by_cases h3 : n < t
    · go_enter Try.func23, Try.ntmps23
      go_wp2_with fail
      go_ret
      exact ⟨by simp [h1, h3], g⟩
    · go_enter Try.func23, Try.ntmps23
      go_wp2_with fail
      go_ret
      exact ⟨by simp [h3], g⟩
  · go_enter Try.func23, Try.ntmps23
    go_wp2_with fail
    go_ret
    exact ⟨by simp; omega, g⟩
/-- k: the first range that holds n, or the row's length. -/
structure At (l : List E2) (n : Int) (k : Nat) : Prop where
  le : k ≤ l.length
  lo : ∀ (j : Nat) (y : E2), l[j]? = some y → j < k → ¬ (y.1 ≤ n ∧ n < y.2)
  hi : ∀ (y : E2), l[k]? = some y → y.1 ≤ n ∧ n < y.2
set_option maxRecDepth 100000 in
set_option maxHeartbeats 4000000 in
theorem idx_any (A : Option Addr) (c : Nat) (l : List E2) (n : Int) (k : Nat) (B : Nat) (w : World) (h : Vw w w.heap.size A c l) (hl : l.length ≤ 1000000) (hk : At l n k) (hc : w.cell? ⟨B, 0, none⟩ = some (.int .i64 n)) (hB : B < w.heap.size) :
    Calls Try.prog 22 #[.slice A l.length c, .func (.func 23) #[] #[.pointer (some ⟨B, 0, none⟩)]] w fun e w' => e = .returned (.int .i64 (if k < l.length then (k : Int) else -1)) ∧ w.grownBy w' none := by
  have HA := Lib.hid h
  have HK := Lib.hid hk
  have HC := Lib.hid hc
  obtain ⟨v, hv⟩ : ∃ v, v = (if k < l.length then (k : Int) else -1) := ⟨_, rfl⟩
  rw [← hv]
  have HV := Lib.hid hv
  clear h hk hc hv
  go_enter Try.func22, Try.ntmps22
  go_wp2_with fail
  go_loopw [8] (fun si wr => ∃ i : Nat, i ≤ k ∧ si = .int .i64 i ∧ Hid (w.grownBy wr none)) (fun si _ => l.length - (intOf si).toNat)
  case atStart => exact ⟨0, Nat.zero_le _, rfl, only_refl _ _⟩
  case round =>
    obtain ⟨i, hi, rfl, hG⟩ := hrel
    have kl := HK.out.le
    by_cases hlt : i < l.length
    · have u1 : (i : Int) < (l.length : Int) := by omega
      have u0 : (0 : Int) ≤ (i : Int) := by omega
      have hes : IntKind.i64.wrap ((i : Int) + 1) = (i : Int) + 1 := by rw [IntKind.wrap_i64]; omega
      obtain ⟨r, hr⟩ : ∃ r, l[i]? = some r := ⟨_, List.getElem?_eq_getElem hlt⟩
      obtain ⟨b, off, e0, hb, r1, r2⟩ := (HA.out.up hG.out).has.rng hr
      subst e0
      have HR := Lib.hid hr
      have hcr : wr.cell? ⟨B, 0, none⟩ = some (.int .i64 n) := (World.cell?_of_block (hG.out.block B hB (by simp))).trans HC.out
      have zr : B < wr.heap.size := Nat.lt_of_lt_of_le hB hG.out.size
      have CL := Lib.hid (clo_any r.1 r.2 n B wr hcr zr)
      clear hr hcr zr
      by_cases hin : r.1 ≤ n ∧ n < r.2
      · have hik : Hid (i = k) := by
          by_cases h : i < k
          · exact absurd hin (HK.out.lo i r HR.out h)
          · show i = k; omega
        have HB : Hid (decide (r.1 ≤ n ∧ n < r.2) = true) := decide_eq_true hin
        rw [HB.out] at CL
        clear hin
        go_wp2_with fail
        refine CL.out.mono ?_
        rintro _ w1 ⟨rfl, g1⟩
        have G1 := Lib.hid (grow2 hG.out g1)
        clear CL g1
        go_wp2_with fail
        go_ret
        exact ⟨by rw [HV.out, if_pos (by rw [← hik.out]; exact hlt), hik.out]; rfl, G1.out⟩
      · have hik : i < k := by
          by_cases h : i = k
          · exact absurd (HK.out.hi r (h ▸ HR.out)) hin
          · omega
        have HB : Hid (decide (r.1 ≤ n ∧ n < r.2) = false) := decide_eq_false hin
        rw [HB.out] at CL
        clear hin
        go_wp2_with fail
        refine CL.out.mono ?_
        rintro _ w1 ⟨rfl, g1⟩
        have G1 := Lib.hid (grow2 hG.out g1)
        clear CL g1
        go_wp2_with fail
        refine ⟨⟨i + 1, by omega, by go_num, G1.out⟩, ?_⟩
        simp [intOf]; omega
    · have u1 : ¬ (i : Int) < (l.length : Int) := by omega
      have hik : Hid (¬ k < l.length) := Lib.hid (show ¬ k < l.length by omega)
      go_wp2_with fail
      go_ret
      exact ⟨by rw [HV.out, if_neg hik.out]; rfl, hG.out⟩
theorem find_hit (A : Option Addr) (c : Nat) (l : List E2) (n : Int) (k : Nat) (w : World) (h : Vw w w.heap.size A c l) (hl : l.length ≤ 1000000) (hk : At l n k) (hlt : k < l.length) :
    Calls Try.prog 21 #[.slice A l.length c, .int .i64 n] w fun e w' => e = .returned (.tuple #[.int .i64 k, .bool true]) ∧ w.grownBy w' none := by
  have g := World.grownBy_alloc w (.cells #[.int .i64 n] 3) none
  have z : w.heap.size < (w.alloc (.cells #[.int .i64 n] 3)).heap.size := by show _ < (w.heap.push _).size; rw [Array.size_push]; omega
  have I := Lib.hid (idx_any A c l n k w.heap.size _ (h.up g) hl hk (cell_new w _ _ 0 _ rfl) z)
  rw [if_pos hlt] at I
  have G := Lib.hid g
  have u0 : (0 : Int) ≤ (k : Int) := by omega
  clear h hk g z
  go_enter Try.func21, Try.ntmps21
  go_wp2_with fail
  refine I.out.mono ?_
  rintro _ w1 ⟨rfl, g1⟩
  have G1 := Lib.hid (grow2 G.out g1)
  clear I g1
  go_wp2_with fail
  go_ret2
  exact ⟨rfl, G1.out⟩
theorem find_miss (A : Option Addr) (c : Nat) (l : List E2) (n : Int) (w : World) (h : Vw w w.heap.size A c l) (hl : l.length ≤ 1000000) (hk : At l n l.length) :
    Calls Try.prog 21 #[.slice A l.length c, .int .i64 n] w fun e w' => e = .returned (.tuple #[.int .i64 (-1), .bool false]) ∧ w.grownBy w' none := by
  have g := World.grownBy_alloc w (.cells #[.int .i64 n] 3) none
  have z : w.heap.size < (w.alloc (.cells #[.int .i64 n] 3)).heap.size := by show _ < (w.heap.push _).size; rw [Array.size_push]; omega
  have I := Lib.hid (idx_any A c l n l.length w.heap.size _ (h.up g) hl hk (cell_new w _ _ 0 _ rfl) z)
  rw [if_neg (Nat.lt_irrefl _)] at I
  have G := Lib.hid g
  clear h hk g z
  go_enter Try.func21, Try.ntmps21
  go_wp2_with fail
  refine I.out.mono ?_
  rintro _ w1 ⟨rfl, g1⟩
  have G1 := Lib.hid (grow2 G.out g1)
  clear I g1
  go_wp2_with fail
  go_ret2
  exact ⟨rfl, G1.out⟩
end Go.Proofs.Ytnljccmchmclnaa
