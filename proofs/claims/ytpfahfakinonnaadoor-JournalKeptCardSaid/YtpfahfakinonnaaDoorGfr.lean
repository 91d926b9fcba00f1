/- frames.appendWord and Frame; the law's example. Asked of the world: the table's cells. -/
import Derived.Test.YtpfahfakinonnaaDoorFwd
import Derived.Lib.SlBytesConst
import Derived.Lib.SmallJoins
namespace Go.Proofs.YtpfahfakinonnaaDoor
open Go.RowKit Go.ChangeShapes

theorem own_lit (w : World) (x : Value) (hx : x.oneCell' = true) : Src Tryd.prog 1 33 (.slice (some ⟨w.heap.size, 0, none⟩) 1 1) 1 [x] (w.alloc (.cells #[x] 5)) :=
  src_one 33 5 Tryd.underlying33 x 5 hx
theorem Grew.ofAlloc {w w' : World} {o : Obj} {base e : Nat} {v v' : Value} {xs : List Value} (h : Grew (w.alloc o) w' base e v v' xs) : Grew w w' base e v v' xs :=
  ⟨h.own, only_step (only_none (World.grownBy_alloc w o Option.none) _) h.only (fun _ hk => .inl hk), h.at_.imp id fun ⟨g, h1, h2⟩ => ⟨g, h1, Nat.le_trans (World.grownBy_alloc w o Option.none).size h2⟩⟩
set_option maxRecDepth 100000 in
theorem apw_any (base : Nat) (v : Value) (l : List Int) (n : Nat) (w : World) (hv : w.ownsRow base 5 1 v (bs l).length (bs l)) (hl : l.length ≤ 1000) (hbase : base ≤ w.heap.size) :
    Calls Tryd.prog 59 #[v, .int .u32 n] w fun e w' => ∃ v', e = .returned v' ∧ Grew w w' base 5 v v' (bs (l ++ w4 n)) := by
  obtain ⟨A, c, rfl⟩ := own_slice hv
  have HV := Lib.hid hv
  clear hv
  have x0 : IntKind.u8.wrap ((n : Int) / 16777216) = ((n / 16777216 % 256 : Nat) : Int) := by have := IntKind.wrap_u8 ((n : Int) / 16777216); rw [this]; omega
  have x1 : IntKind.u8.wrap ((n : Int) / 65536) = ((n / 65536 % 256 : Nat) : Int) := by have := IntKind.wrap_u8 ((n : Int) / 65536); rw [this]; omega
  have x2 : IntKind.u8.wrap ((n : Int) / 256) = ((n / 256 % 256 : Nat) : Int) := by have := IntKind.wrap_u8 ((n : Int) / 256); rw [this]; omega
  have x3 : IntKind.u8.wrap (n : Int) = ((n % 256 : Nat) : Int) := by have := IntKind.wrap_u8 (n : Int); rw [this]; omega
  rw [bs_len] at HV ⊢
  go_enter Tryd.func59, Tryd.ntmps59
  go_wp2_with fail
  go_loopw [0, 6] (fun s0 si wr => ∃ i : Nat, i ≤ 4 ∧ si = .int .i64 i ∧ (∃ A c, s0 = .slice A (l.length + i) c) ∧ Hid (Grew w wr base 5 (.slice A l.length c) s0 (bs (l ++ (w4 n).take i)))) (fun _ si _ => 4 - (intOf si).toNat)
  case atStart =>
    refine ⟨0, by omega, rfl, ⟨A, c, rfl⟩, ⟨?_, only_refl _ _, .inl rfl⟩⟩
    have := HV.out
    rw [show (w4 n).take 0 = [] from rfl, List.append_nil, bs_len]
    exact this
  case round =>
    obtain ⟨i, hi, rfl, ⟨A', c', rfl⟩, HG⟩ := hrel
    have eo : Hid (wr.ownsRow base 5 1 (.slice A' (l.length + i) c') (bs (l ++ (w4 n).take i)).length (bs (l ++ (w4 n).take i))) := HG.out.own
    have zb : base ≤ wr.heap.size := Nat.le_trans hbase HG.out.only.size
    rcases (show i = 0 ∨ i = 1 ∨ i = 2 ∨ i = 3 ∨ i = 4 by omega) with rfl | rfl | rfl | rfl | rfl
    · have eo1 := Lib.hid (eo.out.kept (World.grownBy_alloc wr (.cells #[.int .u8 ((n / 16777216 % 256 : Nat) : Int)] 5) none) (by cases (Value.slice A' (l.length + 0) c').ownBlock <;> simp))
      go_wp2_with (at_builtin; go_loud (refine app_bytes rfl _ _ 33 rfl base (.slice A' (l.length + 0) c') (bs (l ++ (w4 n).take 0)) rfl eo1.out (.slice (some ⟨wr.heap.size, 0, none⟩) 1 1) [.int .u8 ((n / 16777216 % 256 : Nat) : Int)] rfl (own_lit wr _ rfl) (by rw [bs_len, List.length_append]; simp; omega) (by show _ ≤ (wr.heap.push _).size; rw [Array.size_push]; omega) ?_); intro v4 w4' g4)
      rw [show [Value.int .u8 ((n / 16777216 % 256 : Nat) : Int)] = bs (((w4 n).take 1).drop 0) from rfl, ← bs_append, List.append_assoc, show (w4 n).take 0 ++ ((w4 n).take 1).drop 0 = (w4 n).take 1 from rfl] at g4
      refine ⟨⟨1, by omega, by go_num, ?_, HG.out.trans g4.ofAlloc⟩, by simp [intOf]⟩
      obtain ⟨A2, c2, e2⟩ := own_slice g4.own
      exact ⟨A2, c2, by rw [e2, bs_len, List.length_append]; rfl⟩
    · have eo1 := Lib.hid (eo.out.kept (World.grownBy_alloc wr (.cells #[.int .u8 ((n / 65536 % 256 : Nat) : Int)] 5) none) (by cases (Value.slice A' (l.length + 1) c').ownBlock <;> simp))
      go_wp2_with (at_builtin; go_loud (refine app_bytes rfl _ _ 33 rfl base (.slice A' (l.length + 1) c') (bs (l ++ (w4 n).take 1)) rfl eo1.out (.slice (some ⟨wr.heap.size, 0, none⟩) 1 1) [.int .u8 ((n / 65536 % 256 : Nat) : Int)] rfl (own_lit wr _ rfl) (by rw [bs_len, List.length_append]; simp; omega) (by show _ ≤ (wr.heap.push _).size; rw [Array.size_push]; omega) ?_); intro v4 w4' g4)
      rw [show [Value.int .u8 ((n / 65536 % 256 : Nat) : Int)] = bs (((w4 n).take 2).drop 1) from rfl, ← bs_append, List.append_assoc, show (w4 n).take 1 ++ ((w4 n).take 2).drop 1 = (w4 n).take 2 from rfl] at g4
      refine ⟨⟨2, by omega, by go_num, ?_, HG.out.trans g4.ofAlloc⟩, by simp [intOf]⟩
      obtain ⟨A2, c2, e2⟩ := own_slice g4.own
      exact ⟨A2, c2, by rw [e2, bs_len, List.length_append]; rfl⟩
    · have eo1 := Lib.hid (eo.out.kept (World.grownBy_alloc wr (.cells #[.int .u8 ((n / 256 % 256 : Nat) : Int)] 5) none) (by cases (Value.slice A' (l.length + 2) c').ownBlock <;> simp))
      go_wp2_with (at_builtin; go_loud (refine app_bytes rfl _ _ 33 rfl base (.slice A' (l.length + 2) c') (bs (l ++ (w4 n).take 2)) rfl eo1.out (.slice (some ⟨wr.heap.size, 0, none⟩) 1 1) [.int .u8 ((n / 256 % 256 : Nat) : Int)] rfl (own_lit wr _ rfl) (by rw [bs_len, List.length_append]; simp; omega) (by show _ ≤ (wr.heap.push _).size; rw [Array.size_push]; omega) ?_); intro v4 w4' g4)
      rw [show [Value.int .u8 ((n / 256 % 256 : Nat) : Int)] = bs (((w4 n).take 3).drop 2) from rfl, ← bs_append, List.append_assoc, show (w4 n).take 2 ++ ((w4 n).take 3).drop 2 = (w4 n).take 3 from rfl] at g4
      refine ⟨⟨3, by omega, by go_num, ?_, HG.out.trans g4.ofAlloc⟩, by simp [intOf]⟩
      obtain ⟨A2, c2, e2⟩ := own_slice g4.own
      exact ⟨A2, c2, by rw [e2, bs_len, List.length_append]; rfl⟩
    · have eo1 := Lib.hid (eo.out.kept (World.grownBy_alloc wr (.cells #[.int .u8 ((n % 256 : Nat) : Int)] 5) none) (by cases (Value.slice A' (l.length + 3) c').ownBlock <;> simp))
      go_wp2_with (at_builtin; go_loud (refine app_bytes rfl _ _ 33 rfl base (.slice A' (l.length + 3) c') (bs (l ++ (w4 n).take 3)) rfl eo1.out (.slice (some ⟨wr.heap.size, 0, none⟩) 1 1) [.int .u8 ((n % 256 : Nat) : Int)] rfl (own_lit wr _ rfl) (by rw [bs_len, List.length_append]; simp; omega) (by show _ ≤ (wr.heap.push _).size; rw [Array.size_push]; omega) ?_); intro v4 w4' g4)
      rw [show [Value.int .u8 ((n % 256 : Nat) : Int)] = bs (((w4 n).take 4).drop 3) from rfl, ← bs_append, List.append_assoc, show (w4 n).take 3 ++ ((w4 n).take 4).drop 3 = (w4 n).take 4 from rfl] at g4
      refine ⟨⟨4, by omega, by go_num, ?_, HG.out.trans g4.ofAlloc⟩, by simp [intOf]⟩
      obtain ⟨A2, c2, e2⟩ := own_slice g4.own
      exact ⟨A2, c2, by rw [e2, bs_len, List.length_append]; rfl⟩
    · go_wp2_with fail
      go_ret
      refine ⟨_, rfl, ?_⟩
      have := HG.out
      rw [show (w4 n).take 4 = w4 n from rfl] at this
      exact this

theorem crcF_lt : ∀ (l : List Int) (c : Nat), c < 4294967296 → (∀ x ∈ l, 0 ≤ x ∧ x ≤ 255) → crcF c l < 4294967296
  | [], c, h, _ => h
  | x :: r, c, h, hb => by
    show crcF (crcB c x.toNat) r < _
    have := hb x (by simp)
    exact crcF_lt r _ (crcB_lt h (by omega)) (fun y hy => hb y (by simp [hy]))
theorem crcP_lt (l : List Int) (hb : ∀ x ∈ l, 0 ≤ x ∧ x ≤ 255) : crcP l < 4294967296 := xor_lt32 (by decide) (crcF_lt l _ (by decide) hb)
/-- A record's frame. -/
def frP (l : List Int) : List Int := w4 l.length ++ w4 (crcP l) ++ l
theorem frP_len (l : List Int) : (frP l).length = l.length + 8 := by simp [frP, w4_len]; omega
theorem frP_byte (l : List Int) (hb : ∀ x ∈ l, 0 ≤ x ∧ x ≤ 255) : ∀ x ∈ frP l, 0 ≤ x ∧ x ≤ 255 := fun x hx => by
  rcases List.mem_append.1 hx with h | h
  · rcases List.mem_append.1 h with h | h
    · exact w4_byte _ x h
    · exact w4_byte _ x h
  · exact hb x h
set_option maxRecDepth 100000 in
theorem frame_any (A : Option Addr) (c : Nat) (l : List Int) (w : World) (h : Has w w.heap.size A (bs l)) (hb : ∀ x ∈ l, 0 ≤ x ∧ x ≤ 255) (hl : l.length ≤ 4194304) (hT : Tab w) :
    Calls Tryd.prog 54 #[.slice A l.length c] w fun e w' => ∃ v, e = .returned (.tuple #[v, .int .i64 0]) ∧ w'.ownsRow w.heap.size 5 1 v (bs (frP l)).length (bs (frP l)) ∧ w.grownBy w' none := by
  have t0 : ¬ (4194304 : Int) < (l.length : Int) := by omega
  have hw : IntKind.u32.wrap (l.length : Int) = (l.length : Int) := by have := IntKind.wrap_u32 (l.length : Int); rw [this]; omega
  have HA := Lib.hid h
  have HB := Lib.hid hb
  have HT := Lib.hid hT
  have A1 := Lib.hid (apw_any w.heap.size (.slice none 0 0) [] l.length w (World.ownsRow_nil w _ _ 1) (by simp) (Nat.le_refl _))
  clear h hb hT
  go_enter Tryd.func54, Tryd.ntmps54
  go_wp2_with fail
  refine A1.out.mono ?_
  rintro _ w1 ⟨v1, rfl, g1⟩
  have gn1 : w.grownBy w1 none := g1.none rfl
  rw [List.nil_append] at g1
  obtain ⟨B1, c1, rfl⟩ := own_slice g1.own
  have O1 := Lib.hid g1.own
  clear A1 g1
  go_wp2_with fail
  have h1 := (HA.out.only gn1 (Nat.le_refl _) (fun _ h => by cases h)).more gn1.size
  refine (crc_any A c l w1 h1 HB.out (by unfold maxLen; omega) (HT.out.grow gn1)).mono ?_
  rintro _ w2 ⟨rfl, rfl⟩
  have G1 := Lib.hid gn1
  clear h1 gn1
  go_wp2_with fail
  refine (apw_any w.heap.size (.slice B1 (bs (w4 l.length)).length c1) (w4 l.length) (crcP l) w1 O1.out (by rw [w4_len]; omega) G1.out.size).mono ?_
  rintro _ w3 ⟨v3, rfl, g3⟩
  have gn3 : Hid (w.grownBy w3 none) := only_step G1.out g3.only (fun k hk => .inr (by
    rcases own_at O1.out with h | ⟨q, h, hq⟩
    · rw [h] at hk; cases hk
    · rw [h] at hk; cases hk; exact hq))
  obtain ⟨B3, c3, rfl⟩ := own_slice g3.own
  have O3 := Lib.hid g3.own
  have hs : Hid (Src Tryd.prog 1 33 (.slice A l.length c) (bs l).length (bs l) w3) := by
    have h := ((HA.out.only gn3.out (Nat.le_refl _) (fun _ h => by cases h)).more gn3.out.size).src (P := Tryd.prog) (tx := 33) Tryd.underlying33 c (bs_one _)
    rw [bs_len] at h ⊢
    exact h
  have z3 := gn3.out.size
  clear g3
  go_wp2_with (at_builtin; go_loud (refine app_bytes rfl _ _ 33 rfl w.heap.size (.slice B3 (bs (w4 l.length ++ w4 (crcP l))).length c3) (bs (w4 l.length ++ w4 (crcP l))) rfl O3.out (.slice A l.length c) (bs l) rfl hs.out (by simp [bs_len, w4_len]; omega) z3 ?_); intro v4 w4' g4)
  go_ret2
  refine ⟨_, rfl, ?_, ?_⟩
  · have := g4.own
    rw [← bs_append] at this
    exact this
  · exact only_step gn3.out g4.only (fun k hk => .inr (by
      rcases own_at O3.out with h | ⟨q, h, hq⟩
      · rw [h] at hk; cases hk
      · rw [h] at hk; cases hk; exact hq))
end Go.Proofs.YtpfahfakinonnaaDoor
