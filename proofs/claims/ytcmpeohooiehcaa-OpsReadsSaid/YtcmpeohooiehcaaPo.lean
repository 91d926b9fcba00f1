/- Package parts' Pen once more: rows of bytes, dots, operations; and ops.Bytes. Conditions: texts below 2^20 bytes, fewer than 2^20 dots. -/
import Derived.Test.YtcmpeohooiehcaaPn
namespace Go.Proofs.Ytcmpeohooiehcaa
open Go.RowKit Go.Deep Go.ChangeShapes
theorem kept_q {w w' : World} {B n : Nat} {v : Value} {xs : List Value} {q : Nat} (h : w.ownsRow B 5 1 v n xs) (hg : w.grownBy w' (some q)) (hr : v.ownBlock ≠ some q) : w'.ownsRow B 5 1 v n xs :=
  h.kept hg (by
    cases e : v.ownBlock with
    | none => exact .inl rfl
    | some k => exact .inr (by rw [← e]; exact hr))
set_option maxRecDepth 100000 in
theorem penRaw_any (base q : Nat) (A : Option Addr) (c : Nat) (m xs : List Int) (w : World) (hp : Pn w base q xs) (hA : Has w w.heap.size A (bs m)) (hx : xs.length ≤ 1099511627776) (hm : m.length ≤ 1099511627776) :
    Calls Try.prog 30 #[.pointer (some ⟨q, 0, none⟩), .slice A m.length c] w fun e w' => e = .returned (.tuple #[]) ∧ Pn w' base q (xs ++ m) ∧ PTo base q w w' := by
  obtain ⟨v, hV⟩ := hp
  have hcv := hV.cell
  have HV := Lib.hid hV
  have hsr : Src Try.prog 1 35 (.slice A m.length c) (bs m).length (bs m) w := by
    have h := hA.src (P := Try.prog) (tx := 35) Try.underlying35 c (bs_one _)
    rw [bs_len] at h ⊢
    exact h
  have HSR := Lib.hid hsr
  have hx' : (bs xs).length + (bs m).length ≤ 70368744177664 := by rw [bs_len, bs_len]; omega
  have HX := Lib.hid hx'
  clear hV hA hsr hx hm hx'
  go_enter Try.func30, Try.ntmps30
  go_wp2_with (at_builtin; go_must (refine app_bytes rfl _ _ 35 rfl base v (bs xs) rfl HV.out.2.1 (.slice A m.length c) (bs m) rfl HSR.out HX.out (by have := HV.out.lt; have := HV.out.2.2; omega) ?_; intro v3 w3 g3; have f3 := (HV.out.mid g3).2; have c3 := (HV.out.mid g3).1; have S3 := Lib.hid (pn_step HV.out (only_refl _ _) g3); obtain ⟨A3, cc3, rfl⟩ := own_slice g3.own; obtain ⟨n3, hn3⟩ : ∃ n3, (bs xs ++ bs m).length = n3 := ⟨_, rfl⟩; rw [hn3] at S3 ⊢; clear hn3 g3))
  go_end0
  exact ⟨rfl, S3.out.1, S3.out.2⟩
set_option maxRecDepth 100000 in
theorem penBytes_any (base q : Nat) (xs : List Int) (w : World) (hp : Pn w base q xs) (hx : xs.length ≤ 4398046511104) :
    Calls Try.prog 32 #[.pointer (some ⟨q, 0, none⟩)] w (Out w w.heap.size (.slice none 0 0) (bs xs)) := by
  obtain ⟨v, hV⟩ := hp
  have hcv := hV.cell
  obtain ⟨A, c, rfl⟩ := own_slice hV.2.1
  have hsr : Src Try.prog 1 35 (.slice A (bs xs).length c) (bs xs).length (bs xs) w := (Has.own hV.2.1).src (P := Try.prog) (tx := 35) Try.underlying35 c (bs_one _)
  have HSR := Lib.hid hsr
  have hx' : ([] : List Value).length + (bs xs).length ≤ 70368744177664 := by rw [bs_len, List.length_nil]; omega
  have HX := Lib.hid hx'
  clear hV hsr hx hx'
  go_enter Try.func32, Try.ntmps32
  go_wp2_with (at_builtin; go_must (refine app_bytes rfl _ _ 35 rfl w.heap.size (.slice none 0 0) [] rfl (World.ownsRow_nil _ _ _ _) (.slice A (bs xs).length c) (bs xs) rfl HSR.out HX.out (Nat.le_refl _) ?_; intro v1 w1 g1))
  go_ret
  exact ⟨v1, rfl, g1⟩
def dotB (p : Dt) : List Int := encs [p.1, p.2.1, p.2.2]
def W64 (p : Dt) : Prop := I64 p.1 ∧ I64 p.2.1 ∧ I64 p.2.2
theorem dotB_len (p : Dt) (h : W64 p) : (dotB p).length ≤ 30 := by
  unfold dotB
  have := encs_len [p.1, p.2.1, p.2.2] (fun n hn => by
    simp only [List.mem_cons, List.not_mem_nil, or_false] at hn
    rcases hn with rfl | rfl | rfl
    · exact h.1
    · exact h.2.1
    · exact h.2.2)
  simpa using this
set_option maxRecDepth 100000 in
theorem penDot_any (base q : Nat) (p : Dt) (xs : List Int) (w : World) (hp : Pn w base q xs) (h : W64 p) (hx : xs.length ≤ 1099511627776) :
    Calls Try.prog 46 #[.pointer (some ⟨q, 0, none⟩), .agg #[.int .i64 p.1, .int .i64 p.2.1, .int .i64 p.2.2]] w fun e w' => e = .returned (.tuple #[]) ∧ Pn w' base q (xs ++ dotB p) ∧ PTo base q w w' := by
  obtain ⟨x, y, z⟩ := p
  have HP := Lib.hid hp
  have HH := Lib.hid h
  have HX := Lib.hid hx
  clear hp h hx
  show Calls Try.prog _ #[.pointer (some ⟨q, 0, none⟩), .agg #[.int .i64 x, .int .i64 y, .int .i64 z]] w _
  go_enter Try.func46, Try.ntmps46
  go_wp2_with fail
  obtain ⟨w1, hw1⟩ : ∃ Z, (w.alloc (.cells #[.int .i64 x, .int .i64 y, .int .i64 z] 23)).alloc (.cells #[.int .i64 x, .int .i64 y, .int .i64 z] 3) = Z := ⟨_, rfl⟩
  have g1 : w.grownBy w1 none := by subst hw1; exact only_alloc (only_alloc (only_refl _ _) _) _
  have b1 : w1.heap[w.heap.size + 1]? = some (.cells (is [x, y, z]).toArray 3 (0, 0)) := by
    subst hw1
    have := heap_alloc_new (w.alloc (.cells #[.int .i64 x, .int .i64 y, .int .i64 z] 23)) (.cells #[.int .i64 x, .int .i64 y, .int .i64 z] 3)
    rwa [World.size_alloc] at this
  rw [hw1]
  clear hw1
  refine (penInt_any base q (w.heap.size + 1) [x, y, z] xs w1 (HP.out.off g1) b1 (fun n hn => by
    simp only [List.mem_cons, List.not_mem_nil, or_false] at hn
    rcases hn with rfl | rfl | rfl
    · exact HH.out.1
    · exact HH.out.2.1
    · exact HH.out.2.2) HX.out (by simp)).mono ?_
  rintro _ w2 ⟨rfl, P2, T2⟩
  have T := (PTo.off (q := q) (base := base) g1 (by have := HP.out.lt; omega)).trans T2
  go_wp2_with fail
  go_end0
  exact ⟨rfl, P2, T⟩
end Go.Proofs.Ytcmpeohooiehcaa
