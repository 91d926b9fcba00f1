/- The reference's dot. Conditions: fewer than 2^40 bytes. -/
import Derived.Test.YtcmpeohooiehcaaCg
namespace Go.Proofs.Ytcmpeohooiehcaa
open Go.RowKit Go.Deep Go.ChangeShapes
theorem Rq.lim {lim : Nat} {w : World} {g : Nat} {s : RS} (h : Rq lim w g s) : lim ≤ g := by
  obtain ⟨_, _, _, _, _, _, _, _, _, _, h⟩ := h.1
  exact h
theorem heap3 {w : World} {g : Nat} {a b c : Value} (h : w.heap[g]? = some (.cells #[a, b, c] 23 (0, 0))) : w.cell? ⟨g, 0, none⟩ = some a ∧ w.cell? ⟨g, 1, none⟩ = some b ∧ w.cell? ⟨g, 2, none⟩ = some c ∧ ∀ i, w.frozen? ⟨g, i, none⟩ = false :=
  ⟨by simp [World.cell?, h], by simp [World.cell?, h], by simp [World.cell?, h], fun i => by simp [World.frozen?, h]⟩
theorem blk_other {w w' : World} {b : Nat} {o : Obj} {r : Option Nat} (h : w.heap[b]? = some o) (hg : w.grownBy w' r) (hr : r ≠ some b) : w'.heap[b]? = some o :=
  (hg.block b (Array.getElem?_eq_some_iff.1 h).1 (fun e => hr e.symm)).trans h
set_option maxRecDepth 100000 in
set_option maxHeartbeats 2000000 in
theorem rdot_any {lim : Nat} (g : Nat) (s : RS) (w : World) (h : Rq lim w g s) :
    Calls Try.prog 56 #[.pointer (some ⟨g, 0, none⟩)] w fun e w' => e = .returned (.agg #[.int .i64 (dotV s).1, .int .i64 (dotV s).2.1, .int .i64 (dotV s).2.2]) ∧ Rq lim w' g (s3 s) ∧ w.grownBy w' (some g) := by
  have H := Lib.hid h
  have HLT := Lib.hid h.lt
  have HLM := Lib.hid h.lim
  clear h
  obtain ⟨w1, hw1⟩ : ∃ Z, w.alloc (.cells #[.int .i64 0, .int .i64 0, .int .i64 0] 23) = Z := ⟨_, rfl⟩
  have R1 : w1.heap[w.heap.size]? = some (.cells #[.int .i64 0, .int .i64 0, .int .i64 0] 23 (0, 0)) := by subst hw1; exact heap_alloc_new w _
  have g1 : w.grownBy w1 none := by subst hw1; exact World.grownBy_alloc w _ none
  go_enter Try.func56, Try.ntmps56
  go_wp2_with fail
  clear hw1
  refine (rqInt g s w1 (H.out.off g1)).mono ?_
  rintro _ w2 ⟨rfl, P2, g2⟩
  have G2 : w.grownBy w2 (some g) := only_step (only_none g1 _) g2 (fun _ h => .inl h)
  have R2 := blk_other R1 g2 (by intro e; injection e with e; have := HLT.out; omega)
  have z2 := (Array.getElem?_eq_some_iff.1 R2).1
  clear g1 g2 R1
  go_wp2_with fail
  obtain ⟨w3, hw3⟩ : ∃ Z, w2.alloc (.cells #[.int .i64 (vI s), .int .i64 0, .int .i64 0] 23) = Z := ⟨_, rfl⟩
  have D3 : w3.heap[w2.heap.size]? = some (.cells #[.int .i64 (vI s), .int .i64 0, .int .i64 0] 23 (0, 0)) := by subst hw3; exact heap_alloc_new w2 _
  have g3 : w2.grownBy w3 none := by subst hw3; exact World.grownBy_alloc w2 _ none
  rw [hw3]
  clear hw3
  have ob : Hid (w.heap.size < w2.heap.size ∧ g < w2.heap.size) := ⟨z2, by have := HLT.out; omega⟩
  have G3 : w.grownBy w3 (some g) := only_step G2 g3 (fun _ h => by cases h)
  have R3 := blk_other R2 g3 (by simp)
  have P3 := P2.off g3
  clear G2 g3 R2 P2 z2
  refine (rqInt g (stI s) w3 P3).mono ?_
  rintro _ w4 ⟨rfl, P4, g4⟩
  have G4 : w.grownBy w4 (some g) := only_step G3 g4 (fun _ h => .inl h)
  have R4 := blk_other R3 g4 (by intro e; injection e with e; have := HLT.out; omega)
  have D4 := blk_other D3 g4 (by intro e; injection e with e; have := ob.out.2; omega)
  clear G3 R3 D3 g4 P3
  obtain ⟨c0, c1, c2, fr⟩ := heap3 D4
  have fq := fr 1
  clear fr
  go_wp2_with fail
  obtain ⟨w5, hw5⟩ : ∃ Z, w4.setCell ⟨w2.heap.size, 1, none⟩ (.int .i64 (vI (stI s))) = Z := ⟨_, rfl⟩
  have D5 : w5.heap[w2.heap.size]? = some (.cells #[.int .i64 (vI s), .int .i64 (vI (stI s)), .int .i64 0] 23 (0, 0)) := by subst hw5; rw [heap_set D4]; rfl
  have g5 : w4.grownBy w5 (some w2.heap.size) := by subst hw5; exact set_at (only_refl _ _) 1 _
  rw [hw5]
  clear hw5 c0 c1 c2 fq
  have G5 : w.grownBy w5 (some g) := only_step G4 g5 (fun k hk => by cases hk; right; have := ob.out.1; omega)
  have R5 := blk_other R4 g5 (by intro e; injection e with e; have := ob.out.1; omega)
  have P5 := P4.later g5 ⟨by have := HLM.out; have := ob.out.2; omega, by have := ob.out.2; omega⟩
  clear G4 R4 D4 g5 P4
  refine (rqInt g (stI (stI s)) w5 P5).mono ?_
  rintro _ w6 ⟨rfl, P6, g6⟩
  have G6 : w.grownBy w6 (some g) := only_step G5 g6 (fun _ h => .inl h)
  have R6 := blk_other R5 g6 (by intro e; injection e with e; have := HLT.out; omega)
  have D6 := blk_other D5 g6 (by intro e; injection e with e; have := ob.out.2; omega)
  clear G5 R5 D5 g6 P5
  obtain ⟨c0, c1, c2, fr⟩ := heap3 D6
  obtain ⟨r0, r1, r2, fs⟩ := heap3 R6
  have fq := fr 2
  have f0 := fs 0
  have f1 := fs 1
  have f2 := fs 2
  clear fr fs
  have nq : (w2.heap.size = w.heap.size) = False := by simp; have := ob.out.1; omega
  have nq2 : (w.heap.size = w2.heap.size) = False := by simp; have := ob.out.1; omega
  go_wp2_with fail
  obtain ⟨U, hU⟩ : ∃ Z, (((w6.setCell ⟨w2.heap.size, 2, none⟩ (.int .i64 (vI (stI (stI s))))).setCell ⟨w.heap.size, 0, none⟩ (.int .i64 (vI s))).setCell ⟨w.heap.size, 1, none⟩ (.int .i64 (vI (stI s)))).setCell ⟨w.heap.size, 2, none⟩ (.int .i64 (vI (stI (stI s)))) = Z := ⟨_, rfl⟩
  have h6 : w6.grownBy (w6.setCell ⟨w2.heap.size, 2, none⟩ (.int .i64 (vI (stI (stI s))))) (some w2.heap.size) := set_at (only_refl _ _) 2 _
  have R6' := blk_other R6 h6 (by intro e; injection e with e; have := ob.out.1; omega)
  have P6' := P6.later h6 ⟨by have := HLM.out; have := ob.out.2; omega, by have := ob.out.2; omega⟩
  have rU : U.heap[w.heap.size]? = some (.cells #[.int .i64 (vI s), .int .i64 (vI (stI s)), .int .i64 (vI (stI (stI s)))] 23 (0, 0)) := by
    subst hU
    rw [heap_set (heap_set (heap_set R6'))]
    rfl
  have gU : (w6.setCell ⟨w2.heap.size, 2, none⟩ (.int .i64 (vI (stI (stI s))))).grownBy U (some w.heap.size) := by subst hU; exact set_at (set_at (set_at (only_refl _ _) 0 _) 1 _) 2 _
  rw [hU]
  clear hU nq nq2
  obtain ⟨k0, k1, k2, _⟩ := heap3 rU
  exact bodyPost_ret (v := .agg #[.int .i64 (vI s), .int .i64 (vI (stI s)), .int .i64 (vI (stI (stI s)))]) (by simp [results, Try.results56, go_sem, k0, k1, k2]) rfl ⟨rfl, P6'.later gU ⟨by have := HLM.out; have := HLT.out; omega, by have := HLT.out; omega⟩, only_step (only_step G6 h6 (fun k hk => by cases hk; right; have := ob.out.1; omega)) gU (fun k hk => by cases hk; exact .inr (Nat.le_refl _))⟩
end Go.Proofs.Ytcmpeohooiehcaa
