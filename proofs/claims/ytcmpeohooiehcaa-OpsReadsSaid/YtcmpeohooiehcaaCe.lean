/- Contracts of package code's read at its three kinds, and of the closure that each defers: a fault thrown by the step becomes the Reader's error. -/
import Derived.Test.YtcmpeohooiehcaaCt
namespace Go.Proofs.Ytcmpeohooiehcaa
open Go.RowKit

/-- Only blocks g and h of the elder ones have turned. -/
structure Two (w w' : World) (g h : Nat) : Prop where
  os : w'.os = w.os
  tape : w'.tape = w.tape
  output : w'.output = w.output
  size : w.heap.size ≤ w'.heap.size
  block : ∀ k, k < w.heap.size → k ≠ g → k ≠ h → w'.heap[k]? = w.heap[k]?
theorem two_refl (w : World) (g h : Nat) : Two w w g h := ⟨rfl, rfl, rfl, Nat.le_refl _, fun _ _ _ _ => rfl⟩
theorem two_alloc {a w : World} {g h : Nat} (k : Two a w g h) (o : Obj) : Two a (w.alloc o) g h :=
  ⟨k.os, k.tape, k.output, Nat.le_trans k.size (by simp), fun i hi h1 h2 => (Below.heap_alloc w o i (Nat.lt_of_lt_of_le hi k.size)).trans (k.block i hi h1 h2)⟩
theorem two_set {a w : World} {g h : Nat} (k : Two a w g h) {p : Addr} (hp : p.block = g ∨ p.block = h ∨ a.heap.size ≤ p.block) (u : Value) : Two a (w.setCell p u) g h :=
  ⟨k.os, k.tape, k.output, by simpa [World.setCell] using k.size, fun i hi h1 h2 => (Below.heap_setCell w p u i (by rintro rfl; omega)).trans (k.block i hi h1 h2)⟩
theorem two_only {a w w' : World} {g h : Nat} (h1 : a.grownBy w (some g)) (h2 : Two w w' g h) (hh : a.heap.size ≤ h) : a.grownBy w' (some g) :=
  ⟨h2.os.trans h1.os, h2.tape.trans h1.tape, h2.output.trans h1.output, Nat.le_trans h1.size h2.size, fun i hi hne =>
    (h2.block i (Nat.lt_of_lt_of_le hi h1.size) (fun e => hne (by rw [e])) (by omega)).trans (h1.block i hi hne)⟩

theorem tmps17 (a b x4 x5 x3 x6 x7 x0 x1 : Value) : #[a, b] ++ ((((((((Array.replicate 15 undef).setIfInBounds 4 x4).setIfInBounds 5 x5).setIfInBounds 3 x3).setIfInBounds 6 x6).setIfInBounds 7 x7).setIfInBounds 0 x0).setIfInBounds 1 x1) =
    #[a, b, x0, x1, undef, x3, x4, x5, x6, x7, undef, undef, undef, undef, undef, undef, undef] := by
  apply Array.ext'
  simp [List.replicate_succ]
theorem assert_nil (w : World) : (Instr.typeAssert .nilIface 20 99 true).run Try.prog w = .ok (.tuple #[.agg #[.int .i64 0], .bool false]) w := by kernel_rfl
theorem assert_fault (c : Int) (w : World) : (Instr.typeAssert (.iface 99 (.agg #[.int .i64 c])) 20 99 true).run Try.prog w = .ok (.tuple #[.agg #[.int .i64 c], .bool true]) w := by kernel_rfl

set_option maxRecDepth 100000 in
set_option maxHeartbeats 100000 in
theorem catch_int (g b1 b2 : Nat) (c : Int) (old0 : Value) (t1 t2 : TypeId) (l : List Int) (e0 : Int) (w : World) (hR : Rdr w g l e0) (hgb : g < b2) (h1 : w.heap[b1]? = some (.cells #[.pointer (some ⟨g, 0, none⟩)] t1 (0, 0))) (h2 : w.heap[b2]? = some (.cells #[old0] t2 (0, 0))) :
    CallsD Try.prog 72 #[.pointer (some ⟨b1, 0, none⟩), .pointer (some ⟨b2, 0, none⟩)] (.panicking (fault c)) w fun e u' w' =>
      e = .returned (.tuple #[]) ∧ u' = .panicking [{ v := .iface 99 (.agg #[.int .i64 c]), recovered := true }] ∧ Rdr w' g l c ∧ w'.cell? ⟨b2, 0, none⟩ = some (.int .i64 0) ∧ Two w w' g b2 := by
  have hlt := hR.lt
  have hne : ¬ b2 = g := by omega
  have hl1 : b1 < w.heap.size := by
    rcases Nat.lt_or_ge b1 w.heap.size with h | h
    · exact h
    · rw [Array.getElem?_eq_none h] at h1; cases h1
  have hl2 : b2 < w.heap.size := by
    rcases Nat.lt_or_ge b2 w.heap.size with h | h
    · exact h
    · rw [Array.getElem?_eq_none h] at h2; cases h2
  have hR' := hR
  obtain ⟨A, k, hg, ha, hc⟩ := hR
  obtain ⟨W, hW⟩ : ∃ W, W = w.alloc (.cells #[.int .i64 c] 99) := ⟨_, rfl⟩
  have k1 : W.cell? ⟨b1, 0, none⟩ = some (.pointer (some ⟨g, 0, none⟩)) := by rw [hW, World.cell?_alloc_lt w _ _ hl1]; simp [World.cell?, h1]
  have k2 : W.cell? ⟨b2, 0, none⟩ = some old0 := by rw [hW, World.cell?_alloc_lt w _ _ hl2]; simp [World.cell?, h2]
  have k3 : W.cell? ⟨g, 1, none⟩ = some (.int .i64 e0) := by rw [hW, World.cell?_alloc_lt w _ _ hlt]; simp [World.cell?, hg]
  have k4 : W.cell? ⟨w.heap.size, 0, none⟩ = some (.int .i64 c) := by rw [hW]; exact (cell_of_row _ _ 0 _ _ _ (heap_alloc_new w _)).trans rfl
  have hgW : W.heap[g]? = some (.cells #[.slice A l.length k, .int .i64 e0] 82 (0, 0)) := by rw [hW, Below.heap_alloc w _ _ hlt]; exact hg
  have h2W : W.heap[b2]? = some (.cells #[old0] t2 (0, 0)) := by rw [hW, Below.heap_alloc w _ _ hl2]; exact h2
  have f2 : W.frozen? ⟨b2, 0, none⟩ = false := by simp [World.frozen?, h2W]
  have f3 : W.frozen? ⟨g, 1, none⟩ = false := by simp [World.frozen?, hgW]
  have hfin : Hid (Rdr ((W.setCell ⟨g, 1, none⟩ (.int .i64 c)).setCell ⟨b2, 0, none⟩ (.int .i64 0)) g l c ∧ ((W.setCell ⟨g, 1, none⟩ (.int .i64 c)).setCell ⟨b2, 0, none⟩ (.int .i64 0)).cell? ⟨b2, 0, none⟩ = some (.int .i64 0) ∧ Two w ((W.setCell ⟨g, 1, none⟩ (.int .i64 c)).setCell ⟨b2, 0, none⟩ (.int .i64 0)) g b2) := by
    have n1 : (⟨b2, 0, none⟩ : Addr) ≠ ⟨g, 1, none⟩ := by simp
    refine ⟨⟨A, k, ?_, ?_, hc⟩, ?_, ?_⟩
    · rw [Below.heap_setCell _ _ _ _ (by simp; omega), heap_set hgW]; rfl
    · refine (ha.keep (w' := W) (fun p hp => by rw [hW]; exact World.cell?_alloc_lt w _ p (by omega))).keep (fun p hp => ?_)
      rw [World.cell?_setCell_other _ _ _ _ (fun e => ?_), World.cell?_setCell_other _ _ _ _ (fun e => ?_)]
      · subst e; simp at hp
      · subst e; simp at hp; omega
    · exact World.cell?_setCell_same' _ _ _ (by rw [World.cell?_setCell_other _ _ _ _ (Ne.symm n1), k2]; rfl)
    · rw [hW]; exact two_set (two_set (two_alloc (two_refl _ _ _) _) (.inl rfl) _) (.inr (.inl rfl)) _
  clear h1 h2 hg ha hgW h2W hR'
  refine callsD_of_wpS Try.func72 rfl fun c₀ cs hu => ?_
  apply wpS_seq
  apply wpS_region
  simp [wpOpsS, go_sem, recoverD, hu, Try.ntmps72, Exit.thenS, fault, assert_fault]
  rw [← hW]
  refine wpS_of_wp ?_
  rw [tmps17]
  clear hW hu
  go_wp2_with fail
  simp [bodyPostS, results, Try.results72]
  exact hfin.out

set_option maxRecDepth 100000 in
set_option maxHeartbeats 100000 in
theorem catch_text (g b1 b2 : Nat) (c : Int) (old0 : Value) (t1 t2 : TypeId) (l : List Int) (e0 : Int) (w : World) (hR : Rdr w g l e0) (hgb : g < b2) (h1 : w.heap[b1]? = some (.cells #[.pointer (some ⟨g, 0, none⟩)] t1 (0, 0))) (h2 : w.heap[b2]? = some (.cells #[old0] t2 (0, 0))) :
    CallsD Try.prog 75 #[.pointer (some ⟨b1, 0, none⟩), .pointer (some ⟨b2, 0, none⟩)] (.panicking (fault c)) w fun e u' w' =>
      e = .returned (.tuple #[]) ∧ u' = .panicking [{ v := .iface 99 (.agg #[.int .i64 c]), recovered := true }] ∧ Rdr w' g l c ∧ w'.cell? ⟨b2, 0, none⟩ = some (.string { data := #[] }) ∧ Two w w' g b2 := by
  have hlt := hR.lt
  have hne : ¬ b2 = g := by omega
  have hl1 : b1 < w.heap.size := by
    rcases Nat.lt_or_ge b1 w.heap.size with h | h
    · exact h
    · rw [Array.getElem?_eq_none h] at h1; cases h1
  have hl2 : b2 < w.heap.size := by
    rcases Nat.lt_or_ge b2 w.heap.size with h | h
    · exact h
    · rw [Array.getElem?_eq_none h] at h2; cases h2
  have hR' := hR
  obtain ⟨A, k, hg, ha, hc⟩ := hR
  obtain ⟨W, hW⟩ : ∃ W, W = w.alloc (.cells #[.int .i64 c] 99) := ⟨_, rfl⟩
  have k1 : W.cell? ⟨b1, 0, none⟩ = some (.pointer (some ⟨g, 0, none⟩)) := by rw [hW, World.cell?_alloc_lt w _ _ hl1]; simp [World.cell?, h1]
  have k2 : W.cell? ⟨b2, 0, none⟩ = some old0 := by rw [hW, World.cell?_alloc_lt w _ _ hl2]; simp [World.cell?, h2]
  have k3 : W.cell? ⟨g, 1, none⟩ = some (.int .i64 e0) := by rw [hW, World.cell?_alloc_lt w _ _ hlt]; simp [World.cell?, hg]
  have k4 : W.cell? ⟨w.heap.size, 0, none⟩ = some (.int .i64 c) := by rw [hW]; exact (cell_of_row _ _ 0 _ _ _ (heap_alloc_new w _)).trans rfl
  have hgW : W.heap[g]? = some (.cells #[.slice A l.length k, .int .i64 e0] 82 (0, 0)) := by rw [hW, Below.heap_alloc w _ _ hlt]; exact hg
  have h2W : W.heap[b2]? = some (.cells #[old0] t2 (0, 0)) := by rw [hW, Below.heap_alloc w _ _ hl2]; exact h2
  have f2 : W.frozen? ⟨b2, 0, none⟩ = false := by simp [World.frozen?, h2W]
  have f3 : W.frozen? ⟨g, 1, none⟩ = false := by simp [World.frozen?, hgW]
  have hfin : Hid (Rdr ((W.setCell ⟨g, 1, none⟩ (.int .i64 c)).setCell ⟨b2, 0, none⟩ (.string { data := #[] })) g l c ∧ ((W.setCell ⟨g, 1, none⟩ (.int .i64 c)).setCell ⟨b2, 0, none⟩ (.string { data := #[] })).cell? ⟨b2, 0, none⟩ = some (.string { data := #[] }) ∧ Two w ((W.setCell ⟨g, 1, none⟩ (.int .i64 c)).setCell ⟨b2, 0, none⟩ (.string { data := #[] })) g b2) := by
    have n1 : (⟨b2, 0, none⟩ : Addr) ≠ ⟨g, 1, none⟩ := by simp
    refine ⟨⟨A, k, ?_, ?_, hc⟩, ?_, ?_⟩
    · rw [Below.heap_setCell _ _ _ _ (by simp; omega), heap_set hgW]; rfl
    · refine (ha.keep (w' := W) (fun p hp => by rw [hW]; exact World.cell?_alloc_lt w _ p (by omega))).keep (fun p hp => ?_)
      rw [World.cell?_setCell_other _ _ _ _ (fun e => ?_), World.cell?_setCell_other _ _ _ _ (fun e => ?_)]
      · subst e; simp at hp
      · subst e; simp at hp; omega
    · exact World.cell?_setCell_same' _ _ _ (by rw [World.cell?_setCell_other _ _ _ _ (Ne.symm n1), k2]; rfl)
    · rw [hW]; exact two_set (two_set (two_alloc (two_refl _ _ _) _) (.inl rfl) _) (.inr (.inl rfl)) _
  clear h1 h2 hg ha hgW h2W hR'
  refine callsD_of_wpS Try.func75 rfl fun c₀ cs hu => ?_
  apply wpS_seq
  apply wpS_region
  simp [wpOpsS, go_sem, recoverD, hu, Try.ntmps75, Exit.thenS, fault, assert_fault]
  rw [← hW]
  refine wpS_of_wp ?_
  rw [tmps17]
  clear hW hu
  go_wp2_with fail
  simp [bodyPostS, results, Try.results75]
  exact hfin.out

theorem idle_int (b1 b2 : Nat) (w : World) :
    CallsD Try.prog 72 #[.pointer (some ⟨b1, 0, none⟩), .pointer (some ⟨b2, 0, none⟩)] .returning w fun e u' w' => e = .returned (.tuple #[]) ∧ u' = .returning ∧ w.alloc (.cells #[.int .i64 0] 99) = w' := by
  refine callsD_of_wpS Try.func72 rfl fun c₀ cs hu => ?_
  apply wpS_seq
  apply wpS_region
  simp [wpOpsS, go_sem, recoverD, hu, Try.ntmps72, Exit.thenS, assert_nil]
  refine wpS_of_wp ?_
  rw [tmps17]
  obtain ⟨f1, f2, f3, f4, f5, f6, f7⟩ := c₀
  simp only at hu
  subst hu
  go_wp2_with fail
  simp [bodyPostS, results, Try.results72]

theorem idle_text (b1 b2 : Nat) (w : World) :
    CallsD Try.prog 75 #[.pointer (some ⟨b1, 0, none⟩), .pointer (some ⟨b2, 0, none⟩)] .returning w fun e u' w' => e = .returned (.tuple #[]) ∧ u' = .returning ∧ w.alloc (.cells #[.int .i64 0] 99) = w' := by
  refine callsD_of_wpS Try.func75 rfl fun c₀ cs hu => ?_
  apply wpS_seq
  apply wpS_region
  simp [wpOpsS, go_sem, recoverD, hu, Try.ntmps75, Exit.thenS, assert_nil]
  refine wpS_of_wp ?_
  rw [tmps17]
  obtain ⟨f1, f2, f3, f4, f5, f6, f7⟩ := c₀
  simp only at hu
  subst hu
  go_wp2_with fail
  simp [bodyPostS, results, Try.results75]

end Go.Proofs.Ytcmpeohooiehcaa
