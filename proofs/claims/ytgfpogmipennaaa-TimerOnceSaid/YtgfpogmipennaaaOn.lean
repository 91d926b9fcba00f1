/- One heap of timers beside blocks of a law's own: arrays. No condition of the program's own. -/
import Derived.Test.YtgfpogmipennaaaSp
namespace Go.Proofs.Ytgfpogmipennaaa
open Go.RowKit Go.Deep
/-- A heap, and blocks of the law's own (P), that share none. -/
def One (w wr : World) (B : Nat) (S : List It) (P : Nat → Prop) : Prop :=
  ∃ F : Nat → Prop, TS wr B S F ∧ (∀ k, F k → w.heap.size ≤ k ∧ k < wr.heap.size) ∧ (∀ k, P k → k < wr.heap.size ∧ ¬ F k) ∧ OnlyF (Mine w) w wr
theorem One.only {w wr : World} {B : Nat} {S : List It} {P : Nat → Prop} (h : One w wr B S P) : OnlyF (Mine w) w wr := by
  obtain ⟨_, _, _, _, h⟩ := h; exact h
theorem One.less {w wr : World} {B : Nat} {S : List It} {P Q : Nat → Prop} (h : One w wr B S P) (hQ : ∀ k, Q k → P k) : One w wr B S Q := by
  obtain ⟨F, a, c, f, g⟩ := h
  exact ⟨F, a, c, fun k hk => f k (hQ k hk), g⟩
theorem One.at_ {w wr : World} {B : Nat} {S : List It} {P : Nat → Prop} (h : One w wr B S P) : At w wr B S := by
  obtain ⟨F, a, c, f, g⟩ := h
  exact ⟨a.wide (fun k hk => (c k hk).1), g⟩
theorem One.srt {w wr : World} {B : Nat} {S : List It} {P : Nat → Prop} (h : One w wr B S P) : Srt S := h.at_.1.srt
theorem One.nodup {w wr : World} {B : Nat} {S : List It} {P : Nat → Prop} (h : One w wr B S P) : (ids S).Nodup := h.at_.1.nodup
theorem One.grow {w wr w1 : World} {B : Nat} {S : List It} {P Q : Nat → Prop} (h : One w wr B S P) (o : OnlyF (fun k => P k ∧ w.heap.size ≤ k) wr w1) (hQ : ∀ k, Q k → k < w1.heap.size ∧ (P k ∨ wr.heap.size ≤ k)) : One w w1 B S Q := by
  obtain ⟨F, a, c, f, g⟩ := h
  refine ⟨F, a.apart o (fun k hk _ hp => (f k hp.1).2 hk), fun k hk => ⟨(c k hk).1, Nat.lt_of_lt_of_le (c k hk).2 o.size⟩, fun k hk => ⟨(hQ k hk).1, ?_⟩, ?_⟩
  · intro hs
    rcases (hQ k hk).2 with h1 | h1
    · exact (f k h1).2 hs
    · have := (c k hs).2; omega
  · exact ⟨o.os.trans g.os, o.tape.trans g.tape, o.output.trans g.output, Nat.le_trans g.size o.size, fun k hk hF => (o.block k (Nat.lt_of_lt_of_le hk g.size) (fun hp => hF hp.2)).trans (g.block k hk hF)⟩
theorem One.drewN {w wr : World} {B : Nat} {S : List It} {P : Nat → Prop} (h : One w wr B S P) (n : Nat) : One w (wr.drewN n) B S P := by
  obtain ⟨F, a, c, f, g⟩ := h
  exact ⟨F, a.keep (only_drewN (only_refl _ _) n), c, f, g.trans (OnlyF.still (only_drewN (only_refl _ _) n))⟩
/-- A cell of a block of the law's own is set. -/
theorem One.set {w wr : World} {B : Nat} {S : List It} {P : Nat → Prop} (h : One w wr B S P) {b : Nat} (hb : P b) (hw : w.heap.size ≤ b) (j : Nat) (u : Value) : One w (wr.setCell ⟨b, j, none⟩ u) B S P := by
  refine h.grow (OnlyF.of (cell_only (only_refl _ _) j u) (fun k e => by cases e; exact ⟨hb, hw⟩)) (fun k hk => ⟨?_, .inl hk⟩)
  obtain ⟨F, a, c, f, g⟩ := h
  have := (f k hk).1
  simpa [World.setCell] using this
theorem One.alloc {w wr : World} {B : Nat} {S : List It} {P : Nat → Prop} (h : One w wr B S P) (o : Obj) : One w (wr.alloc o) B S (fun k => P k ∨ k = wr.heap.size) := by
  refine h.grow (OnlyF.still (World.grownBy_alloc wr o none)) (fun k hk => ?_)
  have hs : (wr.alloc o).heap.size = wr.heap.size + 1 := by simp
  rcases hk with hk | hk
  · obtain ⟨F, a, c, f, g⟩ := h
    exact ⟨by have := (f k hk).1; omega, .inl hk⟩
  · exact ⟨by omega, .inr (by omega)⟩
theorem One.next {w wr : World} {B : Nat} {S : List It} {P : Nat → Prop} (h : One w wr B S P) : ∃ F : Nat → Prop, (∀ k, wr.heap.size ≤ k → F k) ∧ TS wr B S F ∧ (∀ k, P k → k < wr.heap.size ∧ ¬ F k) ∧
    ∀ (w1 : World) (S' : List It) (G : Nat → Prop), TS w1 B S' G → (∀ k, G k → F k) → OnlyF F wr w1 → ∀ Q : Nat → Prop, (∀ k, Q k → k < w1.heap.size ∧ wr.heap.size ≤ k ∧ ¬ G k) → One w w1 B S' (fun k => P k ∨ Q k) := by
  obtain ⟨F0, a, c, f, g⟩ := h
  refine ⟨fun k => F0 k ∨ wr.heap.size ≤ k, fun k hk => .inr hk, a.wide (fun k hk => .inl hk), fun k hk => ⟨(f k hk).1, fun h => ?_⟩, fun w1 S' G t1 hG o Q hQ => ?_⟩
  · rcases h with h | h
    · exact (f k hk).2 h
    · have := (f k hk).1; omega
  · have hw : w.heap.size ≤ wr.heap.size := g.size
    refine ⟨fun k => G k ∧ k < w1.heap.size, t1.narrow, fun k hk => ⟨?_, hk.2⟩, fun k hk => ?_, ?_⟩
    · rcases hG k hk.1 with h | h
      · exact (c k h).1
      · omega
    · rcases hk with hk | hk
      · refine ⟨Nat.lt_of_lt_of_le (f k hk).1 o.size, fun h => ?_⟩
        rcases hG k h.1 with h1 | h1
        · exact (f k hk).2 h1
        · have := (f k hk).1; omega
      · exact ⟨(hQ k hk).1, fun h => (hQ k hk).2.2 h.1⟩
    · exact g.trans ⟨o.os, o.tape, o.output, o.size, fun k hk hM => o.block k hk (fun h => hM (by
        rcases h with h | h
        · exact (c k h).1
        · exact Nat.le_trans hw h))⟩
theorem one_new {w wr : World} (o : OnlyF (Mine w) w wr) : Calls Try.prog 11 #[] wr fun e w' => ∃ B, e = .returned (.pointer (some ⟨B, 0, none⟩)) ∧ One w w' B [] (fun _ => False) := by
  refine (tnew wr).mono ?_
  rintro e w1 ⟨B, rfl, h1, t1, g1⟩
  have l1 : B < w1.heap.size := by
    obtain ⟨l, ⟨v, mv, q, _⟩, _⟩ := t1
    exact q.lt B (.inl rfl)
  have := o.size
  exact ⟨B, rfl, _, t1, fun k hk => by subst hk; omega, fun k hk => hk.elim, o.trans (OnlyF.still g1)⟩
theorem one_set {w wr : World} {B : Nat} {S : List It} {P : Nat → Prop} (h : One w wr B S P) (hl : S.length ≤ 1099511627770) (id at_ : Int) :
    Calls Try.prog 14 #[.pointer (some ⟨B, 0, none⟩), .int .i64 id, .int .i64 at_] wr fun e w' => e = .returned (.int .i64 (setR id S)) ∧ One w w' B (setT id at_ S) P ∧ ∀ k, P k → w'.heap[k]? = wr.heap[k]? := by
  obtain ⟨F, hN, t, hP, nx⟩ := h.next
  refine (tset B id at_ S F wr t hl hN).mono ?_
  rintro e w1 ⟨rfl, t1, o1⟩
  exact ⟨rfl, (nx w1 _ F t1 (fun _ h => h) o1 (fun _ => False) (fun _ h => h.elim)).less (fun k hk => .inl hk), fun k hk => o1.block k (hP k hk).1 (hP k hk).2⟩
theorem one_cancel {w wr : World} {B : Nat} {S : List It} {P : Nat → Prop} (h : One w wr B S P) (hl : S.length ≤ 1099511627770) (id : Int) :
    Calls Try.prog 16 #[.pointer (some ⟨B, 0, none⟩), .int .i64 id] wr fun e w' => e = .returned (.bool (isIn id S)) ∧ One w w' B (del id S) P ∧ ∀ k, P k → w'.heap[k]? = wr.heap[k]? := by
  obtain ⟨F, hN, t, hP, nx⟩ := h.next
  refine (tcancel B id S F wr t hl).mono ?_
  rintro e w1 ⟨rfl, t1, o1⟩
  exact ⟨rfl, (nx w1 _ F t1 (fun _ h => h) o1 (fun _ => False) (fun _ h => h.elim)).less (fun k hk => .inl hk), fun k hk => o1.block k (hP k hk).1 (hP k hk).2⟩
theorem one_due {w wr : World} {B : Nat} {S : List It} {P : Nat → Prop} (h : One w wr B S P) (hl : S.length ≤ 1099511627770) (now : Int) {l : List Int} {C : List It} (hA : ids (S.takeWhile (isDue now)) = l) (hC : S.dropWhile (isDue now) = C) :
    Calls Try.prog 19 #[.pointer (some ⟨B, 0, none⟩), .int .i64 now] wr fun e w' => ∃ X c, e = .returned (.slice X l.length c) ∧ w'.ownsRow wr.heap.size 3 1 (.slice X l.length c) l.length (ns l) ∧
      One w w' B C (fun k => P k ∨ (Value.slice X l.length c).ownBlock = some k) ∧ (∀ k, P k → w'.heap[k]? = wr.heap[k]?) ∧ wr.heap.size ≤ w'.heap.size := by
  obtain ⟨F, hN, t, hP, nx⟩ := h.next
  refine (tdue B now S F wr t hl).mono ?_
  rintro e w1 ⟨v, rfl, r, t1, o1⟩
  rw [hA, ns_len] at r
  rw [hC] at t1
  obtain ⟨X, c, rfl⟩ := row_slice r
  exact ⟨X, c, rfl, r, nx w1 _ _ t1 (fun _ h => h.1) o1 _ (fun k hk => ⟨row_lt r k hk, row_ge r k hk, fun h => by have := row_ge r k hk; omega⟩), fun k hk => o1.block k (hP k hk).1 (hP k hk).2, o1.size⟩
theorem one_next {w wr : World} {B : Nat} {S : List It} {P : Nat → Prop} (h : One w wr B S P) :
    Calls Try.prog 21 #[.pointer (some ⟨B, 0, none⟩)] wr fun e w' => e = .returned (.tuple #[.int .i64 ((S.head?.map (·.2)).getD 0), .bool (!S.isEmpty)]) ∧ One w w' B S P ∧ wr.grownBy w' none := by
  obtain ⟨F, a, c, f, g⟩ := h
  refine (tnext B S F wr a).mono ?_
  rintro e w1 ⟨rfl, g1⟩
  exact ⟨rfl, One.grow ⟨F, a, c, f, g⟩ (OnlyF.still g1) (fun k hk => ⟨Nat.lt_of_lt_of_le (f k hk).1 g1.size, .inl hk⟩), g1⟩
theorem one_len {w wr : World} {B : Nat} {S : List It} {P : Nat → Prop} (h : One w wr B S P) : Calls Try.prog 23 #[.pointer (some ⟨B, 0, none⟩)] wr fun e w' => e = .returned (.int .i64 S.length) ∧ wr = w' := by
  obtain ⟨F, a, c, f, g⟩ := h
  exact tlen B S F wr a

/-! ### arrays of a law's own -/
def arr (n : Nat) (f : Nat → Value) : Array Value := ((List.range n).map f).toArray
def upd {α : Type} (f : Nat → α) (k : Nat) (v : α) : Nat → α := fun j => if j = k then v else f j
theorem arr_get {n : Nat} {f : Nat → Value} {j : Nat} (h : j < n) : (arr n f)[j]? = some (f j) := by simp [arr, h]
theorem arr_set {n : Nat} {f : Nat → Value} {k : Nat} {v : Value} (hk : k < n) : (arr n f).setIfInBounds k v = arr n (upd f k v) := by
  apply Array.ext_getElem?
  intro j
  rw [Array.getElem?_setIfInBounds]
  by_cases e : k = j
  · subst e
    rw [if_pos rfl, if_pos (by simpa [arr] using hk), arr_get hk]
    simp [upd]
  · rw [if_neg e]
    by_cases hj : j < n
    · rw [arr_get hj, arr_get hj]; unfold upd; rw [if_neg (fun h => e h.symm)]
    · simp [arr, hj]
/-- Block b is an array of n cells. -/
def Ar (w : World) (b n : Nat) (T : TypeId) (f : Nat → Value) : Prop := w.heap[b]? = some (.cells (arr n f) T (0, 0))
theorem Ar.cell {w : World} {b n : Nat} {T : TypeId} {f : Nat → Value} (h : Ar w b n T f) {j : Nat} (hj : j < n) : w.cell? ⟨b, j, none⟩ = some (f j) := cell_of_heap h j _ (arr_get hj)
theorem Ar.thaw {w : World} {b n : Nat} {T : TypeId} {f : Nat → Value} (h : Ar w b n T f) (j : Nat) : w.frozen? ⟨b, j, none⟩ = false := thaw_of_heap h j
theorem Ar.put {w : World} {b n : Nat} {T : TypeId} {f : Nat → Value} (h : Ar w b n T f) {j : Nat} (hj : j < n) (v : Value) : Ar (w.setCell ⟨b, j, none⟩ v) b n T (upd f j v) := by
  have := heap_set1 h j v
  rw [arr_set hj] at this
  exact this
theorem Ar.of {w w' : World} {b n : Nat} {T : TypeId} {f : Nat → Value} (h : Ar w b n T f) (e : w'.heap[b]? = w.heap[b]?) : Ar w' b n T f := e.trans h
theorem upd_map {α : Type} (g : α → Value) (f : Nat → α) (k : Nat) (v : α) : upd (fun j => g (f j)) k (g v) = fun j => g (upd f k v j) := by
  funext j; unfold upd; split <;> rfl
end Go.Proofs.Ytgfpogmipennaaa
