/- Slices that came in, as cells that are read: of strings, of lists of integers. No condition. -/
import Derived.Test.YtmjfemnjkgfgfaaApp
import Derived.Deep.Strs
import Derived.Deep.Matrix
namespace Go.Proofs.Ytmjfemnjkgfgfaa
open Go.RowKit Go.ChangeShapes Go.WideShapes Go.Deep

/-- A slice whose cells are told one by one. -/
theorem has_of_cells {w : World} {x : Addr} {n : Nat} {V : Nat → Value} (h : ∀ i, i < n → w.cell? (x.add i) = some (V i)) : Has w w.heap.size (some x) ((List.range n).map V) := by
  rcases Nat.eq_zero_or_pos n with h0 | h0
  · subst h0; exact .inl rfl
  · obtain ⟨b, off, spot⟩ := x
    have hc0 := h 0 h0
    have hs : spot = none := by simpa [Addr.add] using World.cell?_spot hc0
    subst hs
    have hb : b < w.heap.size := by
      rcases Nat.lt_or_ge b w.heap.size with h | h
      · exact h
      · rw [Addr.add_lit] at hc0
        simp [World.cell?, Array.getElem?_eq_none h] at hc0
    refine .inr ⟨b, off, rfl, hb, fun j u hu => ?_⟩
    rw [List.getElem?_map] at hu
    rcases Nat.lt_or_ge j n with hj | hj
    · rw [List.getElem?_range hj] at hu
      have := h j hj
      rw [Addr.add_lit] at this
      rw [this]
      simpa using hu
    · rw [List.getElem?_eq_none (by simpa using hj)] at hu
      cases hu

/-- A slice of strings that came in. -/
def IsStrs (w : World) (a : Option Addr) (len cap : Nat) (ss : List ByteArray) : Prop :=
  ss.length = len ∧ len ≤ cap ∧ cap ≤ maxLen ∧ Has w w.heap.size a (ss.map Value.string) ∧ ∀ s ∈ ss, s.size ≤ maxLen
theorem strs_of {H : Type} {enc : TypeId × Value → H} {P : Program} {w : World} {base : Nat} {held : Bool} {t e : TypeId} {fuel : Nat} {a : Option Addr} {len cap : Nat} {x : DataW H × List MemPlace} (ht : P.underlying t = some (.slice e)) (he : P.underlying e = some .string) (hc : P.cellsOf e = 1)
    (h : DataW.trod enc P w base (fun _ => true) held fuel t [.slice a len cap] = some x) : ∃ ss, IsStrs w a len cap ss := by
  rcases open_strs ht he hc h with ⟨hcs, _⟩ | ⟨y, l, c, m, Sx, hcs, _, hl, hm, hmm, _, hx⟩
  · simp at hcs
    obtain ⟨rfl, rfl, rfl⟩ := hcs
    exact ⟨[], rfl, Nat.le_refl _, Nat.zero_le _, .inl rfl, fun s hs => by cases hs⟩
  · simp at hcs
    obtain ⟨rfl, rfl, rfl⟩ := hcs
    simp only [if_true] at hmm
    subst hmm
    refine ⟨(List.range len).map Sx, by simp, hl, hm, ?_, fun s hs => ?_⟩
    · have h2 := has_of_cells (w := w) (x := y) (n := len) (V := fun i => .string (Sx i)) (fun i hi => (hx i (by omega)).1)
      rw [List.map_map]; exact h2
    · obtain ⟨i, hi, rfl⟩ := List.mem_map.1 hs
      exact (hx i (by have := List.mem_range.1 hi; omega)).2

/-- A slice of lists of integers that came in. -/
def listCell (x : Option Addr × List Int × Nat) : Value := .slice x.1 x.2.1.length x.2.2
def IsLists (k : IntKind) (w : World) (a : Option Addr) (len cap : Nat) (ls : List (Option Addr × List Int × Nat)) : Prop :=
  ls.length = len ∧ len ≤ cap ∧ cap ≤ maxLen ∧ Has w w.heap.size a (ls.map listCell) ∧ ∀ x ∈ ls, x.2.1.length ≤ maxLen ∧ (∀ m ∈ x.2.1, (Lit.int k m).wf = true) ∧ Has w w.heap.size x.1 (x.2.1.map (Value.int k))
theorem lists_of {H : Type} {enc : TypeId × Value → H} {P : Program} {w : World} {base : Nat} {held : Bool} {t e q : TypeId} {k : IntKind} {fuel : Nat} {a : Option Addr} {len cap : Nat} {x : DataW H × List MemPlace} (ht : P.underlying t = some (.slice e)) (he : P.underlying e = some (.slice q)) (hq : P.underlying q = some (.int k))
    (ce : P.cellsOf e = 1) (cq : P.cellsOf q = 1) (h : DataW.trod enc P w base (fun _ => true) held fuel t [.slice a len cap] = some x) : ∃ ls, IsLists k w a len cap ls := by
  rcases open_int_rows ht he hq ce cq h with ⟨hcs, _⟩ | ⟨y, l, c, A, L, C, Z, hcs, _, hl, hm, _, hx⟩
  · simp at hcs
    obtain ⟨rfl, rfl, rfl⟩ := hcs
    exact ⟨[], rfl, Nat.le_refl _, Nat.zero_le _, .inl rfl, fun s hs => by cases hs⟩
  · simp at hcs
    obtain ⟨rfl, rfl, rfl⟩ := hcs
    have each : ∀ r, r < cap → ∃ zs : List Int, zs.length = L r ∧ Has w w.heap.size (A r) (zs.map (Value.int k)) ∧ (∀ m ∈ zs, (Lit.int k m).wf = true) ∧ L r ≤ C r ∧ C r ≤ maxLen := fun r hr => by
      obtain ⟨_, h1, h2, h3, h4, h5, h6⟩ := hx r hr
      refine of_row (zs := Z r) ?_
      cases hA : A r with
      | none =>
        have h0 := h5 hA
        exact .inl ⟨rfl, by omega, h0, List.eq_nil_of_length_eq_zero (by omega)⟩
      | some a' => exact .inr ⟨a', rfl, h1, h2, h3, fun i hi => (h6 a' hA).2 i (by omega), h4⟩
    obtain ⟨zs, hz⟩ := choose_lt each
    refine ⟨(List.range len).map fun r => (A r, zs r, C r), by simp, hl, hm, ?_, fun s hs => ?_⟩
    · have h2 := has_of_cells (w := w) (x := y) (n := len) (V := fun r => .slice (A r) (zs r).length (C r)) (fun r hr => by
        have h := (hx r (by omega)).1
        rw [(hz r (by omega)).1]; exact h)
      rw [List.map_map]; exact h2
    · obtain ⟨r, hr, rfl⟩ := List.mem_map.1 hs
      have hr := List.mem_range.1 hr
      obtain ⟨z1, z2, z3, z4, z5⟩ := hz r (by omega)
      exact ⟨by simp only; omega, z3, z2⟩
end Go.Proofs.Ytmjfemnjkgfgfaa
