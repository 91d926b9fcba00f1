/- Slices of integers that came in. No condition. -/
import Derived.Test.YtjhnipnocjoelaaNs
import Derived.OpenShut
namespace Go.Proofs.Ytjhnipnocjoelaa
open Go.RowKit Go.ChangeShapes
/-- A slice of integers that came in, as 'Has' says it. -/
theorem of_row {k : IntKind} {w : World} {A : Option Addr} {n c : Nat} {zs : List Int} (h : (A = none ∧ n = 0 ∧ c = 0 ∧ zs = []) ∨
    ∃ x, A = some x ∧ n ≤ c ∧ c ≤ maxLen ∧ zs.length = c ∧ (∀ i, i < zs.length → w.cell? (x.add i) = some (.int k (zs.getD i 0))) ∧ ∀ m ∈ zs, (Lit.int k m).wf = true) :
    ∃ l : List Int, l.length = n ∧ Has w w.heap.size A (l.map (Value.int k)) ∧ (∀ m ∈ l, (Lit.int k m).wf = true) ∧ n ≤ c ∧ c ≤ maxLen := by
  rcases h with ⟨rfl, rfl, rfl, rfl⟩ | ⟨x, rfl, h1, h2, h3, h4, h5⟩
  · exact ⟨[], rfl, .inl rfl, (fun m hm => by simp at hm), Nat.le_refl _, Nat.zero_le _⟩
  · refine ⟨zs.take n, by rw [List.length_take]; omega, ?_, fun m hm => h5 m (List.mem_of_mem_take hm), h1, h2⟩
    rcases Nat.eq_zero_or_pos n with h0 | h0
    · subst h0; exact .inl (by simp)
    · obtain ⟨b, off, spot⟩ := x
      have hc0 := h4 0 (by omega)
      have hs : spot = none := by simpa [Addr.add] using World.cell?_spot hc0
      subst hs
      have hb : b < w.heap.size := by
        rcases Nat.lt_or_ge b w.heap.size with h | h
        · exact h
        · rw [Addr.add_lit] at hc0
          simp [World.cell?, Array.getElem?_eq_none h] at hc0
      refine .inr ⟨b, off, rfl, hb, fun j u hu => ?_⟩
      rw [List.getElem?_map, List.getElem?_take] at hu
      split at hu
      · rename_i hj
        have hjl : j < zs.length := by omega
        rw [List.getElem?_eq_getElem hjl] at hu
        have := h4 j hjl
        rw [Addr.add_lit] at this
        rw [this]
        simp [List.getD, List.getElem?_eq_getElem hjl] at hu ⊢
        exact hu
      · cases hu
end Go.Proofs.Ytjhnipnocjoelaa
