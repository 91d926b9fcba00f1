/- Rows of bytes that came in. No condition of the program's own. -/
import Derived.Test.YtpfahfakinonnaaDoorGsn
import Derived.Test.YtpfahfakinonnaaDoorCam
namespace Go.Proofs.YtpfahfakinonnaaDoor
open Go.RowKit Go.ChangeShapes
/-- Rows of bytes that are read. -/
def RR (w : World) (A : Option Addr) (L : List (List Int)) : Prop :=
  ∀ (i : Nat) (x : List Int), L[i]? = some x → ∃ b off Ax cx, A = some ⟨b, off, none⟩ ∧ b < w.heap.size ∧ w.cell? ⟨b, off + i, none⟩ = some (.slice Ax x.length cx) ∧ Has w w.heap.size Ax (bs x)
theorem RR.grow {w w' : World} {A : Option Addr} {L : List (List Int)} (h : RR w A L) (hg : w.grownBy w' none) : RR w' A L := fun i x hx => by
  obtain ⟨b, off, Ax, cx, h1, h2, h3, h4⟩ := h i x hx
  exact ⟨b, off, Ax, cx, h1, Nat.lt_of_lt_of_le h2 hg.size, (World.cell?_of_block (hg.block b h2 (by simp))).trans h3, (h4.only hg (Nat.le_refl _) (fun _ h => by cases h)).more hg.size⟩
theorem RL.rr {w : World} {base c n : Nat} {A : Option Addr} {L : List (List Int)} (h : RL w base (.slice A n c) L) : RR w A L := fun i x hx => by
  obtain ⟨es, ho, he⟩ := h
  have hi : i < L.length := (List.getElem?_eq_some_iff.1 hx).1
  obtain ⟨g, cap, hv, _⟩ := own_form ho (by omega)
  injection hv with e1 e2 e3
  subst e1
  obtain ⟨Ax, cx, h1, h2, h3⟩ := he i x hx
  have hc := ho.cells (g := g) rfl i _ h1
  rw [Addr.add_lit, Nat.zero_add] at hc
  refine ⟨g, 0, Ax, cx, rfl, (ho.lt g rfl).2, by rw [Nat.zero_add]; exact hc, ?_⟩
  rcases h3 with h0 | ⟨b, off, e, hb, _, hcc⟩
  · exact .inl (by rw [h0]; rfl)
  · exact .inr ⟨b, off, e, hb, hcc⟩
theorem IsLists.rr {w : World} {A : Option Addr} {n c : Nat} {ls : List (Option Addr × List Int × Nat)} (h : IsLists .u8 w A n c ls) : RR w A (ls.map (·.2.1)) := fun i x hx => by
  obtain ⟨h1, _, _, hc, he⟩ := h
  rw [List.getElem?_map, Option.map_eq_some_iff] at hx
  obtain ⟨y, hy, rfl⟩ := hx
  have hm : (ls.map listCell)[i]? = some (listCell y) := by rw [List.getElem?_map, hy]; rfl
  rcases hc with h0 | ⟨b, off, e, hb, hcc⟩
  · rw [h0] at hm; simp at hm
  · exact ⟨b, off, y.1, y.2.2, e, hb, hcc i _ hm, (he y (List.mem_of_getElem? hy)).2.2⟩
theorem RR.take {w : World} {A : Option Addr} {L : List (List Int)} (h : RR w A L) (n : Nat) : RR w A (L.take n) := fun i x hx => by
  rw [List.getElem?_take] at hx
  split at hx
  · exact h i x hx
  · cases hx

end Go.Proofs.YtpfahfakinonnaaDoor
