/- A heap of timers: plain facts about sifting up and down (container/heap), over functions from places to items. No condition of the program's own. -/
import Derived.Test.YtgfpogmipennaaaMem
namespace Go.Proofs.Ytgfpogmipennaaa

/-- An item: its id, its time. -/
abbrev It := Int × Int
def ilt (a b : It) : Prop := a.2 < b.2 ∨ a.2 = b.2 ∧ a.1 < b.1
def ile (a b : It) : Prop := ¬ ilt b a
theorem ile_refl (a : It) : ile a a := by unfold ile ilt; omega
theorem ile_trans {a b c : It} (h : ile a b) (k : ile b c) : ile a c := by unfold ile ilt at *; omega
theorem ile_of_lt {a b : It} (h : ilt a b) : ile a b := by unfold ile ilt at *; omega
def swp (f : Nat → It) (i j : Nat) : Nat → It := fun k => if k = i then f j else if k = j then f i else f k
/-- Each child is no less than its parent. -/
def Hp (n : Nat) (f : Nat → It) : Prop := ∀ c, 0 < c → c < n → ile (f ((c - 1) / 2)) (f c)
/-- .. but for the pair of j and its parent: on the way up. -/
structure HU (n : Nat) (f : Nat → It) (j : Nat) : Prop where
  edge : ∀ c, 0 < c → c < n → c ≠ j → ile (f ((c - 1) / 2)) (f c)
  grand : ∀ c, 0 < c → c < n → (c - 1) / 2 = j → 0 < j → ile (f ((j - 1) / 2)) (f c)
theorem HU.done {n : Nat} {f : Nat → It} {j : Nat} (h : HU n f j) (hj : j = 0 ∨ ¬ ilt (f j) (f ((j - 1) / 2))) : Hp n f := fun c c0 cn => by
  by_cases e : c = j
  · subst e
    rcases hj with hj | hj
    · omega
    · exact hj
  · exact h.edge c c0 cn e
theorem HU.step {n : Nat} {f : Nat → It} {j : Nat} (h : HU n f j) (j0 : 0 < j) (hlt : ilt (f j) (f ((j - 1) / 2))) : HU n (swp f ((j - 1) / 2) j) ((j - 1) / 2) := by
  obtain ⟨p, hp⟩ : ∃ p, p = (j - 1) / 2 := ⟨_, rfl⟩
  rw [← hp] at hlt ⊢
  have pj : p < j := by omega
  have sp : swp f p j p = f j := by simp [swp]
  have sj : swp f p j j = f p := by unfold swp; rw [if_neg (by omega), if_pos rfl]
  have so : ∀ k, k ≠ p → k ≠ j → swp f p j k = f k := fun k h1 h2 => by unfold swp; rw [if_neg h1, if_neg h2]
  refine ⟨fun c c0 cn hc => ?_, fun c c0 cn hc p0 => ?_⟩
  · by_cases e : c = j
    · subst e; rw [← hp, sp, sj]; exact ile_of_lt hlt
    · rw [so c hc e]
      by_cases e1 : (c - 1) / 2 = p
      · rw [e1, sp]
        exact ile_trans (ile_of_lt hlt) (e1 ▸ h.edge c c0 cn e)
      · by_cases e2 : (c - 1) / 2 = j
        · rw [e2, sj]; rw [hp]; exact h.grand c c0 cn e2 j0
        · rw [so _ e1 e2]; exact h.edge c c0 cn e
  · have g0 : (p - 1) / 2 ≠ p := by omega
    have g1 : (p - 1) / 2 ≠ j := by omega
    rw [so _ g0 g1]
    have hpp := h.edge p p0 (by omega) (by omega)
    by_cases e : c = j
    · subst e; rw [sj]; exact hpp
    · rw [so c (by omega) e]
      exact ile_trans hpp (by have := h.edge c c0 cn e; rwa [hc] at this)
/-- .. but for the pairs of i and its children: on the way down. -/
structure HD (n : Nat) (f : Nat → It) (i : Nat) : Prop where
  edge : ∀ c, 0 < c → c < n → (c - 1) / 2 ≠ i → ile (f ((c - 1) / 2)) (f c)
  grand : ∀ c, 0 < c → c < n → (c - 1) / 2 = i → 0 < i → ile (f ((i - 1) / 2)) (f c)
theorem HD.done {n : Nat} {f : Nat → It} {i : Nat} (h : HD n f i) (h1 : 2 * i + 1 < n → ile (f i) (f (2 * i + 1))) (h2 : 2 * i + 2 < n → ile (f i) (f (2 * i + 2))) : Hp n f := fun c c0 cn => by
  by_cases e : (c - 1) / 2 = i
  · rw [e]
    by_cases e2 : c = 2 * i + 1
    · rw [e2]; exact h1 (by omega)
    · obtain rfl : c = 2 * i + 2 := by omega
      exact h2 cn
  · exact h.edge c c0 cn e
/-- j: the lesser of i's children. -/
theorem HD.step {n : Nat} {f : Nat → It} {i j : Nat} (h : HD n f i) (hj : (j - 1) / 2 = i) (j0 : 0 < j) (jn : j < n) (hlt : ilt (f j) (f i)) (hmin : ∀ c, 0 < c → c < n → (c - 1) / 2 = i → ile (f j) (f c)) : HD n (swp f i j) j := by
  have ij : i < j := by omega
  have si : swp f i j i = f j := by simp [swp]
  have sj : swp f i j j = f i := by unfold swp; rw [if_neg (by omega), if_pos rfl]
  have so : ∀ k, k ≠ i → k ≠ j → swp f i j k = f k := fun k h1 h2 => by unfold swp; rw [if_neg h1, if_neg h2]
  refine ⟨fun c c0 cn hc => ?_, fun c c0 cn hc _ => ?_⟩
  · by_cases e1 : (c - 1) / 2 = i
    · rw [e1, si]
      by_cases e : c = j
      · subst e; rw [sj]; exact ile_of_lt hlt
      · rw [so c (by omega) e]; exact hmin c c0 cn e1
    · rw [so _ e1 hc]
      by_cases e : c = i
      · subst e
        rw [si]
        exact h.grand j j0 jn hj c0
      · rw [so c e (by omega)]; exact h.edge c c0 cn e1
  · rw [hj, si, so c (by omega) (by omega)]
    have := h.edge c c0 cn (by omega)
    rwa [hc] at this
/-- The first is the least. -/
theorem Hp.first {n : Nat} {f : Nat → It} (h : Hp n f) : ∀ c, c < n → ile (f 0) (f c) := by
  intro c
  induction c using Nat.strongRecOn with
  | ind c ih =>
    intro cn
    by_cases c0 : c = 0
    · subst c0; exact ile_refl _
    · exact ile_trans (ih ((c - 1) / 2) (by omega) (by omega)) (h c (by omega) cn)
/-- A new item at the end: only its own pair may be out of order. -/
theorem Hp.push {n : Nat} {f : Nat → It} (h : Hp n f) (x : It) : HU (n + 1) (fun k => if k = n then x else f k) n := by
  refine ⟨fun c c0 cn hc => ?_, fun c c0 cn hc n0 => by omega⟩
  show ile (if (c - 1) / 2 = n then x else f ((c - 1) / 2)) (if c = n then x else f c)
  rw [if_neg (by omega), if_neg hc]
  exact h c c0 (by omega)
/-- The last put first, one fewer: only the first's pairs may be out of order. -/
theorem Hp.pop {n : Nat} {f : Nat → It} (h : Hp (n + 1) f) : HD n (swp f 0 n) 0 := by
  refine ⟨fun c c0 cn hc => ?_, fun c c0 cn hc i0 => by omega⟩
  have so : ∀ k, k ≠ 0 → k ≠ n → swp f 0 n k = f k := fun k h1 h2 => by unfold swp; rw [if_neg h1, if_neg h2]
  rw [so _ hc (by omega), so c (by omega) (by omega)]
  exact h c c0 (by omega)
end Go.Proofs.Ytgfpogmipennaaa
