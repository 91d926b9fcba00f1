/- An operation's values, and what the law's Good makes of them: pure. No condition of the program's own. -/
import Derived.Test.YtcmpeohooiehcaaOcd
import Derived.Test.YtcmpeohooiehcaaOwi
namespace Go.Proofs.Ytcmpeohooiehcaa
open Go.RowKit Go.Deep
abbrev Dt := Int × Int × Int
instance (x y : Dt) : Decidable (dless x y) := inferInstanceAs (Decidable (_ ∨ _))
theorem dless_tri (x y : Dt) (h1 : ¬ dless x y) (h2 : x ≠ y) : dless y x := by
  obtain ⟨a, b, c⟩ := x
  obtain ⟨a', b', c'⟩ := y
  unfold dless at *
  simp only [ne_eq, Prod.mk.injEq] at h1 h2 ⊢
  omega
theorem dless_irr (x : Dt) : ¬ dless x x := by unfold dless; omega
/-- A dot laid in its place. -/
def insD : List Dt → Dt → List Dt
  | [], x => [x]
  | y :: r, x => if dless y x then y :: insD r x else if y = x then y :: r else x :: y :: r
theorem insD_end : ∀ (L : List Dt) (x : Dt), (∀ y ∈ L, dless y x) → insD L x = L ++ [x]
  | [], _, _ => rfl
  | y :: r, x, h => by
    rw [insD, if_pos (h y (by simp)), insD_end r x (fun z hz => h z (by simp [hz]))]; rfl
theorem insD_same : ∀ (k : Nat) (L : List Dt) (x : Dt), (∀ j y, j < k → L[j]? = some y → dless y x) → L[k]? = some x → insD L x = L
  | 0, [], _, _, h => by simp at h
  | 0, y :: r, x, _, h => by
    obtain rfl : y = x := by simpa using h
    rw [insD, if_neg (dless_irr _), if_pos rfl]
  | k + 1, [], _, _, h => by simp at h
  | k + 1, y :: r, x, hl, h => by
    rw [insD, if_pos (hl 0 y (by omega) rfl), insD_same k r x (fun j z hj hz => hl (j + 1) z (by omega) (by simpa using hz)) (by simpa using h)]
theorem insD_mid : ∀ (k : Nat) (L : List Dt) (x y : Dt), (∀ j y, j < k → L[j]? = some y → dless y x) → L[k]? = some y → ¬ dless y x → y ≠ x → insD L x = L.take k ++ x :: L.drop k
  | 0, [], _, _, _, h, _, _ => by simp at h
  | 0, z :: r, x, y, _, h, h1, h2 => by
    obtain rfl : z = y := by simpa using h
    rw [insD, if_neg h1, if_neg h2]; rfl
  | k + 1, [], _, _, _, h, _, _ => by simp at h
  | k + 1, z :: r, x, y, hl, h, h1, h2 => by
    rw [insD, if_pos (hl 0 z (by omega) rfl), insD_mid k r x y (fun j u hj hu => hl (j + 1) u (by omega) (by simpa using hu)) (by simpa using h) h1 h2]; rfl
theorem rises_cons (a : Dt) (r : List Dt) : rises (a :: r) ↔ (∀ b, r.head? = some b → dless a b) ∧ rises r := by
  constructor
  · intro h
    refine ⟨fun b hb => h 0 a b rfl (by simpa [List.head?_eq_getElem?] using hb), fun k x y hx hy => h (k + 1) x y (by simpa using hx) (by simpa using hy)⟩
  · rintro ⟨h1, h2⟩ k x y hx hy
    cases k with
    | zero => simp at hx hy; subst hx; exact h1 y (by rw [List.head?_eq_getElem?]; exact hy)
    | succ k => exact h2 k x y (by simpa using hx) (by simpa using hy)
theorem insD_head (L : List Dt) (x b : Dt) (h : (insD L x).head? = some b) : b = x ∨ L.head? = some b := by
  cases L with
  | nil => left; simpa [insD] using h.symm
  | cons y r =>
    rw [insD] at h
    split at h
    · right; simpa using h
    · split at h
      · right; simpa using h
      · left; simpa using h.symm
theorem insD_rises : ∀ (L : List Dt) (x : Dt), rises L → rises (insD L x)
  | [], x, _ => by intro k a b ha hb; cases k <;> simp [insD] at hb
  | y :: r, x, h => by
    obtain ⟨h1, h2⟩ := (rises_cons y r).1 h
    rw [insD]
    by_cases hl : dless y x
    · rw [if_pos hl, rises_cons]
      refine ⟨fun b hb => ?_, insD_rises r x h2⟩
      rcases insD_head r x b hb with rfl | hb
      · exact hl
      · exact h1 b hb
    · rw [if_neg hl]
      by_cases he : y = x
      · rw [if_pos he]; exact h
      · rw [if_neg he, rises_cons]
        exact ⟨fun b hb => by obtain rfl : y = b := by simpa using hb
                              exact dless_tri _ _ hl he, h⟩
theorem insD_len (L : List Dt) (x : Dt) : (insD L x).length ≤ L.length + 1 := by
  induction L with
  | nil => simp [insD]
  | cons y r ih =>
    rw [insD]
    split
    · simp only [List.length_cons]; omega
    · split <;> simp
def dotG (p : Dt) : Dt := (p.1 % 6, 1 + p.2.1 % 3, 1 + p.2.2 % 12)
def foldG (l : List Dt) : List Dt := l.foldl (fun L p => insD L (dotG p)) []
theorem foldG_snoc (l : List Dt) (p : Dt) : foldG (l ++ [p]) = insD (foldG l) (dotG p) := by simp [foldG]
theorem foldG_rises (l : List Dt) : rises (foldG l) := by
  have key : ∀ (l : List Dt) (L : List Dt), rises L → rises (l.foldl (fun L p => insD L (dotG p)) L) := fun l => by
    induction l with
    | nil => intro L h; exact h
    | cons p r ih => intro L h; exact ih _ (insD_rises L _ h)
  exact key l [] (by intro k x y hx; simp at hx)
theorem foldG_len (l : List Dt) : (foldG l).length ≤ l.length := by
  have key : ∀ (l : List Dt) (L : List Dt), (l.foldl (fun L p => insD L (dotG p)) L).length ≤ L.length + l.length := fun l => by
    induction l with
    | nil => intro L; simp
    | cons p r ih =>
      intro L
      have := ih (insD L (dotG p))
      have := insD_len L (dotG p)
      simp only [List.foldl_cons, List.length_cons]
      omega
  have := key l []
  simpa [foldG] using this
def dotsG (l : List Dt) : List Dt := foldG (l.take 8)
theorem dotsG_rises (l : List Dt) : rises (dotsG l) := foldG_rises _
theorem dotsG_len (l : List Dt) : (dotsG l).length ≤ 8 := by
  have := foldG_len (l.take 8)
  have : (l.take 8).length ≤ 8 := by rw [List.length_take]; omega
  show (foldG (l.take 8)).length ≤ 8
  omega
/-- What Good makes of the number, by the kind. -/
def nG (kind n : Int) : Int := if kind = 4 then (if n % 12 - 6 = 0 then 6 else n % 12 - 6) else if kind = 5 then n % 30 else n
def keyP (r : Nat) : ByteArray := if r = 0 then { data := #[97] } else if r = 1 then { data := #[98] } else { data := #[120] }
def textP (r : Nat) : ByteArray := if r = 0 then { data := #[] } else if r = 1 then { data := #[116] } else if r = 2 then { data := #[85, 32] } else { data := #[32, 118] }
end Go.Proofs.Ytcmpeohooiehcaa
