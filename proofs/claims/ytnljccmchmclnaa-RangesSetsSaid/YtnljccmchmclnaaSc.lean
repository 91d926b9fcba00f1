/- How many numbers of a row lie below k; what RangesSets asks; plain facts. No condition of the program's own. -/
import Derived.Test.YtnljccmchmclnaaSa
import Derived.Test.YtnljccmchmclnaaSb
namespace Go.Proofs.Ytnljccmchmclnaa

def cnt : List E2 → Int → Int
  | [], _ => 0
  | r :: l, k => max 0 (min r.2 k - r.1) + cnt l k
theorem cnt_zero (l : List E2) (h : ∀ r ∈ l, okR r) : cnt l 0 = 0 := by
  induction l with
  | nil => rfl
  | cons r l ih =>
    have a := h r (by simp)
    unfold okR at a
    rw [cnt, ih fun x hx => h x (by simp [hx])]; omega
theorem cnt_far (l : List E2) (k : Int) (h : ∀ r ∈ l, k ≤ r.1) : cnt l k = 0 := by
  induction l with
  | nil => rfl
  | cons r l ih =>
    have a := h r (by simp)
    rw [cnt, ih fun x hx => h x (by simp [hx])]; omega
theorem cnt_all (l : List E2) (hw : RW l) (k : Int) (h : ∀ r ∈ l, r.2 ≤ k) : cnt l k = rlen l := by
  induction l with
  | nil => rfl
  | cons r l ih =>
    have a := h r (by simp)
    obtain ⟨b, _, c⟩ := RW.cons.1 hw
    have := b.2.1
    rw [cnt, rlen, ih c fun x hx => h x (by simp [hx])]; omega
theorem cnt_nn (l : List E2) (k : Int) : 0 ≤ cnt l k := by
  induction l with
  | nil => exact Int.le_refl _
  | cons r l ih => rw [cnt]; omega
theorem cnt_le (l : List E2) (hw : RW l) (k : Int) : cnt l k ≤ rlen l := by
  induction l with
  | nil => exact Int.le_refl _
  | cons r l ih =>
    obtain ⟨b, _, c⟩ := RW.cons.1 hw
    have := b.2.1
    have := ih c
    rw [cnt, rlen]; omega
theorem cnt_lt (l : List E2) (hw : RW l) (k : Int) (h : mem l k) : cnt l k < rlen l := by
  induction l with
  | nil => exact ((mem_nil k).1 h).elim
  | cons r l ih =>
    obtain ⟨b, _, c⟩ := RW.cons.1 hw
    have := b.2.1
    have := cnt_le l c k
    rw [cnt, rlen]
    rcases (mem_cons _ _ _).1 h with h | h
    · omega
    · have := ih c h; omega
theorem cnt_up (l : List E2) (hw : RW l) (k : Int) (h : mem l k) : cnt l (k + 1) = cnt l k + 1 := by
  induction l with
  | nil => exact ((mem_nil k).1 h).elim
  | cons r l ih =>
    obtain ⟨b, f, c⟩ := RW.cons.1 hw
    have := b.2.1
    rw [cnt, cnt]
    rcases (mem_cons _ _ _).1 h with h | h
    · rw [cnt_far l (k + 1) fun x hx => by have := f x hx; omega, cnt_far l k fun x hx => by have := f x hx; omega]; omega
    · have := mem_ge hw h
      rw [ih c h]; omega
theorem cnt_same (l : List E2) (k : Int) (h : ¬ mem l k) : cnt l (k + 1) = cnt l k := by
  induction l with
  | nil => rfl
  | cons r l ih =>
    have h1 : ¬ (r.1 ≤ k ∧ k < r.2) := fun q => h ((mem_cons _ _ _).2 (.inl q))
    rw [cnt, cnt, ih fun q => h ((mem_cons _ _ _).2 (.inr q))]; omega
theorem cnt_take (l : List E2) : ∀ (n k : Int), RW l → cnt l k = cnt (takeP l n).1 k + cnt (takeP l n).2 k := by
  induction l with
  | nil => intro n k _; rfl
  | cons r l ih =>
    intro n k hw
    obtain ⟨b, _, c⟩ := RW.cons.1 hw
    have := b.2.1
    unfold takeP
    split
    · show cnt (r :: l) k = cnt (r :: (takeP l (n - (r.2 - r.1))).1) k + cnt (takeP l (n - (r.2 - r.1))).2 k
      rw [cnt, cnt, ih (n - (r.2 - r.1)) k c]; omega
    · split
      · show cnt (r :: l) k = cnt [(r.1, r.1 + n)] k + cnt ((r.1 + n, r.2) :: l) k
        rw [cnt, cnt, cnt, cnt]; simp only; omega
      · show cnt (r :: l) k = 0 + cnt (r :: l) k; omega
/-- Whether k is taken. -/
theorem taken_iff (l : List E2) (n k : Int) (hw : RW l) (h0 : 0 ≤ n) (h1 : n ≤ rlen l) : (mem (takeP l n).1 k ↔ mem l k ∧ cnt l k < n) ∧ (mem (takeP l n).2 k ↔ mem l k ∧ n ≤ cnt l k) := by
  have T := take_ok l n hw h0 h1
  have C := cnt_take l n k hw
  have A : mem (takeP l n).1 k → cnt l k < n := fun h => by
    have e : cnt (takeP l n).2 k = 0 := cnt_far _ _ fun r hr => by
      have := T.lt k r.1 h ⟨r, hr, Int.le_refl _, (T.s.ok r hr).2.1⟩; omega
    have := cnt_lt _ T.t k h
    have := T.lenT
    omega
  have B : mem (takeP l n).2 k → n ≤ cnt l k := fun h => by
    have e : cnt (takeP l n).1 k = rlen (takeP l n).1 := cnt_all _ T.t k fun r hr => by
      have o := (T.t.ok r hr).2.1
      have := T.lt (r.2 - 1) k ⟨r, hr, by omega, by omega⟩ h; omega
    have := cnt_nn (takeP l n).2 k
    have := T.lenT
    omega
  constructor
  · constructor
    · intro h; exact ⟨(T.mem_ k).2 (.inl h), A h⟩
    · rintro ⟨h, q⟩
      rcases (T.mem_ k).1 h with h | h
      · exact h
      · have := B h; omega
  · constructor
    · intro h; exact ⟨(T.mem_ k).2 (.inr h), B h⟩
    · rintro ⟨h, q⟩
      rcases (T.mem_ k).1 h with h | h
      · have := A h; omega
      · exact h
theorem back_is (l : List E2) (n : Int) (hw : RW l) (h0 : 0 ≤ n) (h1 : n ≤ rlen l) : addAll (takeP l n).2 (takeP l n).1 = l := by
  have T := take_ok l n hw h0 h1
  obtain ⟨a, b, _⟩ := addAll_ok (takeP l n).1 (takeP l n).2 T.s T.t.ok
  exact rext _ _ a hw fun x => by rw [b x, T.mem_ x]; exact ⟨fun h => h.symm, fun h => h.symm⟩
end Go.Proofs.Ytnljccmchmclnaa
