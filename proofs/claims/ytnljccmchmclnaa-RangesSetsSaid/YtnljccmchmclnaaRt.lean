/- Taking the smallest numbers out of a row; how many there are; plain facts. No condition of the program's own. -/
import Derived.Test.YtnljccmchmclnaaRp
namespace Go.Proofs.Ytnljccmchmclnaa

def rlen : List E2 → Int
  | [] => 0
  | r :: l => (r.2 - r.1) + rlen l
def takeP : List E2 → Int → List E2 × List E2
  | [], _ => ([], [])
  | r :: l, n => if r.2 - r.1 ≤ n then (r :: (takeP l (n - (r.2 - r.1))).1, (takeP l (n - (r.2 - r.1))).2) else if 0 < n then ([(r.1, r.1 + n)], (r.1 + n, r.2) :: l) else ([], r :: l)
theorem rlen_app (l m : List E2) : rlen (l ++ m) = rlen l + rlen m := by
  induction l with
  | nil => show rlen m = 0 + rlen m; omega
  | cons r l ih => rw [List.cons_append, rlen, rlen, ih]; omega
theorem rlen_nn (l : List E2) (h : RW l) : 0 ≤ rlen l := by
  induction l with
  | nil => exact Int.le_refl _
  | cons r l ih =>
    obtain ⟨a, _, c⟩ := RW.cons.1 h
    have := ih c
    have := a.2.1
    rw [rlen]; omega
theorem rlen_bound (l : List E2) (h : ∀ r ∈ l, okR r) : rlen l ≤ l.length * 1073741824 := by
  induction l with
  | nil => exact Int.le_refl _
  | cons r l ih =>
    have a := h r (by simp)
    have := ih fun x hx => h x (by simp [hx])
    unfold okR at a
    rw [rlen, List.length_cons]
    omega
theorem mem_ge {r : E2} {l : List E2} (h : RW (r :: l)) {n : Int} (hn : mem l n) : r.2 < n := by
  obtain ⟨_, b, _⟩ := RW.cons.1 h
  obtain ⟨x, hx, h1, _⟩ := hn
  have := b x hx
  omega
structure TakeOk (l T S : List E2) (k : Int) : Prop where
  t : RW T
  s : RW S
  mem_ : ∀ n, mem l n ↔ mem T n ∨ mem S n
  lt : ∀ a b, mem T a → mem S b → a < b
  lenT : rlen T = k
  lenS : rlen S = rlen l - k
  nT : T.length ≤ l.length
  nS : S.length ≤ l.length
theorem take_ok (l : List E2) : ∀ (k : Int), RW l → 0 ≤ k → k ≤ rlen l → TakeOk l (takeP l k).1 (takeP l k).2 k := by
  induction l with
  | nil =>
    intro k _ h0 h1
    have : k = 0 := by simp only [rlen] at h1; omega
    subst this
    exact ⟨RW.nil, RW.nil, fun n => by simp [takeP, mem_nil], fun a b h => ((mem_nil a).1 h).elim, rfl, rfl, Nat.le_refl _, Nat.le_refl _⟩
  | cons r l ih =>
    intro k hw h0 h1
    obtain ⟨a, b, c⟩ := RW.cons.1 hw
    have ha := a
    unfold okR at ha
    unfold takeP
    by_cases hr : r.2 - r.1 ≤ k
    · rw [if_pos hr]
      rw [rlen] at h1
      have I := ih (k - (r.2 - r.1)) c (by omega) (by omega)
      have far : ∀ n, mem l n → r.2 < n := fun n hn => mem_ge hw hn
      refine ⟨RW.cons.2 ⟨a, fun x hx => ?_, I.t⟩, I.s, fun n => ?_, fun x y hx hy => ?_, ?_, ?_, ?_, ?_⟩
      · exact far x.1 ((I.mem_ _).2 (.inl ⟨x, hx, Int.le_refl _, (I.t.ok x hx).2.1⟩))
      · rw [mem_cons, mem_cons, I.mem_ n, or_assoc]
      · have h2 := far y ((I.mem_ y).2 (.inr hy))
        rcases (mem_cons _ _ _).1 hx with h | h
        · omega
        · exact I.lt x y h hy
      · show (r.2 - r.1) + rlen _ = k; rw [I.lenT]; omega
      · show rlen _ = _; rw [I.lenS, rlen]; omega
      · have := I.nT; simp; omega
      · have := I.nS; simp; omega
    · rw [if_neg hr]
      by_cases hk : 0 < k
      · rw [if_pos hk]
        refine ⟨RW.one ⟨by show 0 ≤ r.1; omega, by show r.1 < r.1 + k; omega, by show r.1 + k ≤ _; omega⟩, RW.cons.2 ⟨⟨by show 0 ≤ r.1 + k; omega, by show r.1 + k < r.2; omega, by show r.2 ≤ _; omega⟩, b, c⟩, fun n => ?_, fun x y hx hy => ?_, ?_, ?_, by simp, by simp⟩
        · rw [mem_cons, mem_cons, mem_cons, mem_nil, or_false]
          constructor
          · rintro (h | h)
            · by_cases q : n < r.1 + k
              · exact .inl ⟨h.1, q⟩
              · exact .inr (.inl ⟨by show r.1 + k ≤ n; omega, h.2⟩)
            · exact .inr (.inr h)
          · rintro (h | h | h)
            · exact .inl ⟨h.1, by have := h.2; simp only at this; omega⟩
            · exact .inl ⟨by have := h.1; simp only at this; omega, h.2⟩
            · exact .inr h
        · rw [mem_cons, mem_nil, or_false] at hx
          simp only at hx
          rcases (mem_cons _ _ _).1 hy with h | h
          · simp only at h; omega
          · have := mem_ge hw h; omega
        · show (r.1 + k - r.1) + 0 = k; omega
        · rw [rlen, rlen]; show r.2 - (r.1 + k) + rlen l = _; omega
      · rw [if_neg hk]
        have : k = 0 := by omega
        subst this
        exact ⟨RW.nil, hw, fun n => by rw [mem_nil]; simp, fun x y hx => ((mem_nil x).1 hx).elim, rfl, by simp, by simp, Nat.le_refl _⟩
theorem take_skip (l : List E2) (i : Nat) (k m : Int) (h : takeP l k = (l.take i ++ (takeP (l.drop i) m).1, (takeP (l.drop i) m).2)) (r : E2) (hr : l[i]? = some r) (hle : r.2 - r.1 ≤ m) :
    takeP l k = (l.take (i + 1) ++ (takeP (l.drop (i + 1)) (m - (r.2 - r.1))).1, (takeP (l.drop (i + 1)) (m - (r.2 - r.1))).2) := by
  obtain ⟨hi, rfl⟩ := List.getElem?_eq_some_iff.1 hr
  have e : l.take (i + 1) = l.take i ++ [l[i]] := by rw [List.take_add_one, hr]; rfl
  rw [h, List.drop_eq_getElem_cons hi, takeP, if_pos hle, e, List.append_assoc]
  rfl
theorem take_stop (l : List E2) (i : Nat) (k m : Int) (h : takeP l k = (l.take i ++ (takeP (l.drop i) m).1, (takeP (l.drop i) m).2)) (h2 : i = l.length ∨ m ≤ 0 ∧ ∃ r, l[i]? = some r ∧ ¬ r.2 - r.1 ≤ m) :
    takeP l k = (l.take i, l.drop i) := by
  rw [h]
  rcases h2 with rfl | ⟨h0, r, hr, hn⟩
  · rw [List.drop_length]; simp [takeP]
  · obtain ⟨hi, rfl⟩ := List.getElem?_eq_some_iff.1 hr
    rw [List.drop_eq_getElem_cons hi, takeP, if_neg hn, if_neg (by omega)]
    simp
theorem take_cut (l : List E2) (i : Nat) (k m : Int) (h : takeP l k = (l.take i ++ (takeP (l.drop i) m).1, (takeP (l.drop i) m).2)) (r : E2) (hr : l[i]? = some r) (hn : ¬ r.2 - r.1 ≤ m) (hm : 0 < m) :
    takeP l k = (l.take i ++ [(r.1, r.1 + m)], (r.1 + m, r.2) :: l.drop (i + 1)) := by
  obtain ⟨hi, rfl⟩ := List.getElem?_eq_some_iff.1 hr
  rw [h, List.drop_eq_getElem_cons hi, takeP, if_neg hn, if_pos hm]
end Go.Proofs.Ytnljccmchmclnaa
