/- Sets of numbers as rows of ranges: members, adding; plain facts. No condition of the program's own. -/
import Derived.Test.YtnljccmchmclnaaMem
namespace Go.Proofs.Ytnljccmchmclnaa

abbrev E2 := Int × Int
def mem (l : List E2) (n : Int) : Prop := ∃ r ∈ l, r.1 ≤ n ∧ n < r.2
def okR (r : E2) : Prop := 0 ≤ r.1 ∧ r.1 < r.2 ∧ r.2 ≤ 1073741824
structure RW (l : List E2) : Prop where
  ok : ∀ r ∈ l, okR r
  far : l.Pairwise fun a b => a.2 < b.1
theorem RW.nil : RW [] := ⟨by simp, List.Pairwise.nil⟩
theorem RW.one {r : E2} (h : okR r) : RW [r] := ⟨fun x hx => by simp at hx; subst hx; exact h, List.pairwise_singleton _ _⟩
theorem RW.cons {r : E2} {l : List E2} : RW (r :: l) ↔ okR r ∧ (∀ x ∈ l, r.2 < x.1) ∧ RW l := by
  constructor
  · intro h
    have := List.pairwise_cons.1 h.far
    exact ⟨h.ok r (by simp), this.1, fun x hx => h.ok x (by simp [hx]), this.2⟩
  · rintro ⟨h1, h2, h3⟩
    refine ⟨fun x hx => ?_, List.pairwise_cons.2 ⟨h2, h3.far⟩⟩
    rcases List.mem_cons.1 hx with rfl | hx
    · exact h1
    · exact h3.ok x hx
theorem RW.app {l m : List E2} : RW (l ++ m) ↔ RW l ∧ RW m ∧ ∀ a ∈ l, ∀ b ∈ m, a.2 < b.1 := by
  constructor
  · intro h
    have := List.pairwise_append.1 h.far
    exact ⟨⟨fun x hx => h.ok x (by simp [hx]), this.1⟩, ⟨fun x hx => h.ok x (by simp [hx]), this.2.1⟩, this.2.2⟩
  · rintro ⟨h1, h2, h3⟩
    refine ⟨fun x hx => ?_, List.pairwise_append.2 ⟨h1.far, h2.far, h3⟩⟩
    rcases List.mem_append.1 hx with hx | hx
    · exact h1.ok x hx
    · exact h2.ok x hx
theorem RW.take {l : List E2} (h : RW l) (k : Nat) : RW (l.take k) := by
  have := List.take_append_drop k l
  rw [← this] at h
  exact (RW.app.1 h).1
theorem RW.drop {l : List E2} (h : RW l) (k : Nat) : RW (l.drop k) := by
  have := List.take_append_drop k l
  rw [← this] at h
  exact (RW.app.1 h).2.1
theorem mem_nil (n : Int) : mem [] n ↔ False := by unfold mem; simp
theorem mem_cons (r : E2) (l : List E2) (n : Int) : mem (r :: l) n ↔ (r.1 ≤ n ∧ n < r.2) ∨ mem l n := by unfold mem; simp
theorem mem_app (l m : List E2) (n : Int) : mem (l ++ m) n ↔ mem l n ∨ mem m n := by
  unfold mem
  constructor
  · rintro ⟨r, hr, h⟩
    rcases List.mem_append.1 hr with hr | hr
    · exact .inl ⟨r, hr, h⟩
    · exact .inr ⟨r, hr, h⟩
  · rintro (⟨r, hr, h⟩ | ⟨r, hr, h⟩)
    · exact ⟨r, by simp [hr], h⟩
    · exact ⟨r, by simp [hr], h⟩
/-- Two rows of the same numbers are one. -/
theorem rext (l : List E2) : ∀ (m : List E2), RW l → RW m → (∀ n, mem l n ↔ mem m n) → l = m := by
  induction l with
  | nil =>
    intro m _ hm h
    cases m with
    | nil => rfl
    | cons y s =>
      have h1 := (RW.cons.1 hm).1
      have := (h y.1).2 ((mem_cons _ _ _).2 (.inl ⟨Int.le_refl _, h1.2.1⟩))
      exact absurd this (by rw [mem_nil]; exact id)
  | cons x r ih =>
    intro m hl hm h
    obtain ⟨x1, x2, x3⟩ := RW.cons.1 hl
    cases m with
    | nil =>
      have := (h x.1).1 ((mem_cons _ _ _).2 (.inl ⟨Int.le_refl _, x1.2.1⟩))
      exact absurd this (by rw [mem_nil]; exact id)
    | cons y s =>
      obtain ⟨y1, y2, y3⟩ := RW.cons.1 hm
      have lo : ∀ (z : E2) (t : List E2), okR z → (∀ u ∈ t, z.2 < u.1) → ∀ n, mem (z :: t) n → z.1 ≤ n := fun z t hz ht n hn => by
        rcases (mem_cons _ _ _).1 hn with hn | ⟨u, hu, hn⟩
        · exact hn.1
        · have := ht u hu; have := hz.2.1; omega
      have gap : ∀ (z : E2) (t : List E2), okR z → (∀ u ∈ t, z.2 < u.1) → ¬ mem (z :: t) z.2 := fun z t hz ht hn => by
        rcases (mem_cons _ _ _).1 hn with hn | ⟨u, hu, hn⟩
        · omega
        · have := ht u hu; omega
      have a1 := lo y s y1 y2 x.1 ((h _).1 ((mem_cons _ _ _).2 (.inl ⟨Int.le_refl _, x1.2.1⟩)))
      have a2 := lo x r x1 x2 y.1 ((h _).2 ((mem_cons _ _ _).2 (.inl ⟨Int.le_refl _, y1.2.1⟩)))
      have b1 : y.2 ≤ x.2 := by
        rcases Int.lt_or_le x.2 y.2 with hlt | hge
        · exact absurd ((h x.2).2 ((mem_cons _ _ _).2 (.inl ⟨by have := x1.2.1; omega, hlt⟩))) (gap x r x1 x2)
        · exact hge
      have b2 : x.2 ≤ y.2 := by
        rcases Int.lt_or_le y.2 x.2 with hlt | hge
        · exact absurd ((h y.2).1 ((mem_cons _ _ _).2 (.inl ⟨by have := y1.2.1; omega, hlt⟩))) (gap y s y1 y2)
        · exact hge
      have e : x = y := by
        obtain ⟨a, b⟩ := x
        obtain ⟨c, d⟩ := y
        simp only at a1 a2 b1 b2
        rw [show a = c by omega, show b = d by omega]
      subst e
      rw [ih s x3 y3 fun n => ?_]
      have hn := h n
      rw [mem_cons, mem_cons] at hn
      constructor
      · intro hm
        have : ¬ (x.1 ≤ n ∧ n < x.2) := fun k => by
          obtain ⟨u, hu, hk⟩ := hm
          have := x2 u hu; omega
        rcases hn.1 (.inr hm) with k | k
        · exact absurd k this
        · exact k
      · intro hm
        have : ¬ (x.1 ≤ n ∧ n < x.2) := fun k => by
          obtain ⟨u, hu, hk⟩ := hm
          have := y2 u hu; omega
        rcases hn.2 (.inr hm) with k | k
        · exact absurd k this
        · exact k

def skp : List E2 → Int → Nat
  | [], _ => 0
  | r :: l, f => if r.2 < f then skp l f + 1 else 0
def abs_ : List E2 → Int → Int → Int × Int × List E2
  | [], f, t => (f, t, [])
  | r :: l, f, t => if r.1 ≤ t then abs_ l (min f r.1) (max t r.2) else (f, t, r :: l)
def addP (l : List E2) (f t : Int) : List E2 :=
  l.take (skp l f) ++ ((abs_ (l.drop (skp l f)) f t).1, (abs_ (l.drop (skp l f)) f t).2.1) :: (abs_ (l.drop (skp l f)) f t).2.2
theorem skp_le (l : List E2) (f : Int) : skp l f ≤ l.length := by
  induction l with
  | nil => exact Nat.le_refl _
  | cons y r ih => unfold skp; split <;> simp; omega
theorem skp_lt (l : List E2) (f : Int) : ∀ j (y : E2), l[j]? = some y → j < skp l f → y.2 < f := by
  induction l with
  | nil => intro j y h; simp at h
  | cons z r ih =>
    intro j y h hj
    unfold skp at hj
    split at hj
    · cases j with
      | zero => simp at h; subst h; assumption
      | succ k => exact ih k y (by simpa using h) (by omega)
    · omega
theorem skp_at (l : List E2) (f : Int) : ∀ (y : E2), l[skp l f]? = some y → ¬ y.2 < f := by
  induction l with
  | nil => intro y h; simp at h
  | cons z r ih =>
    intro y h
    unfold skp at h
    split at h
    · exact ih y (by simpa using h)
    · simp at h; subst h; assumption
theorem skp_of (l : List E2) (f : Int) (k : Nat) (hk : k ≤ l.length) (h1 : ∀ j (y : E2), l[j]? = some y → j < k → y.2 < f) (h2 : ∀ (y : E2), l[k]? = some y → ¬ y.2 < f) : k = skp l f := by
  have a := skp_lt l f
  have b := skp_at l f
  have c := skp_le l f
  rcases Nat.lt_trichotomy k (skp l f) with h | h | h
  · have hl : k < l.length := by omega
    exact absurd (a k _ (List.getElem?_eq_getElem hl) h) (h2 _ (List.getElem?_eq_getElem hl))
  · exact h
  · have hl : skp l f < l.length := by omega
    exact absurd (h1 _ _ (List.getElem?_eq_getElem hl) h) (b _ (List.getElem?_eq_getElem hl))
theorem abs_ok (l : List E2) : ∀ (f t : Int), RW l → okR (f, t) → (∀ r ∈ l, f ≤ r.2) →
    okR ((abs_ l f t).1, (abs_ l f t).2.1) ∧ RW (abs_ l f t).2.2 ∧ (∀ r ∈ (abs_ l f t).2.2, (abs_ l f t).2.1 < r.1) ∧
    (∀ n, ((abs_ l f t).1 ≤ n ∧ n < (abs_ l f t).2.1 ∨ mem (abs_ l f t).2.2 n) ↔ (f ≤ n ∧ n < t ∨ mem l n)) ∧ (∀ z, z < f → (∀ r ∈ l, z < r.1) → z < (abs_ l f t).1) := by
  induction l with
  | nil => intro f t _ h _; exact ⟨h, RW.nil, by simp [abs_], by simp [abs_], fun z hz _ => hz⟩
  | cons r l ih =>
    intro f t hw h hf
    obtain ⟨r1, r2, r3⟩ := RW.cons.1 hw
    have hfr := hf r (by simp)
    unfold abs_
    unfold okR at h r1
    simp only at h
    by_cases hr : r.1 ≤ t
    · rw [if_pos hr]
      obtain ⟨a, b, c, d, e⟩ := ih (min f r.1) (max t r.2) r3 ⟨by show 0 ≤ min f r.1; omega, by show min f r.1 < max t r.2; omega, by show max t r.2 ≤ _; omega⟩ (fun x hx => by
        have := r2 x hx; have := (r3.ok x hx).2.1; omega)
      refine ⟨a, b, c, fun n => ?_, fun z hz hz2 => e z (by have := hz2 r (by simp); omega) (fun x hx => hz2 x (by simp [hx]))⟩
      rw [d n, mem_cons]
      constructor
      · rintro (k | k)
        · by_cases q : f ≤ n ∧ n < t
          · exact .inl q
          · right; left; omega
        · exact .inr (.inr k)
      · rintro (k | k | k)
        · left; omega
        · left; omega
        · exact .inr k
    · rw [if_neg hr]
      refine ⟨h, hw, fun x hx => ?_, fun n => Iff.rfl, fun z hz _ => hz⟩
      rcases List.mem_cons.1 hx with rfl | hx
      · show t < _; omega
      · have := r2 x hx; show t < _; omega
theorem add_ok (l : List E2) (f t : Int) (hw : RW l) (h : okR (f, t)) : RW (addP l f t) ∧ ∀ n, mem (addP l f t) n ↔ mem l n ∨ f ≤ n ∧ n < t := by
  have hd : ∀ r ∈ l.drop (skp l f), f ≤ r.2 := fun r hr => by
    obtain ⟨j, hj⟩ := List.getElem?_of_mem hr
    rw [List.getElem?_drop] at hj
    have h0 := skp_at l f
    have hs : skp l f < l.length := by have := (List.getElem?_eq_some_iff.1 hj).1; omega
    have h1 := h0 _ (List.getElem?_eq_getElem hs)
    cases j with
    | zero =>
      rw [Nat.add_zero] at hj
      have := h0 r hj; omega
    | succ k =>
      have hp := List.pairwise_iff_getElem.1 hw.far (skp l f) (skp l f + (k + 1)) hs (List.getElem?_eq_some_iff.1 hj).1 (by omega)
      rw [(List.getElem?_eq_some_iff.1 hj).2] at hp
      have := (hw.ok r (List.mem_of_getElem? hj)).2.1
      omega
  obtain ⟨a, b, c, d, e⟩ := abs_ok (l.drop (skp l f)) f t (hw.drop _) h hd
  have ht : ∀ r ∈ l.take (skp l f), r.2 < f ∧ ∀ x ∈ l.drop (skp l f), r.2 < x.1 := fun r hr => by
    obtain ⟨j, hj⟩ := List.getElem?_of_mem hr
    have hjs : j < skp l f := by have := (List.getElem?_eq_some_iff.1 hj).1; rw [List.length_take] at this; omega
    rw [List.getElem?_take, if_pos hjs] at hj
    refine ⟨skp_lt l f j r hj hjs, fun x hx => ?_⟩
    have := hw
    rw [← List.take_append_drop (skp l f) l] at this
    exact (RW.app.1 this).2.2 r hr x hx
  unfold addP
  refine ⟨RW.app.2 ⟨hw.take _, RW.cons.2 ⟨a, c, b⟩, fun x hx y hy => ?_⟩, fun n => ?_⟩
  · obtain ⟨h1, h2⟩ := ht x hx
    have h3 := e x.2 h1 h2
    rcases List.mem_cons.1 hy with rfl | hy
    · exact h3
    · have := c y hy; have := a.2.1; simp only at this; omega
  · rw [mem_app, mem_cons, d n]
    have hl := mem_app (l.take (skp l f)) (l.drop (skp l f)) n
    rw [List.take_append_drop] at hl
    rw [hl]
    constructor
    · rintro (k | k | k)
      · exact .inl (.inl k)
      · exact .inr k
      · exact .inl (.inr k)
    · rintro ((k | k) | k)
      · exact .inl k
      · exact .inr (.inr k)
      · exact .inr (.inl k)
theorem abs_len (l : List E2) : ∀ f t, (abs_ l f t).2.2.length ≤ l.length := by
  induction l with
  | nil => intro f t; exact Nat.le_refl _
  | cons r l ih =>
    intro f t
    unfold abs_
    split
    · have := ih (min f r.1) (max t r.2); simp; omega
    · exact Nat.le_refl _
theorem add_len (l : List E2) (f t : Int) : (addP l f t).length ≤ l.length + 1 := by
  unfold addP
  have h := abs_len (l.drop (skp l f)) f t
  have := skp_le l f
  rw [List.length_append, List.length_cons, List.length_take]
  rw [List.length_drop] at h
  omega

/-- The reference's way: what is ahead, the range, what is behind. -/
def rfold : List E2 → List E2 → Int → Int → List E2 → List E2 × Int × Int × List E2
  | [], A, f, t, B => (A, f, t, B)
  | r :: l, A, f, t, B => if r.2 < f then rfold l (A ++ [r]) f t B else if t < r.1 then rfold l A f t (B ++ [r]) else rfold l A (min f r.1) (max t r.2) B
def rres (x : List E2 × Int × Int × List E2) : List E2 := x.1 ++ (x.2.1, x.2.2.1) :: x.2.2.2
theorem rfold3 (l : List E2) : ∀ (A : List E2) (f t : Int) (B : List E2), (∀ r ∈ l, t < r.1 ∧ ¬ r.2 < f) → rfold l A f t B = (A, f, t, B ++ l) := by
  induction l with
  | nil => intro A f t B _; simp [rfold]
  | cons r l ih =>
    intro A f t B h
    have := h r (by simp)
    rw [rfold, if_neg this.2, if_pos this.1, ih _ _ _ _ fun x hx => h x (by simp [hx])]
    simp
theorem rfold2 (l : List E2) : ∀ (A : List E2) (f t : Int), RW l → f < t → (∀ r ∈ l, f ≤ r.2) → rfold l A f t [] = (A, (abs_ l f t).1, (abs_ l f t).2.1, (abs_ l f t).2.2) := by
  induction l with
  | nil => intro A f t _ _ _; rfl
  | cons r l ih =>
    intro A f t hw hft hf
    obtain ⟨r1, r2, r3⟩ := RW.cons.1 hw
    have hfr := hf r (by simp)
    have hr1 := r1.2.1
    rw [rfold, if_neg (by omega)]
    unfold abs_
    by_cases hr : r.1 ≤ t
    · rw [if_neg (by omega), if_pos hr]
      exact ih _ _ _ r3 (by omega) fun x hx => by have := r2 x hx; have := (r3.ok x hx).2.1; omega
    · rw [if_pos (by omega), if_neg hr, rfold3 l A f t _ fun x hx => ?_]
      · simp
      · have := r2 x hx; have := (r3.ok x hx).2.1
        exact ⟨by omega, by omega⟩
theorem rfold1 (l : List E2) : ∀ (A : List E2) (f t : Int), RW l → f < t → rres (rfold l A f t []) = A ++ addP l f t := by
  induction l with
  | nil => intro A f t _ _; rfl
  | cons r l ih =>
    intro A f t hw hft
    obtain ⟨r1, r2, r3⟩ := RW.cons.1 hw
    by_cases hr : r.2 < f
    · rw [rfold, if_pos hr, ih _ _ _ r3 hft]
      unfold addP
      rw [show skp (r :: l) f = skp l f + 1 by rw [skp, if_pos hr]]
      simp
    · have hs : skp (r :: l) f = 0 := by rw [skp, if_neg hr]
      rw [rfold2 (r :: l) A f t hw hft fun x hx => ?_]
      · unfold rres addP
        rw [hs]
        rfl
      · rcases List.mem_cons.1 hx with rfl | hx
        · omega
        · have := r2 x hx; have := (r3.ok x hx).2.1; omega
theorem rfold_app (l m : List E2) : ∀ (A : List E2) (f t : Int) (B : List E2), rfold (l ++ m) A f t B = rfold m (rfold l A f t B).1 (rfold l A f t B).2.1 (rfold l A f t B).2.2.1 (rfold l A f t B).2.2.2 := by
  induction l with
  | nil => intro A f t B; rfl
  | cons r l ih =>
    intro A f t B
    rw [List.cons_append, rfold, rfold]
    split
    · exact ih _ _ _ _
    · split
      · exact ih _ _ _ _
      · exact ih _ _ _ _
theorem radd_is (l : List E2) (f t : Int) (hw : RW l) (h : f < t) : rres (rfold l [] f t []) = addP l f t := by
  have := rfold1 l [] f t hw h
  rwa [List.nil_append] at this
end Go.Proofs.Ytnljccmchmclnaa
