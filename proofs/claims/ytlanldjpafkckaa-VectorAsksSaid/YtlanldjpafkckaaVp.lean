/- Vectors as lists of three numbers: get, put, merge, at most; plain facts. No condition of the program's own. -/
import Derived.Test.YtlanldjpafkckaaMem
namespace Go.Proofs.Ytlanldjpafkckaa

abbrev E3 := Int × Int × Int
def klt (x y : E3) : Prop := x.1 < y.1 ∨ x.1 = y.1 ∧ x.2.1 < y.2.1
instance (x y : E3) : Decidable (klt x y) := by unfold klt; infer_instance
def Srt (l : List E3) : Prop := l.Pairwise klt
def Pos (l : List E3) : Prop := ∀ y ∈ l, 1 ≤ y.2.2
def vget : List E3 → Int → Int → Int
  | [], _, _ => 0
  | y :: r, d, e => if y.1 = d ∧ y.2.1 = e then y.2.2 else vget r d e
def vput : List E3 → E3 → List E3
  | [], x => [x]
  | y :: r, x => if klt y x then y :: vput r x else if klt x y then x :: y :: r else x :: r
def vpos : List E3 → E3 → Nat
  | [], _ => 0
  | y :: r, x => if klt y x then vpos r x + 1 else 0
def later (x y : E3) : E3 := if x.2.2 < y.2.2 then y else x
def vmrg : List E3 → List E3 → List E3
  | [], m => m
  | x :: l, [] => x :: l
  | x :: l, y :: m => if klt x y then x :: vmrg l (y :: m) else if klt y x then y :: vmrg (x :: l) m else later x y :: vmrg l m
termination_by l m => l.length + m.length
def vjoin (a b : List E3) : List E3 := b.foldl (fun out y => if vget out y.1 y.2.1 < y.2.2 then vput out y else out) a
def vle (a b : List E3) : Prop := ∀ y ∈ a, y.2.2 ≤ vget b y.1 y.2.1
instance (a b : List E3) : Decidable (vle a b) := by unfold vle; infer_instance
def same2 (x y : E3) : Prop := x.1 = y.1 ∧ x.2.1 = y.2.1

theorem klt_or (x y : E3) : klt x y ∨ klt y x ∨ same2 x y := by unfold klt same2; omega
theorem klt_trans {x y z : E3} (h : klt x y) (k : klt y z) : klt x z := by unfold klt at *; omega
theorem klt_irr {x y : E3} (h : klt x y) : ¬ klt y x := by unfold klt at *; omega
theorem klt_ne {x y : E3} (h : klt x y) : ¬ (x.1 = y.1 ∧ x.2.1 = y.2.1) := by unfold klt at *; omega

theorem srt_cons {x : E3} {l : List E3} : Srt (x :: l) ↔ (∀ y ∈ l, klt x y) ∧ Srt l := List.pairwise_cons
theorem vpos_le (l : List E3) (x : E3) : vpos l x ≤ l.length := by
  induction l with
  | nil => exact Nat.le_refl _
  | cons y r ih => unfold vpos; split <;> simp; omega
theorem vpos_lt (l : List E3) (x : E3) : ∀ j y, l[j]? = some y → j < vpos l x → klt y x := by
  induction l with
  | nil => intro j y h; simp at h
  | cons z r ih =>
    intro j y h hj
    unfold vpos at hj
    split at hj
    · cases j with
      | zero => simp at h; subst h; assumption
      | succ k => exact ih k y (by simpa using h) (by omega)
    · omega
theorem vpos_at (l : List E3) (x : E3) : ∀ y, l[vpos l x]? = some y → ¬ klt y x := by
  induction l with
  | nil => intro y h; simp at h
  | cons z r ih =>
    intro y h
    unfold vpos at h
    split at h
    · exact ih y (by simpa using h)
    · simp at h; subst h; assumption
theorem vpos_of (l : List E3) (x : E3) (k : Nat) (hk : k ≤ l.length) (h1 : ∀ j y, l[j]? = some y → j < k → klt y x) (h2 : ∀ y, l[k]? = some y → ¬ klt y x) : k = vpos l x := by
  have a := vpos_lt l x
  have b := vpos_at l x
  have c := vpos_le l x
  rcases Nat.lt_trichotomy k (vpos l x) with h | h | h
  · have hl : k < l.length := by omega
    exact absurd (a k _ (List.getElem?_eq_getElem hl) h) (h2 _ (List.getElem?_eq_getElem hl))
  · exact h
  · have hl : vpos l x < l.length := by omega
    exact absurd (h1 _ _ (List.getElem?_eq_getElem hl) h) (b _ (List.getElem?_eq_getElem hl))
theorem srt_get {l : List E3} (h : Srt l) {i j : Nat} {x y : E3} (hx : l[i]? = some x) (hy : l[j]? = some y) (hij : i < j) : klt x y := by
  obtain ⟨hi, rfl⟩ := List.getElem?_eq_some_iff.1 hx
  obtain ⟨hj, rfl⟩ := List.getElem?_eq_some_iff.1 hy
  exact List.pairwise_iff_getElem.1 h i j hi hj hij
theorem srt_of {l : List E3} (h : ∀ (i j : Nat) (x y : E3), l[i]? = some x → l[j]? = some y → i < j → klt x y) : Srt l :=
  List.pairwise_iff_getElem.2 fun i j hi hj hij => h i j _ _ (List.getElem?_eq_getElem hi) (List.getElem?_eq_getElem hj) hij
/-- What stands at a place is what get says. -/
theorem vget_at (l : List E3) (h : Srt l) : ∀ (k : Nat) (y : E3), l[k]? = some y → vget l y.1 y.2.1 = y.2.2 := by
  induction l with
  | nil => intro k y h; simp at h
  | cons z r ih =>
    intro k y hk
    unfold vget
    cases k with
    | zero => simp at hk; subst hk; simp
    | succ k =>
      have := srt_get h (i := 0) (j := k + 1) rfl hk (by omega)
      rw [if_neg (klt_ne this)]
      exact ih (srt_cons.1 h).2 k y (by simpa using hk)
theorem vget_mem (l : List E3) (h : Srt l) (y : E3) (hy : y ∈ l) : vget l y.1 y.2.1 = y.2.2 := by
  obtain ⟨k, hk⟩ := List.getElem?_of_mem hy
  exact vget_at l h k y hk
theorem vget_none (l : List E3) (d e : Int) (h : ∀ y ∈ l, ¬ (y.1 = d ∧ y.2.1 = e)) : vget l d e = 0 := by
  induction l with
  | nil => rfl
  | cons z r ih =>
    unfold vget
    rw [if_neg (h z (by simp))]
    exact ih fun y hy => h y (by simp [hy])
theorem vget_cases (l : List E3) (d e : Int) : (∃ y ∈ l, y.1 = d ∧ y.2.1 = e ∧ vget l d e = y.2.2) ∨ ((∀ y ∈ l, ¬ (y.1 = d ∧ y.2.1 = e)) ∧ vget l d e = 0) := by
  induction l with
  | nil => right; exact ⟨by simp, rfl⟩
  | cons z r ih =>
    by_cases hz : z.1 = d ∧ z.2.1 = e
    · left; exact ⟨z, by simp, hz.1, hz.2, by unfold vget; rw [if_pos hz]⟩
    · have e1 : vget (z :: r) d e = vget r d e := by rw [vget, if_neg hz]
      rcases ih with ⟨y, h1, h2⟩ | ⟨h1, h2⟩
      · left; exact ⟨y, by simp [h1], h2.1, h2.2.1, by rw [e1]; exact h2.2.2⟩
      · right
        refine ⟨fun y hy => ?_, by rw [e1]; exact h2⟩
        rcases List.mem_cons.1 hy with rfl | hy
        · exact hz
        · exact h1 y hy
/-- Get by the place. -/
theorem vget_pos (l : List E3) (h : Srt l) (x : E3) : vget l x.1 x.2.1 = match l[vpos l x]? with | some y => if y.1 = x.1 ∧ y.2.1 = x.2.1 then y.2.2 else 0 | none => 0 := by
  have no : ∀ (hb : ∀ y, l[vpos l x]? = some y → ¬ (y.1 = x.1 ∧ y.2.1 = x.2.1)), vget l x.1 x.2.1 = 0 := fun hb => by
    refine vget_none _ _ _ fun y hy he => ?_
    obtain ⟨j, hj⟩ := List.getElem?_of_mem hy
    rcases Nat.lt_trichotomy j (vpos l x) with h1 | h1 | h1
    · exact klt_ne (vpos_lt l x j y hj h1) he
    · exact hb y (h1 ▸ hj) he
    · have hl : vpos l x < l.length := by have := (List.getElem?_eq_some_iff.1 hj).1; omega
      have h2 := srt_get h (List.getElem?_eq_getElem hl) hj h1
      have h3 := vpos_at l x _ (List.getElem?_eq_getElem hl)
      unfold klt at h2 h3
      omega
  cases hq : l[vpos l x]? with
  | none => exact no (by simp [hq])
  | some y =>
    by_cases he : y.1 = x.1 ∧ y.2.1 = x.2.1
    · simp only [he, and_self, if_true]
      have := vget_at l h _ y hq
      rw [he.1, he.2] at this
      exact this
    · simp only [he, if_false]
      exact no fun z hz => by rw [hq] at hz; cases hz; exact he
theorem vput_eq (l : List E3) (x : E3) : vput l x = l.take (vpos l x) ++ x :: l.drop (vpos l x + (match l[vpos l x]? with | some y => if klt x y then 0 else 1 | none => 0)) := by
  induction l with
  | nil => rfl
  | cons z r ih =>
    unfold vput vpos
    by_cases h : klt z x
    · rw [if_pos h, if_pos h, ih]
      rw [List.take_succ_cons, List.cons_append, List.getElem?_cons_succ, show ∀ m, vpos r x + 1 + m = vpos r x + m + 1 from fun m => by omega, List.drop_succ_cons]
    · rw [if_neg h, if_neg h]
      by_cases k : klt x z <;> simp [k]
theorem vput_mem (l : List E3) (x y : E3) (h : y ∈ vput l x) : y = x ∨ y ∈ l := by
  induction l with
  | nil => unfold vput at h; simp at h; exact .inl h
  | cons z r ih =>
    unfold vput at h
    split at h
    · rcases List.mem_cons.1 h with h | h
      · right; simp [h]
      · rcases ih h with h | h
        · exact .inl h
        · right; simp [h]
    · split at h
      · rcases List.mem_cons.1 h with h | h
        · exact .inl h
        · exact .inr h
      · rcases List.mem_cons.1 h with h | h
        · exact .inl h
        · right; simp [h]
theorem vput_srt (l : List E3) (x : E3) (h : Srt l) : Srt (vput l x) := by
  induction l with
  | nil => exact List.pairwise_singleton _ _
  | cons z r ih =>
    obtain ⟨h1, h2⟩ := srt_cons.1 h
    unfold vput
    by_cases hz : klt z x
    · rw [if_pos hz]
      refine srt_cons.2 ⟨fun y hy => ?_, ih h2⟩
      rcases vput_mem _ _ _ hy with rfl | hy
      · exact hz
      · exact h1 y hy
    · rw [if_neg hz]
      by_cases hx : klt x z
      · rw [if_pos hx]
        refine srt_cons.2 ⟨fun y hy => ?_, h⟩
        rcases List.mem_cons.1 hy with rfl | hy
        · exact hx
        · exact klt_trans hx (h1 y hy)
      · rw [if_neg hx]
        refine srt_cons.2 ⟨fun y hy => ?_, h2⟩
        have := h1 y hy
        unfold klt at *
        omega
theorem vput_len (l : List E3) (x : E3) : (vput l x).length ≤ l.length + 1 := by
  induction l with
  | nil => exact Nat.le_refl _
  | cons z r ih =>
    unfold vput
    split
    · simp; omega
    · split <;> simp
theorem vget_put (l : List E3) (x : E3) (h : Srt l) (d e : Int) : vget (vput l x) d e = if x.1 = d ∧ x.2.1 = e then x.2.2 else vget l d e := by
  by_cases hx : x.1 = d ∧ x.2.1 = e
  · rw [if_pos hx]
    have hm : x ∈ vput l x := by
      clear h hx
      induction l with
      | nil => simp [vput]
      | cons z r ih =>
        unfold vput
        split
        · simp [ih]
        · split <;> simp
    have := vget_mem _ (vput_srt l x h) x hm
    rw [hx.1, hx.2] at this
    exact this
  · rw [if_neg hx]
    clear h
    induction l with
    | nil => simp [vput, vget, hx]
    | cons z r ih =>
      unfold vput
      by_cases hz : klt z x
      · rw [if_pos hz, vget, vget, ih]
      · rw [if_neg hz]
        by_cases hk : klt x z
        · rw [if_pos hk, vget, if_neg hx]
        · rw [if_neg hk, vget, if_neg hx, vget, if_neg]
          unfold klt at *
          omega
theorem vput_pos (l : List E3) (x : E3) (h : Pos l) (hx : 1 ≤ x.2.2) : Pos (vput l x) := fun y hy => by
  rcases vput_mem _ _ _ hy with rfl | hy
  · exact hx
  · exact h y hy
theorem vget_ge (l : List E3) (h : Pos l) (d e : Int) : 0 ≤ vget l d e := by
  rcases vget_cases l d e with ⟨y, hy, _, _, h1⟩ | ⟨_, h1⟩
  · have := h y hy; omega
  · omega
/-- Two vectors that say the same are one. -/
theorem vext (l : List E3) : ∀ (m : List E3), Srt l → Srt m → Pos l → Pos m → (∀ d e, vget l d e = vget m d e) → l = m := by
  induction l with
  | nil =>
    intro m _ hm _ pm h
    cases m with
    | nil => rfl
    | cons y r =>
      have := h y.1 y.2.1
      rw [vget_mem _ hm y (by simp)] at this
      have h2 := pm y (by simp)
      simp [vget] at this
      omega
  | cons x r ih =>
    intro m hl hm pl pm h
    obtain ⟨l1, l2⟩ := srt_cons.1 hl
    have px := pl x (by simp)
    cases m with
    | nil =>
      have := h x.1 x.2.1
      rw [vget_mem _ hl x (by simp)] at this
      simp [vget] at this
      omega
    | cons y s =>
      obtain ⟨m1, m2⟩ := srt_cons.1 hm
      have py := pm y (by simp)
      have hx := h x.1 x.2.1
      have hy := h y.1 y.2.1
      rw [vget_mem _ hl x (by simp)] at hx
      rw [vget_mem _ hm y (by simp)] at hy
      have hxy : same2 x y := by
        rcases klt_or x y with k | k | k
        · have : vget (y :: s) x.1 x.2.1 = 0 := vget_none _ _ _ fun z hz => by
            rcases List.mem_cons.1 hz with rfl | hz
            · have := klt_ne k; omega
            · have := klt_ne (klt_trans k (m1 z hz)); omega
          omega
        · have : vget (x :: r) y.1 y.2.1 = 0 := vget_none _ _ _ fun z hz => by
            rcases List.mem_cons.1 hz with rfl | hz
            · have := klt_ne k; omega
            · have := klt_ne (klt_trans k (l1 z hz)); omega
          omega
        · exact k
      obtain ⟨e1, e2⟩ := hxy
      rw [e1, e2, vget_mem _ hm y (by simp)] at hx
      have e3 : x = y := by
        obtain ⟨a, b, c⟩ := x
        obtain ⟨a', b', c'⟩ := y
        simp only at e1 e2 hx
        rw [e1, e2, hx]
      subst e3
      rw [ih s l2 m2 (fun z hz => pl z (by simp [hz])) (fun z hz => pm z (by simp [hz])) fun d e => ?_]
      by_cases he : x.1 = d ∧ x.2.1 = e
      · rw [vget_none r d e fun z hz hk => klt_ne (l1 z hz) ⟨he.1.trans hk.1.symm, he.2.trans hk.2.symm⟩,
          vget_none s d e fun z hz hk => klt_ne (m1 z hz) ⟨he.1.trans hk.1.symm, he.2.trans hk.2.symm⟩]
      · have := h d e
        rw [vget, vget, if_neg he, if_neg he] at this
        exact this
theorem later_key (x y : E3) (h : same2 x y) : same2 x (later x y) := by unfold later same2 at *; split <;> simp [h]
theorem vmrg_nil (l : List E3) : vmrg l [] = l := by cases l <;> simp [vmrg]
theorem vmrg_key (l m : List E3) : ∀ z ∈ vmrg l m, (∃ x ∈ l, same2 x z) ∨ ∃ y ∈ m, same2 y z := by
  induction l, m using vmrg.induct with
  | case1 m => intro z hz; rw [vmrg] at hz; exact .inr ⟨z, hz, rfl, rfl⟩
  | case2 x l => intro z hz; rw [vmrg] at hz; exact .inl ⟨z, hz, rfl, rfl⟩
  | case3 x l y m h ih =>
    intro z hz
    rw [vmrg, if_pos h] at hz
    rcases List.mem_cons.1 hz with rfl | hz
    · exact .inl ⟨z, by simp, rfl, rfl⟩
    · rcases ih z hz with ⟨u, hu, hk⟩ | ⟨u, hu, hk⟩
      · exact .inl ⟨u, by simp [hu], hk⟩
      · exact .inr ⟨u, hu, hk⟩
  | case4 x l y m h k ih =>
    intro z hz
    rw [vmrg, if_neg h, if_pos k] at hz
    rcases List.mem_cons.1 hz with rfl | hz
    · exact .inr ⟨z, by simp, rfl, rfl⟩
    · rcases ih z hz with ⟨u, hu, hk⟩ | ⟨u, hu, hk⟩
      · exact .inl ⟨u, hu, hk⟩
      · exact .inr ⟨u, by simp [hu], hk⟩
  | case5 x l y m h k ih =>
    intro z hz
    rw [vmrg, if_neg h, if_neg k] at hz
    rcases List.mem_cons.1 hz with rfl | hz
    · refine .inl ⟨x, by simp, later_key x y ?_⟩
      rcases klt_or x y with q | q | q
      · exact absurd q h
      · exact absurd q k
      · exact q
    · rcases ih z hz with ⟨u, hu, hk⟩ | ⟨u, hu, hk⟩
      · exact .inl ⟨u, by simp [hu], hk⟩
      · exact .inr ⟨u, by simp [hu], hk⟩
theorem klt_same {x y z : E3} (h : klt x y) (k : same2 y z) : klt x z := by unfold klt same2 at *; omega
theorem klt_same' {x y z : E3} (h : klt x y) (k : same2 x z) : klt z y := by unfold klt same2 at *; omega
theorem vmrg_srt (l m : List E3) : Srt l → Srt m → Srt (vmrg l m) := by
  induction l, m using vmrg.induct with
  | case1 m => intro _ h; rw [vmrg]; exact h
  | case2 x l => intro h _; rw [vmrg]; exact h
  | case3 x l y m h ih =>
    intro hl hm
    obtain ⟨l1, l2⟩ := srt_cons.1 hl
    obtain ⟨m1, m2⟩ := srt_cons.1 hm
    rw [vmrg, if_pos h]
    refine srt_cons.2 ⟨fun z hz => ?_, ih l2 hm⟩
    rcases vmrg_key _ _ z hz with ⟨u, hu, hk⟩ | ⟨u, hu, hk⟩
    · exact klt_same (l1 u hu) hk
    · rcases List.mem_cons.1 hu with rfl | hu
      · exact klt_same h hk
      · exact klt_same (klt_trans h (m1 u hu)) hk
  | case4 x l y m h k ih =>
    intro hl hm
    obtain ⟨l1, l2⟩ := srt_cons.1 hl
    obtain ⟨m1, m2⟩ := srt_cons.1 hm
    rw [vmrg, if_neg h, if_pos k]
    refine srt_cons.2 ⟨fun z hz => ?_, ih hl m2⟩
    rcases vmrg_key _ _ z hz with ⟨u, hu, hk⟩ | ⟨u, hu, hk⟩
    · rcases List.mem_cons.1 hu with rfl | hu
      · exact klt_same k hk
      · exact klt_same (klt_trans k (l1 u hu)) hk
    · exact klt_same (m1 u hu) hk
  | case5 x l y m h k ih =>
    intro hl hm
    obtain ⟨l1, l2⟩ := srt_cons.1 hl
    obtain ⟨m1, m2⟩ := srt_cons.1 hm
    have hxy : same2 x y := by
      rcases klt_or x y with q | q | q
      · exact absurd q h
      · exact absurd q k
      · exact q
    rw [vmrg, if_neg h, if_neg k]
    refine srt_cons.2 ⟨fun z hz => ?_, ih l2 m2⟩
    refine klt_same' ?_ (later_key x y hxy)
    rcases vmrg_key _ _ z hz with ⟨u, hu, hk⟩ | ⟨u, hu, hk⟩
    · exact klt_same (l1 u hu) hk
    · have := klt_same (m1 u hu) hk
      exact klt_same' this ⟨hxy.1.symm, hxy.2.symm⟩
theorem vmrg_pos (l m : List E3) : Pos l → Pos m → Pos (vmrg l m) := by
  induction l, m using vmrg.induct with
  | case1 m => intro _ h; rw [vmrg]; exact h
  | case2 x l => intro h _; rw [vmrg]; exact h
  | case3 x l y m h ih =>
    intro hl hm
    rw [vmrg, if_pos h]
    intro z hz
    rcases List.mem_cons.1 hz with rfl | hz
    · exact hl z (by simp)
    · exact ih (fun u hu => hl u (by simp [hu])) hm z hz
  | case4 x l y m h k ih =>
    intro hl hm
    rw [vmrg, if_neg h, if_pos k]
    intro z hz
    rcases List.mem_cons.1 hz with rfl | hz
    · exact hm z (by simp)
    · exact ih hl (fun u hu => hm u (by simp [hu])) z hz
  | case5 x l y m h k ih =>
    intro hl hm
    rw [vmrg, if_neg h, if_neg k]
    intro z hz
    rcases List.mem_cons.1 hz with rfl | hz
    · unfold later; split
      · exact hm y (by simp)
      · exact hl x (by simp)
    · exact ih (fun u hu => hl u (by simp [hu])) (fun u hu => hm u (by simp [hu])) z hz
theorem vget_mrg (l m : List E3) (d e : Int) : Srt l → Srt m → Pos l → Pos m → vget (vmrg l m) d e = max (vget l d e) (vget m d e) := by
  induction l, m using vmrg.induct with
  | case1 m => intro _ _ _ h; rw [vmrg]; have := vget_ge m h d e; simp only [vget]; omega
  | case2 x l => intro _ _ h _; rw [vmrg]; have := vget_ge _ h d e; rw [show vget [] d e = 0 from rfl]; omega
  | case3 x l y m h ih =>
    intro hl hm pl pm
    obtain ⟨l1, l2⟩ := srt_cons.1 hl
    obtain ⟨m1, m2⟩ := srt_cons.1 hm
    rw [vmrg, if_pos h, vget, vget.eq_2 d e x l]
    by_cases he : x.1 = d ∧ x.2.1 = e
    · rw [if_pos he, if_pos he, vget_none (y :: m) d e fun z hz hk => ?_]
      · have := pl x (by simp); omega
      · have : klt x z := by
          rcases List.mem_cons.1 hz with rfl | hz
          · exact h
          · exact klt_trans h (m1 z hz)
        exact klt_ne this ⟨he.1.trans hk.1.symm, he.2.trans hk.2.symm⟩
    · rw [if_neg he, if_neg he]
      exact ih l2 hm (fun u hu => pl u (by simp [hu])) pm
  | case4 x l y m h k ih =>
    intro hl hm pl pm
    obtain ⟨l1, l2⟩ := srt_cons.1 hl
    obtain ⟨m1, m2⟩ := srt_cons.1 hm
    rw [vmrg, if_neg h, if_pos k, vget, vget.eq_2 d e y m]
    by_cases he : y.1 = d ∧ y.2.1 = e
    · rw [if_pos he, if_pos he, vget_none (x :: l) d e fun z hz hk => ?_]
      · have := pm y (by simp); omega
      · have : klt y z := by
          rcases List.mem_cons.1 hz with rfl | hz
          · exact k
          · exact klt_trans k (l1 z hz)
        exact klt_ne this ⟨he.1.trans hk.1.symm, he.2.trans hk.2.symm⟩
    · rw [if_neg he, if_neg he]
      exact ih hl m2 pl (fun u hu => pm u (by simp [hu]))
  | case5 x l y m h k ih =>
    intro hl hm pl pm
    obtain ⟨l1, l2⟩ := srt_cons.1 hl
    obtain ⟨m1, m2⟩ := srt_cons.1 hm
    have hxy : same2 x y := by
      rcases klt_or x y with q | q | q
      · exact absurd q h
      · exact absurd q k
      · exact q
    obtain ⟨k1, k2⟩ := later_key x y hxy
    rw [vmrg, if_neg h, if_neg k, vget, vget.eq_2 d e x l, vget.eq_2 d e y m]
    obtain ⟨e1, e2⟩ := hxy
    rw [← k1, ← k2, ← e1, ← e2]
    by_cases he : x.1 = d ∧ x.2.1 = e
    · rw [if_pos he, if_pos he, if_pos he]
      unfold later; split <;> omega
    · rw [if_neg he, if_neg he, if_neg he]
      exact ih l2 m2 (fun u hu => pl u (by simp [hu])) (fun u hu => pm u (by simp [hu]))
theorem vmrg_len (l m : List E3) : (vmrg l m).length ≤ l.length + m.length := by
  induction l, m using vmrg.induct with
  | case1 m => rw [vmrg]; simp
  | case2 x l => rw [vmrg]; simp
  | case3 x l y m h ih => rw [vmrg, if_pos h]; simp at ih ⊢; omega
  | case4 x l y m h k ih => rw [vmrg, if_neg h, if_pos k]; simp at ih ⊢; omega
  | case5 x l y m h k ih => rw [vmrg, if_neg h, if_neg k]; simp at ih ⊢; omega
theorem vjoin_ok (b : List E3) : ∀ (a : List E3), Srt a → Pos a → Pos b → Srt (vjoin a b) ∧ Pos (vjoin a b) := by
  induction b with
  | nil => intro a h p _; exact ⟨h, p⟩
  | cons y r ih =>
    intro a h p q
    have q1 := q y (by simp)
    have q2 : Pos r := fun u hu => q u (by simp [hu])
    show Srt (vjoin (if vget a y.1 y.2.1 < y.2.2 then vput a y else a) r) ∧ Pos (vjoin (if vget a y.1 y.2.1 < y.2.2 then vput a y else a) r)
    split
    · exact ih _ (vput_srt a y h) (vput_pos a y p q1) q2
    · exact ih _ h p q2
theorem vget_join (b : List E3) (d e : Int) : ∀ (a : List E3), Srt a → Pos a → Srt b → Pos b → vget (vjoin a b) d e = max (vget a d e) (vget b d e) := by
  induction b with
  | nil => intro a _ p _ _; have := vget_ge a p d e; show vget a d e = _; rw [show vget [] d e = 0 from rfl]; omega
  | cons y r ih =>
    intro a h p hb q
    obtain ⟨b1, b2⟩ := srt_cons.1 hb
    have q1 := q y (by simp)
    have q2 : Pos r := fun u hu => q u (by simp [hu])
    have hr := vget_ge r q2 d e
    show vget (vjoin (if vget a y.1 y.2.1 < y.2.2 then vput a y else a) r) d e = _
    rw [vget.eq_2 d e y r]
    split
    · rw [ih _ (vput_srt a y h) (vput_pos a y p q1) b2 q2, vget_put a y h]
      by_cases he : y.1 = d ∧ y.2.1 = e
      · rw [if_pos he, if_pos he, vget_none r d e fun z hz hk => klt_ne (b1 z hz) ⟨he.1.trans hk.1.symm, he.2.trans hk.2.symm⟩]
        obtain ⟨e1, e2⟩ := he
        subst e1; subst e2
        omega
      · rw [if_neg he, if_neg he]
    · rw [ih _ h p b2 q2]
      by_cases he : y.1 = d ∧ y.2.1 = e
      · rw [if_pos he, vget_none r d e fun z hz hk => klt_ne (b1 z hz) ⟨he.1.trans hk.1.symm, he.2.trans hk.2.symm⟩]
        obtain ⟨e1, e2⟩ := he
        subst e1; subst e2
        omega
      · rw [if_neg he]
theorem vmrg_join (a b : List E3) (ha : Srt a) (hb : Srt b) (pa : Pos a) (pb : Pos b) : vmrg a b = vjoin a b := by
  obtain ⟨h1, h2⟩ := vjoin_ok b a ha pa pb
  exact vext _ _ (vmrg_srt a b ha hb) h1 (vmrg_pos a b pa pb) h2 fun d e => by rw [vget_mrg a b d e ha hb pa pb, vget_join b d e a ha pa hb pb]
theorem vle_iff (a b : List E3) (ha : Srt a) (pb : Pos b) : vle a b ↔ ∀ d e, vget a d e ≤ vget b d e := by
  constructor
  · intro h d e
    rcases vget_cases a d e with ⟨y, hy, rfl, rfl, h1⟩ | ⟨_, h1⟩
    · rw [h1]; exact h y hy
    · rw [h1]; exact vget_ge b pb d e
  · intro h y hy
    rw [← vget_mem a ha y hy]
    exact h _ _
end Go.Proofs.Ytlanldjpafkckaa
