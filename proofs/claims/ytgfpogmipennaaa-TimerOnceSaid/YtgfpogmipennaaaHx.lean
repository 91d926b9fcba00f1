/- A heap of timers as a list of items, and the map of their places: plain facts. No condition of the program's own. -/
import Derived.Test.YtgfpogmipennaaaMq
namespace Go.Proofs.Ytgfpogmipennaaa

def itm (l : List It) (k : Nat) : It := l.getD k (0, 0)
def lswap (l : List It) (i j : Nat) : List It := (l.set i (itm l j)).set j (itm l i)
theorem itm_get {l : List It} {k : Nat} (h : k < l.length) : l[k]? = some (itm l k) := by simp [itm, List.getD, h]
theorem itm_of {l : List It} {k : Nat} {x : It} (h : l[k]? = some x) : itm l k = x := by simp [itm, List.getD, h]
theorem lswap_len (l : List It) (i j : Nat) : (lswap l i j).length = l.length := by simp [lswap]
theorem lswap_get (l : List It) (i j k : Nat) (hi : i < l.length) (hj : j < l.length) : (lswap l i j)[k]? = if k = j then some (itm l i) else if k = i then some (itm l j) else l[k]? := by
  unfold lswap
  rw [List.getElem?_set, List.length_set]
  by_cases e : j = k
  · subst e; simp [hj]
  · rw [if_neg e, if_neg (fun h => e h.symm), List.getElem?_set]
    by_cases e2 : i = k
    · subst e2; simp [hi]
    · rw [if_neg e2, if_neg (fun h => e2 h.symm)]
theorem lswap_itm (l : List It) (i j : Nat) (hi : i < l.length) (hj : j < l.length) : itm (lswap l i j) = swp (itm l) i j := by
  funext k
  unfold swp
  rw [show itm (lswap l i j) k = ((lswap l i j)[k]?).getD (0, 0) by simp [itm, List.getD], lswap_get l i j k hi hj]
  by_cases e1 : k = j
  · subst e1
    by_cases e2 : k = i
    · subst e2; simp
    · rw [if_pos rfl, if_neg e2, if_pos rfl]; rfl
  · rw [if_neg e1]
    by_cases e2 : k = i
    · rw [if_pos e2, if_pos e2]; rfl
    · rw [if_neg e2, if_neg e2, if_neg e1]; simp [itm, List.getD]
theorem lswap_perm (l : List It) (i j : Nat) (hi : i < l.length) (hj : j < l.length) : (lswap l i j).Perm l := by
  have h := Array.swap_perm (xs := l.toArray) (i := i) (j := j) (by simpa using hi) (by simpa using hj)
  have e : (l.toArray.swap i j (by simpa using hi) (by simpa using hj)).toList = lswap l i j := by
    simp [Array.swap, lswap, itm, List.getD, hi, hj]
  have h2 := h.toList
  rw [e] at h2
  exact h2

/-- .. but for the pairs of i, above and below it. -/
structure HX (n : Nat) (f : Nat → It) (i : Nat) : Prop where
  edge : ∀ c, 0 < c → c < n → c ≠ i → (c - 1) / 2 ≠ i → ile (f ((c - 1) / 2)) (f c)
  grand : ∀ c, 0 < c → c < n → (c - 1) / 2 = i → 0 < i → ile (f ((i - 1) / 2)) (f c)
theorem HD.hx {n : Nat} {f : Nat → It} {i : Nat} (h : HD n f i) : HX n f i := ⟨fun c c0 cn _ h2 => h.edge c c0 cn h2, h.grand⟩
theorem HX.hu {n : Nat} {f : Nat → It} {i : Nat} (h : HX n f i) (h1 : 2 * i + 1 < n → ile (f i) (f (2 * i + 1))) (h2 : 2 * i + 2 < n → ile (f i) (f (2 * i + 2))) : HU n f i :=
  ⟨fun c c0 cn hc => by
    by_cases e : (c - 1) / 2 = i
    · rw [e]
      by_cases e2 : c = 2 * i + 1
      · rw [e2]; exact h1 (by omega)
      · obtain rfl : c = 2 * i + 2 := by omega
        exact h2 cn
    · exact h.edge c c0 cn hc e, h.grand⟩
theorem HX.step {n : Nat} {f : Nat → It} {i j : Nat} (h : HX n f i) (hj : (j - 1) / 2 = i) (j0 : 0 < j) (jn : j < n) (hlt : ilt (f j) (f i)) (hmin : ∀ c, 0 < c → c < n → (c - 1) / 2 = i → ile (f j) (f c)) : HD n (swp f i j) j := by
  have ij : i < j := by omega
  have si : swp f i j i = f j := by simp [swp]
  have sj : swp f i j j = f i := by unfold swp; rw [if_neg (by omega), if_pos rfl]
  have so : ∀ k, k ≠ i → k ≠ j → swp f i j k = f k := fun k h1 h2 => by unfold swp; rw [if_neg h1, if_neg h2]
  refine ⟨fun c c0 cn hc => ?_, fun c c0 cn hc _ => ?_⟩
  · by_cases e1 : (c - 1) / 2 = i
    · rw [e1, si]
      by_cases e : c = j
      · subst e; rw [sj]; exact ile_of_lt hlt
      · rw [so c (by omega) e]; exact hmin c c0 cn e1
    · rw [so _ e1 hc]
      by_cases e : c = i
      · subst e
        rw [si]
        exact h.grand j j0 jn hj c0
      · rw [so c e (by omega)]; exact h.edge c c0 cn e e1
  · rw [hj, si, so c (by omega) (by omega)]
    have := h.edge c c0 cn (by omega) (by omega)
    rwa [hc] at this
/-- One item of a heap set anew. -/
theorem Hp.hx {n : Nat} {f g : Nat → It} {i : Nat} (h : Hp n f) (hg : ∀ k, k < n → k ≠ i → g k = f k) (hi : i < n) : HX n g i := by
  refine ⟨fun c c0 cn h1 h2 => ?_, fun c c0 cn hc i0 => ?_⟩
  · rw [hg _ (by omega) h2, hg c cn h1]; exact h c c0 cn
  · rw [hg _ (by omega) (by omega), hg c cn (by omega)]
    have a := h i i0 hi
    have b := h c c0 cn
    rw [hc] at b
    exact ile_trans a b
theorem Hp.less {n m : Nat} {f : Nat → It} (h : Hp n f) (hm : m ≤ n) : Hp m f := fun c c0 cn => h c c0 (by omega)

/-- m tells where each id stands. -/
def Idx (l : List It) (m : Int → Option Int) : Prop := ∀ k v, m k = some v ↔ ∃ (i : Nat) (t : Int), l[i]? = some (k, t) ∧ v = (i : Int)
theorem Idx.at_ {l : List It} {m : Int → Option Int} (h : Idx l m) {i : Nat} (hi : i < l.length) : m (itm l i).1 = some (i : Int) := (h _ _).2 ⟨i, (itm l i).2, itm_get hi, rfl⟩
theorem Idx.inj {l : List It} {m : Int → Option Int} (h : Idx l m) {i j : Nat} (hi : i < l.length) (hj : j < l.length) (e : (itm l i).1 = (itm l j).1) : i = j := by
  have a := h.at_ hi
  rw [e, h.at_ hj] at a
  simp at a
  omega
theorem Idx.nil : Idx [] (fun _ => none) := by intro k v; simp
theorem Idx.swap {l : List It} {m : Int → Option Int} (h : Idx l m) {i j : Nat} (hi : i < l.length) (hj : j < l.length) : Idx (lswap l i j) (mput (mput m (itm l j).1 i) (itm l i).1 j) := by
  intro k v
  unfold mput
  constructor
  · intro hk
    by_cases e1 : k = (itm l i).1
    · rw [if_pos e1] at hk; cases hk
      exact ⟨j, (itm l i).2, by rw [lswap_get l i j j hi hj, if_pos rfl, e1], rfl⟩
    · rw [if_neg e1] at hk
      by_cases e2 : k = (itm l j).1
      · rw [if_pos e2] at hk; cases hk
        refine ⟨i, (itm l j).2, ?_, rfl⟩
        rw [lswap_get l i j i hi hj, if_neg (fun e => e1 (by rw [e2, e])), if_pos rfl, e2]
      · rw [if_neg e2] at hk
        obtain ⟨q, t, hq, hv⟩ := (h k v).1 hk
        refine ⟨q, t, ?_, hv⟩
        rw [lswap_get l i j q hi hj, if_neg (fun e => e2 (by rw [← e, itm_of hq])), if_neg (fun e => e1 (by rw [← e, itm_of hq])), hq]
  · rintro ⟨q, t, hq, rfl⟩
    rw [lswap_get l i j q hi hj] at hq
    by_cases e1 : q = j
    · rw [if_pos e1] at hq
      have : k = (itm l i).1 := by simp at hq; rw [hq]
      rw [if_pos this, e1]
    · rw [if_neg e1] at hq
      by_cases e2 : q = i
      · rw [if_pos e2] at hq
        have hk : k = (itm l j).1 := by simp at hq; rw [hq]
        have : k ≠ (itm l i).1 := fun e => e1 (by rw [e2]; exact h.inj hi hj (by rw [← e, hk]))
        rw [if_neg this, if_pos hk, e2]
      · rw [if_neg e2] at hq
        have hql : q < l.length := (List.getElem?_eq_some_iff.1 hq).1
        have hk : k = (itm l q).1 := by rw [itm_of hq]
        rw [if_neg (fun e => e2 (h.inj hql hi (by rw [← hk, e]))), if_neg (fun e => e1 (h.inj hql hj (by rw [← hk, e])))]
        exact (h k _).2 ⟨q, t, hq, rfl⟩
theorem mput_comm (m : Int → Option Int) {a b : Int} (h : a ≠ b) (u v : Int) : mput (mput m a u) b v = mput (mput m b v) a u := by
  funext k
  unfold mput
  by_cases e1 : k = a
  · subst e1; rw [if_neg h, if_pos rfl, if_pos rfl]
  · by_cases e2 : k = b
    · subst e2; rw [if_pos rfl, if_neg e1, if_pos rfl]
    · rw [if_neg e2, if_neg e1, if_neg e1, if_neg e2]
theorem Idx.push {l : List It} {m : Int → Option Int} (h : Idx l m) (x : It) (hx : m x.1 = none) : Idx (l ++ [x]) (mput m x.1 l.length) := by
  intro k v
  unfold mput
  constructor
  · intro hk
    by_cases e : k = x.1
    · rw [if_pos e] at hk; cases hk
      exact ⟨l.length, x.2, by simp [e], rfl⟩
    · rw [if_neg e] at hk
      obtain ⟨i, t, hi, hv⟩ := (h k v).1 hk
      exact ⟨i, t, by rw [List.getElem?_append_left (List.getElem?_eq_some_iff.1 hi).1]; exact hi, hv⟩
  · rintro ⟨i, t, hi, rfl⟩
    by_cases e : i < l.length
    · rw [List.getElem?_append_left e] at hi
      have hm := (h k i).2 ⟨i, t, hi, rfl⟩
      rw [if_neg (fun e2 => by rw [e2, hx] at hm; cases hm)]
      exact hm
    · have hl := (List.getElem?_eq_some_iff.1 hi).1
      rw [List.length_append] at hl
      obtain rfl : i = l.length := by simp at hl; omega
      simp at hi
      rw [if_pos (by rw [hi])]
theorem Idx.pop {l : List It} {m : Int → Option Int} {x : It} (h : Idx (l ++ [x]) m) : Idx l (mdrop m x.1) := by
  intro k v
  unfold mdrop
  constructor
  · intro hk
    by_cases e : k = x.1
    · rw [if_pos e] at hk; cases hk
    · rw [if_neg e] at hk
      obtain ⟨i, t, hi, hv⟩ := (h k v).1 hk
      have hl := (List.getElem?_eq_some_iff.1 hi).1
      rw [List.length_append] at hl
      by_cases e2 : i < l.length
      · rw [List.getElem?_append_left e2] at hi
        exact ⟨i, t, hi, hv⟩
      · obtain rfl : i = l.length := by simp at hl; omega
        simp at hi
        exact absurd (by rw [hi]) e
  · rintro ⟨i, t, hi, rfl⟩
    have hil := (List.getElem?_eq_some_iff.1 hi).1
    have h1 : (l ++ [x])[i]? = some (k, t) := by rw [List.getElem?_append_left hil]; exact hi
    rw [if_neg (fun e => ?_)]
    · exact (h k i).2 ⟨i, t, h1, rfl⟩
    · have := h.inj (i := i) (j := l.length) (by simp; omega) (by simp) (by rw [itm_of h1, itm_of (x := x) (by simp)]; exact e)
      omega
theorem Idx.set {l : List It} {m : Int → Option Int} (h : Idx l m) {i : Nat} (hi : i < l.length) (t : Int) : Idx (l.set i ((itm l i).1, t)) m := by
  intro k v
  rw [h k v]
  constructor
  · rintro ⟨q, u, hq, hv⟩
    by_cases e : i = q
    · subst e
      exact ⟨i, t, by rw [List.getElem?_set, if_pos rfl, if_pos hi, itm_of hq], hv⟩
    · exact ⟨q, u, by rw [List.getElem?_set, if_neg e]; exact hq, hv⟩
  · rintro ⟨q, u, hq, hv⟩
    rw [List.getElem?_set] at hq
    by_cases e : i = q
    · subst e
      rw [if_pos rfl, if_pos hi] at hq
      have hk : k = (itm l i).1 := by simp at hq; rw [hq.1]
      exact ⟨i, (itm l i).2, by rw [itm_get hi, hk], hv⟩
    · rw [if_neg e] at hq
      exact ⟨q, u, hq, hv⟩
end Go.Proofs.Ytgfpogmipennaaa
