/- What Scan finds: pure. Rows of records of the call's own. -/
import Derived.Test.YtpfahfakinonnaaDoorGsc
import Derived.Laws.OwnMore
namespace Go.Proofs.YtpfahfakinonnaaDoor
open Go.RowKit Go.ChangeShapes

/-- What Scan tells of bytes: the records, and how many bytes their frames have. -/
def scanF : Nat → List Int → List (List Int) × Nat
  | 0, _ => ([], 0)
  | f + 1, l => if firstE l = 0 then (recP l :: (scanF f (l.drop (8 + rd4 l))).1, 8 + rd4 l + (scanF f (l.drop (8 + rd4 l))).2) else ([], 0)
def scanP (l : List Int) : List (List Int) × Nat := scanF (l.length + 1) l
theorem scanF_step (f : Nat) (l : List Int) : scanF (f + 1) l = if firstE l = 0 then (recP l :: (scanF f (l.drop (8 + rd4 l))).1, 8 + rd4 l + (scanF f (l.drop (8 + rd4 l))).2) else ([], 0) := rfl
theorem drop_less {l : List Int} (h : firstE l = 0) : (l.drop (8 + rd4 l)).length < l.length := by
  have := firstE_long (l := l) (by rw [h]; decide) (by rw [h]; decide)
  rw [List.length_drop]; omega
theorem scanF_enough : ∀ (f : Nat) (l : List Int), l.length < f → scanF f l = scanP l := fun f => by
  induction f using Nat.strongRecOn with
  | _ f ih =>
    intro l hl
    obtain ⟨g, rfl⟩ : ∃ g, f = g + 1 := ⟨f - 1, by omega⟩
    unfold scanP
    rw [scanF_step, scanF_step]
    by_cases h : firstE l = 0
    · rw [if_pos h, if_pos h]
      have hd := drop_less h
      rw [ih g (by omega) _ (by omega)]
      by_cases hg : l.length = g + 1
      · omega
      · rw [ih l.length (by omega) _ hd]
    · rw [if_neg h, if_neg h]
theorem scanP_ok {l : List Int} (h : firstE l = 0) : scanP l = (recP l :: (scanP (l.drop (8 + rd4 l))).1, 8 + rd4 l + (scanP (l.drop (8 + rd4 l))).2) := by
  unfold scanP
  rw [scanF_step, if_pos h, scanF_enough _ _ (drop_less h)]
  rfl
theorem scanP_no {l : List Int} (h : firstE l ≠ 0) : scanP l = ([], 0) := by unfold scanP; rw [scanF_step, if_neg h]
theorem scanP_fr (l m : List Int) (hb : ∀ x ∈ l, 0 ≤ x ∧ x ≤ 255) (hl : l.length ≤ 4194304) : scanP (frP l ++ m) = (l :: (scanP m).1, 8 + l.length + (scanP m).2) := by
  rw [scanP_ok (first_fr l m hb hl), recP_fr l m (by omega), rd4_fr l m (by omega)]
  have : (frP l ++ m).drop (8 + l.length) = m := by
    have e : 8 + l.length = (frP l).length := by rw [frP_len]; omega
    rw [e]; exact List.drop_left
  rw [this]
/-- Frames, one behind the other. -/
def logP (L : List (List Int)) : List Int := L.flatMap frP
theorem logP_len (L : List (List Int)) : (logP L).length = (L.map fun l => 8 + l.length).sum := by
  induction L with
  | nil => rfl
  | cons l r ih => show (frP l ++ logP r).length = _; rw [List.length_append, frP_len, ih, List.map_cons, List.sum_cons]; omega
theorem logP_byte (L : List (List Int)) (h : ∀ l ∈ L, ∀ x ∈ l, 0 ≤ x ∧ x ≤ 255) : ∀ x ∈ logP L, 0 ≤ x ∧ x ≤ 255 := fun x hx => by
  obtain ⟨l, hl, hx⟩ := List.mem_flatMap.1 hx
  exact frP_byte l (h l hl) x hx
theorem scanP_log (L : List (List Int)) (m : List Int) (h : ∀ l ∈ L, ∀ x ∈ l, 0 ≤ x ∧ x ≤ 255) (hl : ∀ l ∈ L, l.length ≤ 4194304) : scanP (logP L ++ m) = (L ++ (scanP m).1, (logP L).length + (scanP m).2) := by
  induction L with
  | nil => simp [logP]
  | cons l r ih =>
    have e : logP (l :: r) ++ m = frP l ++ (logP r ++ m) := by show (frP l ++ logP r) ++ m = _; rw [List.append_assoc]
    rw [e, scanP_fr l _ (h l (by simp)) (hl l (by simp)), ih (fun l hl => h l (by simp [hl])) (fun l h2 => hl l (by simp [h2]))]
    have : (logP (l :: r)).length = 8 + l.length + (logP r).length := by show (frP l ++ logP r).length = _; rw [List.length_append, frP_len]; omega
    rw [this]
    simp only [List.cons_append, Prod.mk.injEq, true_and]
    omega

/-- A row of records of the call's own: each one a row of bytes elsewhere. -/
def RLe (w : World) (base : Nat) (v : Value) (L : List (List Int)) (es : List Value) : Prop :=
  w.ownsRow base 33 1 v L.length es ∧ ∀ (i : Nat) (x : List Int), L[i]? = some x → ∃ (A : Option Addr) (c : Nat), es[i]? = some (Value.slice A x.length c) ∧ x.length ≤ c ∧
    (x = [] ∨ ∃ b off, A = some ⟨b, off, none⟩ ∧ b < w.heap.size ∧ v.ownBlock ≠ some b ∧ ∀ j u, (bs x)[j]? = some u → w.cell? ⟨b, off + j, none⟩ = some u)
def RL (w : World) (base : Nat) (v : Value) (L : List (List Int)) : Prop := ∃ es, RLe w base v L es
theorem RL.nil (w : World) (base : Nat) : RL w base (.slice none 0 0) [] := ⟨[], World.ownsRow_nil w _ _ 1, fun i x h => by simp at h⟩
theorem RL.grow {w w' : World} {base : Nat} {v : Value} {L : List (List Int)} (h : RL w base v L) (hg : w.grownBy w' none) : RL w' base v L := by
  obtain ⟨es, ho, he⟩ := h
  refine ⟨es, ho.kept hg (by cases v.ownBlock <;> simp), fun i x hx => ?_⟩
  obtain ⟨A, c, h1, h2, h3⟩ := he i x hx
  refine ⟨A, c, h1, h2, h3.imp id ?_⟩
  rintro ⟨b, off, rfl, hb, hv, hc⟩
  exact ⟨b, off, rfl, Nat.lt_of_lt_of_le hb hg.size, hv, fun j u hu => (World.cell?_of_block (hg.block b hb (by simp))).trans (hc j u hu)⟩
theorem RL.form {w : World} {base : Nat} {v : Value} {L : List (List Int)} (h : RL w base v L) : ∃ A c, v = .slice A L.length c := by
  obtain ⟨es, ho, _⟩ := h; exact own_slice ho
/-- One record more. -/
theorem RLe.add {w w1 w2 : World} {base : Nat} {v v' : Value} {L : List (List Int)} {es0 : List Value} {x : List Int} {A : Option Addr} {c : Nat} (h : RLe w base v L es0) (hg : w.grownBy w1 none)
    (hx : w1.ownsRow w.heap.size 5 1 (.slice A x.length c) x.length (bs x))
    (ga : Grew (w1.alloc (.cells #[.slice A x.length c] 33)) w2 base 33 v v' (es0 ++ [.slice A x.length c])) : RL w2 base v' (L ++ [x]) := by
  obtain ⟨ho, he⟩ := h
  have hlen : es0.length = L.length := by have := ho.1; omega
  have hG : w.grownBy (w1.alloc (.cells #[.slice A x.length c] 33)) none := only_alloc hg _
  have vlt : ∀ k, v.ownBlock = some k → k < w.heap.size := fun k hk => (ho.lt k hk).2
  have at_ : ∀ b, b < w1.heap.size → v.ownBlock ≠ some b → v'.ownBlock ≠ some b := fun b hb hne => by
    rcases ga.at_ with e | ⟨g, e, hge⟩
    · rw [e]; exact hne
    · rw [e]; simp; have := (World.grownBy_alloc w1 (.cells #[.slice A x.length c] 33) none).size; omega
  have keep : ∀ b off, b < w1.heap.size → v.ownBlock ≠ some b → w2.cell? ⟨b, off, none⟩ = w1.cell? ⟨b, off, none⟩ := fun b off hb hne =>
    (World.cell?_of_block (ga.only.block b (Nat.lt_of_lt_of_le hb (World.grownBy_alloc w1 _ none).size) (fun e => hne e.symm))).trans (World.cell?_alloc_lt _ _ _ hb)
  have size2 : w1.heap.size ≤ w2.heap.size := Nat.le_trans (World.grownBy_alloc w1 _ none).size ga.only.size
  refine ⟨es0 ++ [.slice A x.length c], ?_, fun i y hy => ?_⟩
  · have := ga.own
    rw [List.length_append, hlen] at this
    rw [List.length_append]; exact this
  · by_cases hi : i < L.length
    · rw [List.getElem?_append_left hi] at hy
      obtain ⟨A', c', h1, h2, h3⟩ := he i y hy
      refine ⟨A', c', by rw [List.getElem?_append_left (by omega)]; exact h1, h2, h3.imp id ?_⟩
      rintro ⟨b, off, rfl, hb, hv, hc⟩
      have hb1 : b < w1.heap.size := Nat.lt_of_lt_of_le hb hg.size
      exact ⟨b, off, rfl, Nat.lt_of_lt_of_le hb1 size2, at_ b hb1 hv, fun j u hu => (keep b _ hb1 hv).trans ((World.cell?_of_block (hg.block b hb (by simp))).trans (hc j u hu))⟩
    · rw [List.getElem?_append_right (by omega)] at hy
      have hi0 : i - L.length = 0 := by
        rcases Nat.eq_zero_or_pos (i - L.length) with h0 | h0
        · exact h0
        · rw [List.getElem?_eq_none (by simp; omega)] at hy; cases hy
      rw [hi0] at hy
      simp at hy
      subst hy
      refine ⟨A, c, by rw [List.getElem?_append_right (by omega), hlen, hi0]; rfl, own_cap hx, ?_⟩
      rcases Nat.eq_zero_or_pos x.length with h0 | h0
      · exact .inl (List.eq_nil_of_length_eq_zero h0)
      · right
        obtain ⟨g, cap, hv, hgb⟩ := own_form hx h0
        injection hv with e1 e2 e3
        subst e1
        have hgl := (hx.lt g rfl).2
        have hne : v.ownBlock ≠ some g := fun e => by have := vlt g e; omega
        refine ⟨g, 0, rfl, Nat.lt_of_lt_of_le hgl size2, at_ g hgl hne, fun j u hu => ?_⟩
        rw [Nat.zero_add, keep g j hgl hne]
        have := hx.cells (g := g) rfl j u hu
        rw [Addr.add_lit, Nat.zero_add] at this
        exact this
end Go.Proofs.YtpfahfakinonnaaDoor
