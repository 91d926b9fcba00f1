/- A region that draws its order, whose late writes hit cells that it reads: reads, and calls that leave the world alone, are taken first, in the order of the text; what holds of the world is asked only till operation t has come up, which waits for all of these. No condition of the program's own. -/
import Derived.Deep.RegionHeld3
import Derived.Deep.DrawnRows
import Derived.Lib.Hide
import Derived.WalkKit
namespace Go.Proofs.Ytjhnipnocjoelaa
open Go.RowKit

section
variable {P : Program} {ops : Array Oper} {Q : Exit → Act → World → Prop} {md : Region.Mode} {S : World → Prop} {LS : List (Nat × (World → Prop))}

/-- In every world that meets S the operation yields v and leaves the world: by itself, or by a call. -/
def QuietIf (P : Program) (ops : Array Oper) (S : World → Prop) (o : Oper) (v : Value) (a : Act) : Prop :=
  (Region.wanted o (yielded ops a.tmps) = true ∧ ((∀ w, S w → (execOp a.eval o).run P w = .ok (.value v) w) ∨
    ∃ f args, (∀ w, S w → (execOp a.eval o).run P w = .ok (.enter f args) w) ∧ ∀ w, S w → Calls P f args w fun e w' => e = .returned v ∧ w = w')) ∨
  (Region.wanted o (yielded ops a.tmps) = false ∧ v = undef)
theorem QuietIf.of_same {o : Oper} {v : Value} {a a' : Act} (hy : QuietIf P ops S o v a) (he : execOp a'.eval o = execOp a.eval o)
    (hw : Region.wanted o (yielded ops a'.tmps) = Region.wanted o (yielded ops a.tmps)) : QuietIf P ops S o v a' := by
  unfold QuietIf at *
  rw [he, hw]
  exact hy
theorem QuietIf.wpOp {i : Nat} {o : Oper} {v : Value} {a : Act} (hi : ops[i]? = some o) (hy : QuietIf P ops S o v a)
    {K : Act → World → Prop} {w : World} (hS : S w) (h : K (a.put o.dst v) w) : wpOp P ops Q i K a w := by
  unfold Go.wpOp
  simp only [hi]
  rcases hy with ⟨hw, hv | ⟨f, args, he, hc⟩⟩ | ⟨hw, rfl⟩
  · simp only [hw, if_true, Oper.wp, hv w hS, Oper.upon]; exact .inl h
  · simp only [hw, if_true, Oper.wp, he w hS, Oper.upon]
    refine .inl ((hc w hS).mono ?_)
    rintro _ _ ⟨rfl, rfl⟩
    exact h
  · simp only [hw, Bool.false_eq_true, if_false]; exact h
theorem wpOp_putQ {j : Nat} {oi oj : Oper} {v : Value} (hj : ops[j]? = some oj) (hap : oi.apart ops oj = true)
    (hsi : ∀ cs b, oi.op ≠ .select cs b) (hsj : ∀ cs b, oj.op ≠ .select cs b)
    (hQ : ∀ c a w, Q (.panic c) (a.put oi.dst v) w → Q (.panic c) a w) {K : Act → World → Prop} {a : Act} {w : World}
    (hy : QuietIf P ops S oi v a) (h : wpOp P ops Q j K (a.put oi.dst v) w) :
    wpOp P ops Q j (fun a' w' => QuietIf P ops S oi v a' ∧ K (a'.put oi.dst v) w') a w := by
  obtain ⟨h1, h2, h3⟩ := Oper.apart_spec hap
  have keep : ∀ (a : Act), QuietIf P ops S oi v a → ∀ u, QuietIf P ops S oi v (a.put oj.dst u) := fun a hy u =>
    hy.of_same (execOp_put oi hsi a oj.dst u h3) (wanted_put oi a oj.dst u h3)
  have keepD : ∀ d, QuietIf P ops S oi v { a with defers := d :: a.defers } := fun d => hy.of_same rfl rfl
  unfold Go.wpOp at *
  simp only [hj] at *
  rw [wanted_put oj a oi.dst v h1] at h
  split
  · rename_i hw
    simp only [hw, if_true] at h
    rcases h with h | ⟨hasks, hlets⟩
    case inr => exact .inr ⟨by unfold Oper.asks at *; rw [execOp_put oj hsj a oi.dst v h1] at hasks; exact hasks, hlets⟩
    refine .inl ?_
    unfold Oper.wp at *
    rw [execOp_put oj hsj a oi.dst v h1] at h
    generalize (execOp a.eval oj).run P w = r at *
    cases r with
    | ok n w' =>
      cases n <;> simp only [Oper.upon] at h ⊢
      case value u => exact ⟨keep a hy u, by rw [← Act.put_comm a v u h2]; exact h⟩
      case skip => exact ⟨keep a hy _, by rw [← Act.put_comm a v undef h2]; exact h⟩
      case defer d =>
        refine ⟨keep _ (keepD d) _, ?_⟩
        rw [← Act.put_comm _ v undef h2, ← Act.put_defers]
        exact h
      case enter f args =>
        refine Calls.mono h fun e w'' he => ?_
        cases e with
        | returned u => exact ⟨keep a hy u, by rw [← Act.put_comm a v u h2]; exact he⟩
        | panicked c => exact hQ _ _ _ he
        | outgrown => exact he
      case row row args => exact Rows.mono h fun u w'' he => ⟨keep a hy u, by rw [← Act.put_comm a v u h2]; exact he⟩
    | halt x w' =>
      cases x <;> simp only [Oper.upon] at h ⊢
      case panic u => exact hQ _ _ _ h
  · rename_i hw
    simp only [hw] at h
    exact ⟨keep a hy _, by rw [← Act.put_comm a v undef h2]; exact h⟩

/-- Of each pair: till that operation has come up this holds of the world. -/
def Holds (LS : List (Nat × (World → Prop))) (l : Array Bool) (w : World) : Prop := ∀ p ∈ LS, l.getD p.1 true = false → p.2 w
theorem Holds.set {i : Nat} {l : Array Bool} {w : World} (hi : i ∉ LS.map Prod.fst) (h : Holds LS (l.setIfInBounds i true) w) : Holds LS l w := fun p hp e =>
  h p hp (by rw [getD_set_ne true (show i ≠ p.1 from fun e => hi (by rw [e]; exact List.mem_map_of_mem hp))]; exact e)
theorem Holds.at {i : Nat} {l : Array Bool} {w : World} (hi : i ∉ LS.map Prod.fst) (h : Holds LS l w) : Holds LS (l.setIfInBounds i true) w := fun p hp e =>
  h p hp (by rwa [getD_set_ne true (show i ≠ p.1 from fun e => hi (by rw [e]; exact List.mem_map_of_mem hp))] at e)
theorem holds0 {l : Array Bool} {w : World} : Holds [] l w := fun p hp => by cases hp
theorem holds1 {t : Nat} {l : Array Bool} {w : World} (h : l.getD t true = false → S w) : Holds [(t, S)] l w := fun p hp e => by
  rw [List.mem_singleton] at hp
  subst hp
  exact h e
theorem holds2 {t t2 : Nat} {S2 : World → Prop} {l : Array Bool} {w : World} (h : l.getD t true = false → S w) (h2 : l.getD t2 true = false → S2 w) : Holds [(t, S), (t2, S2)] l w := fun p hp e => by
  rcases List.mem_cons.1 hp with rfl | hp
  · exact h e
  · exact holds1 h2 p hp e
theorem holds3 {t t2 t3 : Nat} {S2 S3 : World → Prop} {l : Array Bool} {w : World} (h : l.getD t true = false → S w) (h2 : l.getD t2 true = false → S2 w) (h3 : l.getD t3 true = false → S3 w) : Holds [(t, S), (t2, S2), (t3, S3)] l w := fun p hp e => by
  rcases List.mem_cons.1 hp with rfl | hp
  · exact h e
  · exact holds2 h2 h3 p hp e
/-- Whatever order is picked from here on; what is to hold holds behind every operation that is carried out. -/
def wpAnyT (P : Program) (md : Region.Mode) (ops : Array Oper) (Q : Exit → Act → World → Prop) (LS : List (Nat × (World → Prop))) : Nat → Array Bool → Act → World → Prop
  | 0, listed, a, w => Region.ready md ops listed = [] ∧ Q .normal a w
  | fuel + 1, listed, a, w =>
    (Region.ready md ops listed = [] → Q .normal a w) ∧
    ∀ i ∈ Region.ready md ops listed, wpOp P ops Q i (fun a' w' => Holds LS (listed.setIfInBounds i true) w' ∧ wpAnyT P md ops Q LS fuel (listed.setIfInBounds i true) a' w') a w
theorem wpAny_of_late : ∀ (fuel : Nat) (listed : Array Bool) (a : Act) (w : World), wpAnyT P md ops Q LS fuel listed a w → wpAny P md ops Q fuel listed a w
  | 0, _, _, _, h => h
  | fuel + 1, _, _, _, h => ⟨h.1, fun i hi => wpOp_mono (fun a' w' h' => wpAny_of_late fuel _ a' w' h'.2) (h.2 i hi)⟩
/-- More is to hold from here on. -/
theorem wpAnyT_more (LS' : List (Nat × (World → Prop))) (hS : ∀ l w, Holds LS' l w → Holds LS l w) : ∀ (fuel : Nat) (listed : Array Bool) (a : Act) (w : World), wpAnyT P md ops Q LS' fuel listed a w → wpAnyT P md ops Q LS fuel listed a w
  | 0, _, _, _, h => h
  | fuel + 1, _, _, _, h => ⟨h.1, fun i hi => wpOp_mono (fun a' w' h' => ⟨hS _ w' h'.1, wpAnyT_more LS' hS fuel _ a' w' h'.2⟩) (h.2 i hi)⟩
theorem more1 {t : Nat} {S' : World → Prop} (h : ∀ w, S' w → S w) (l : Array Bool) (w : World) (hh : Holds [(t, S')] l w) : Holds [(t, S)] l w := holds1 fun e => h w (hh _ (.head _) e)
theorem more2 {t t2 : Nat} {S' S2 S2' : World → Prop} (h : ∀ w, S' w → S w) (h2 : ∀ w, S2' w → S2 w) (l : Array Bool) (w : World) (hh : Holds [(t, S'), (t2, S2')] l w) : Holds [(t, S), (t2, S2)] l w :=
  holds2 (fun e => h w (hh _ (.head _) e)) (fun e => h2 w (hh _ (.tail _ (.head _)) e))
/-- Operation t waits for operation i, at most f steps behind it. -/
def Region.befB (md : Region.Mode) (ops : Array Oper) : Nat → Nat → Nat → Bool
  | 0, _, _ => false
  | f + 1, t, i => match ops[t]? with
    | some ot => ot.after.any fun e => Region.binds md e && (e.on == i || Region.befB md ops f e.on i)
    | none => false
/-- What has come up has come up behind what it waits for. -/
def Region.closedB (md : Region.Mode) (ops : Array Oper) (listed : Array Bool) : Bool :=
  (List.range ops.size).all fun j => match ops[j]? with
    | some oj => !listed.getD j false || oj.after.all fun e => !Region.binds md e || listed.getD e.on false
    | none => true
def Region.Closed (md : Region.Mode) (ops : Array Oper) (listed : Array Bool) : Prop :=
  ∀ (j : Nat) (oj : Oper), ops[j]? = some oj → listed.getD j false = true → ∀ e ∈ oj.after, Region.binds md e = true → listed.getD e.on false = true
theorem Region.closed_of {listed : Array Bool} (h : Region.closedB md ops listed = true) : Region.Closed md ops listed := fun j oj hj hl e he hb => by
  have h1 := List.all_eq_true.1 h j (List.mem_range.2 (Array.getElem?_eq_some_iff.1 hj).1)
  rw [hj] at h1
  simp only [hl, Bool.not_true, Bool.false_or] at h1
  have h2 := Array.all_eq_true'.1 h1 e he
  rw [hb] at h2
  simpa using h2
theorem Region.bef_listed {listed : Array Bool} {i : Nat} (hc : Region.Closed md ops listed) : ∀ (f t : Nat) (ot : Oper), ops[t]? = some ot → (∀ e ∈ ot.after, Region.binds md e = true → listed.getD e.on false = true) → Region.befB md ops f t i = true → listed.getD i false = true
  | 0, _, _, _, _, h => by simp [Region.befB] at h
  | f + 1, t, ot, ho, hall, h => by
    unfold Region.befB at h
    rw [ho] at h
    obtain ⟨e, he, hb⟩ := Array.any_eq_true'.1 h
    simp only [Bool.and_eq_true, Bool.or_eq_true, beq_iff_eq] at hb
    have hl := hall e he hb.1
    rcases hb.2 with h1 | h1
    · rw [← h1]; exact hl
    · cases f with
      | zero => simp [Region.befB] at h1
      | succ f =>
        cases hq : ops[e.on]? with
        | none => unfold Region.befB at h1; rw [hq] at h1; cases h1
        | some oq => exact Region.bef_listed hc (f + 1) e.on oq hq (fun e' he' hb' => hc e.on oq hq hl e' he' hb') h1
theorem getD_un {listed : Array Bool} {i : Nat} (h : listed.getD i true = false) : listed.getD i false = false := by
  rcases Nat.lt_or_ge i listed.size with h' | h'
  · simp [h'] at h ⊢; exact h
  · simp [Array.getElem?_eq_none h'] at h
theorem Region.Closed.set {listed : Array Bool} {j : Nat} (hc : Region.Closed md ops listed) (hj : j ∈ Region.ready md ops listed) : Region.Closed md ops (listed.setIfInBounds j true) := fun k ok hk hl e he hb => by
  obtain ⟨_, oj, hoj, hall⟩ := mem_ready.1 hj
  have up : ∀ q, listed.getD q false = true → (listed.setIfInBounds j true).getD q false = true := fun q hq => by
    by_cases hjq : j = q
    · subst hjq
      rcases Nat.lt_or_ge j listed.size with h' | h'
      · simp [h']
      · simp [Array.getElem?_eq_none h'] at hq
    · rw [getD_set_ne false hjq]; exact hq
  by_cases hjk : j = k
  · subst hjk
    rw [hk] at hoj
    cases hoj
    exact up _ (hall e he hb)
  · rw [getD_set_ne false hjk] at hl
    exact up _ (hc k ok hk hl e he hb)
theorem wpAnyT_core {C : World → Prop} {G : Array Bool → World → Prop} {i : Nat} {oi : Oper} {v : Value} (hi : ops[i]? = some oi) (hsel : ∀ (j : Nat) (o : Oper) cs b, ops[j]? = some o → o.op ≠ .select cs b)
    (hQ : ∀ c a w, Q (.panic c) (a.put oi.dst v) w → Q (.panic c) a w) (hit : i ∉ LS.map Prod.fst) (g1 : ∀ l w, G l w → C w)
    (g2 : ∀ l w w' j, i ∈ Region.ready md ops l → j ∈ Region.ready md ops l → j ≠ i → G l w → Holds LS (l.setIfInBounds j true) w' → G (l.setIfInBounds j true) w')
    (g3 : ∀ l w, G l w → Holds LS l w) :
    ∀ (fuel : Nat) (listed : Array Bool) (a : Act) (w : World),
      (∀ j oj, ops[j]? = some oj → j ≠ i → listed.getD j true = false → (∀ e ∈ oj.after, Region.binds md e = true → e.on ≠ i) → oi.apart ops oj = true) →
      i ∈ Region.ready md ops listed → QuietIf P ops C oi v a → G listed w →
      wpAnyT P md ops Q LS fuel (listed.setIfInBounds i true) (a.put oi.dst v) w → wpAnyT P md ops Q LS (fuel + 1) listed a w := by
  intro fuel
  induction fuel with
  | zero =>
    intro listed a w _ hr hy hG H
    refine ⟨fun h => (by rw [h] at hr; cases hr), fun j hj => ?_⟩
    by_cases hji : j = i
    · subst hji
      exact hy.wpOp hi (g1 _ _ hG) ⟨(g3 _ _ hG).at hit, H⟩
    · have := ready_mono hj hji
      rw [H.1] at this
      cases this
  | succ fuel ih =>
    intro listed a w hfree hr hy hG H
    refine ⟨fun h => (by rw [h] at hr; cases hr), fun j hj => ?_⟩
    by_cases hji : j = i
    · subst hji
      exact hy.wpOp hi (g1 _ _ hG) ⟨(g3 _ _ hG).at hit, H⟩
    · have h1 := H.2 j (ready_mono hj hji)
      obtain ⟨hjun, oj, hoj, hall⟩ := mem_ready.1 hj
      have hun := (mem_ready.1 hr).1
      have hnot : ∀ e ∈ oj.after, Region.binds md e = true → e.on ≠ i := fun e he hb heq => by
        have h1 := hall e he hb
        rw [heq, getD_un hun] at h1
        cases h1
      have h2 := wpOp_putQ hoj (hfree j oj hoj hji hjun hnot) (fun cs b => hsel i oi cs b hi) (fun cs b => hsel j oj cs b hoj) hQ hy h1
      have hfree' : ∀ k ok, ops[k]? = some ok → k ≠ i → (listed.setIfInBounds j true).getD k true = false →
          (∀ e ∈ ok.after, Region.binds md e = true → e.on ≠ i) → oi.apart ops ok = true := fun k ok hk hki hun hno => by
        refine hfree k ok hk hki ?_ hno
        by_cases hjk : j = k
        · subst hjk; exact hjun
        · rw [getD_set_ne true hjk] at hun; exact hun
      refine wpOp_mono (fun a' w' h3 => ?_) h2
      have hS' : Holds LS (listed.setIfInBounds j true) w' := by
        have h4 := h3.2.1
        rw [Array.setIfInBounds_comm _ _ (Ne.symm hji)] at h4
        exact h4.set hit
      have hG' := g2 _ _ w' j hr hj hji hG hS'
      refine ⟨hS', ih (listed.setIfInBounds j true) a' w' hfree' (ready_mono hr (Ne.symm hji)) h3.1 hG' ?_⟩
      rw [Array.setIfInBounds_comm _ _ hji]
      exact h3.2.2
/-- What yields in whatever world, or is not wanted, is taken first. -/
theorem wpAnyT_pure {i : Nat} {oi : Oper} {v : Value} {fuel : Nat} {listed : Array Bool} {a : Act} {w : World} (hi : ops[i]? = some oi)
    (hs : Region.noSelect ops = true) (hit : (LS.map Prod.fst).contains i = false) (hf : Region.free md ops listed i = true) (hr : (Region.ready md ops listed).contains i = true)
    (hQ : ∀ c a w, Q (.panic c) (a.put oi.dst v) w → Q (.panic c) a w) (hy : (Region.wanted oi (yielded ops a.tmps) = true ∧ ∀ w, (execOp a.eval oi).run P w = .ok (.value v) w) ∨ (Region.wanted oi (yielded ops a.tmps) = false ∧ v = undef)) (hS : Holds LS listed w)
    (h : wpAnyT P md ops Q LS fuel (listed.setIfInBounds i true) (a.put oi.dst v) w) : wpAnyT P md ops Q LS (fuel + 1) listed a w :=
  wpAnyT_core (C := fun _ => True) (G := fun l w => Holds LS l w) hi (Region.noSelect_spec hs) hQ (by simpa using hit) (fun _ _ _ => trivial) (fun _ _ _ _ _ _ _ _ h => h) (fun _ _ h => h) fuel listed a w (Region.free_spec hi hf) (by simpa using hr)
    (hy.imp (fun ⟨h1, h2⟩ => ⟨h1, .inl fun w _ => h2 w⟩) id) hS h
theorem wpAnyT_held {f i t : Nat} {oi : Oper} {v : Value} {fuel : Nat} {listed : Array Bool} {a : Act} {w : World} (hp : (t, S) ∈ LS) (hi : ops[i]? = some oi)
    (hs : Region.noSelect ops = true) (hit : (LS.map Prod.fst).contains i = false) (hl : Region.befB md ops f t i = true) (hcl : Region.closedB md ops listed = true) (hf : Region.free md ops listed i = true) (hr : (Region.ready md ops listed).contains i = true) (ht : listed.getD t true = false)
    (hQ : ∀ c a w, Q (.panic c) (a.put oi.dst v) w → Q (.panic c) a w) (hy : QuietIf P ops S oi v a) (hS : Holds LS listed w)
    (h : wpAnyT P md ops Q LS fuel (listed.setIfInBounds i true) (a.put oi.dst v) w) : wpAnyT P md ops Q LS (fuel + 1) listed a w :=
  wpAnyT_core (C := S) (G := fun l w => Region.Closed md ops l ∧ l.getD t true = false ∧ Holds LS l w) hi (Region.noSelect_spec hs) hQ (by simpa using hit) (fun _ _ h => h.2.2 _ hp h.2.1) (fun l w w' j hr hj hji hG hS' => by
      have hun := (mem_ready.1 hr).1
      have hjt : j ≠ t := by
        rintro rfl
        obtain ⟨_, oj, hoj, hall⟩ := mem_ready.1 hj
        have := Region.bef_listed hG.1 f j oj hoj hall hl
        rw [getD_un hun] at this
        cases this
      exact ⟨hG.1.set hj, by rw [getD_set_ne true hjt]; exact hG.2.1, hS'⟩) (fun _ _ h => h.2.2) fuel listed a w (Region.free_spec hi hf) (by simpa using hr) hy ⟨Region.closed_of hcl, ht, hS⟩ h
/-- Number i yields v, by itself, as long as S holds, and is taken first. -/
theorem wpAnyT_take (f t : Nat) {i : Nat} {oi : Oper} {v : Value} {fuel : Nat} {listed : Array Bool} {a : Act} {w : World} (hp : (t, S) ∈ LS) (hi : ops[i]? = some oi)
    (hs : Region.noSelect ops = true) (hit : (LS.map Prod.fst).contains i = false) (hl : Region.befB md ops f t i = true) (hcl : Region.closedB md ops listed = true) (hf : Region.free md ops listed i = true) (hr : (Region.ready md ops listed).contains i = true) (ht : listed.getD t true = false)
    (hQ : ∀ c a w, Q (.panic c) (a.put oi.dst v) w → Q (.panic c) a w) (hw : Region.wanted oi (yielded ops a.tmps) = true) (hy : ∀ w, S w → (execOp a.eval oi).run P w = .ok (.value v) w) (hS : Holds LS listed w)
    (h : wpAnyT P md ops Q LS fuel (listed.setIfInBounds i true) (a.put oi.dst v) w) : wpAnyT P md ops Q LS (fuel + 1) listed a w :=
  wpAnyT_held hp hi hs hit hl hcl hf hr ht hQ (.inl ⟨hw, .inl hy⟩) hS h
/-- Number i is a call that leaves the world alone as long as S holds, and is taken first. -/
theorem wpAnyT_call (f t : Nat) {i : Nat} {oi : Oper} {v : Value} {g : FuncId} {args : Array Value} {fuel : Nat} {listed : Array Bool} {a : Act} {w : World} (hp : (t, S) ∈ LS) (hi : ops[i]? = some oi)
    (hs : Region.noSelect ops = true) (hit : (LS.map Prod.fst).contains i = false) (hl : Region.befB md ops f t i = true) (hcl : Region.closedB md ops listed = true) (hf : Region.free md ops listed i = true) (hr : (Region.ready md ops listed).contains i = true) (ht : listed.getD t true = false)
    (hQ : ∀ c a w, Q (.panic c) (a.put oi.dst v) w → Q (.panic c) a w) (hw : Region.wanted oi (yielded ops a.tmps) = true) (he : ∀ w, S w → (execOp a.eval oi).run P w = .ok (.enter g args) w)
    (hc : ∀ w, S w → Calls P g args w fun e w' => e = .returned v ∧ w = w') (hS : Holds LS listed w)
    (h : wpAnyT P md ops Q LS fuel (listed.setIfInBounds i true) (a.put oi.dst v) w) : wpAnyT P md ops Q LS (fuel + 1) listed a w :=
  wpAnyT_held hp hi hs hit hl hcl hf hr ht hQ (.inl ⟨hw, .inr ⟨g, args, he, hc⟩⟩) hS h
theorem late_no {b : Bool} (h : b = true) {p : Prop} : b = false → p := fun e => by rw [h] at e; cases e
/-- Those that may come up. -/
def AllT (P : Program) (md : Region.Mode) (ops : Array Oper) (Q : Exit → Act → World → Prop) (LS : List (Nat × (World → Prop))) (fuel : Nat) (listed : Array Bool) (a : Act) (w : World) (rs : List Nat) : Prop :=
  ∀ i ∈ rs, wpOp P ops Q i (fun a' w' => Holds LS (listed.setIfInBounds i true) w' ∧ wpAnyT P md ops Q LS fuel (listed.setIfInBounds i true) a' w') a w
theorem AllT.nil {fuel : Nat} {listed : Array Bool} {a : Act} {w : World} : AllT P md ops Q LS fuel listed a w [] := fun _ h => by cases h
theorem AllT.cons {fuel : Nat} {listed : Array Bool} {a : Act} {w : World} {i : Nat} {o : Oper} {rs : List Nat} (ho : ops[i]? = some o)
    (h : ∀ K' : Act → World → Prop, Shut (∀ a w, Holds LS (listed.setIfInBounds i true) w → wpAnyT P md ops Q LS fuel (listed.setIfInBounds i true) a w → K' a w) → if Region.wanted o (yielded ops a.tmps) = true then Oper.wp P o a w K' Q else K' (a.put o.dst undef) w)
    (hs : AllT P md ops Q LS fuel listed a w rs) : AllT P md ops Q LS fuel listed a w (i :: rs) := fun j hj => by
  rcases List.mem_cons.1 hj with rfl | hj
  · exact wpOp_step ho (fun K' hK => h K' (fun a w hS hW => hK a w ⟨hS, hW⟩))
  · exact hs j hj
theorem wpAnyT_ready {rs : List Nat} {fuel : Nat} {listed : Array Bool} {a : Act} {w : World} (hr : Region.ready md ops listed = rs) (hne : rs ≠ [])
    (h : AllT P md ops Q LS fuel listed a w rs) : wpAnyT P md ops Q LS (fuel + 1) listed a w :=
  ⟨fun h0 => absurd (hr ▸ h0) hne, hr ▸ h⟩
theorem wpAnyT_done {listed : Array Bool} {a : Act} {w : World} (hr : Region.ready md ops listed = []) (h : Q .normal a w) :
    ∀ fuel, wpAnyT P md ops Q LS fuel listed a w
  | 0 => ⟨hr, h⟩
  | _ + 1 => ⟨fun _ => h, by rw [hr]; simp⟩
theorem wp_region_late {id : Nat} {a : Act} {w : World} (LS : List (Nat × (World → Prop))) (hm : P.follows .mixedOrders = true)
    (h : wpAnyT P .any ops Q LS ops.size (Array.replicate ops.size false) a w.drew) : (Code.region id ops true).wp P Q a w :=
  wp_region_any hm (wpAny_of_late _ _ _ _ h)
end
end Go.Proofs.Ytjhnipnocjoelaa
