/- One that has two votes: what Take makes of the answers. No condition of the program's own. -/
import Derived.Test.YtjhnipnocjoelaaSa15
import Derived.Test.YtjhnipnocjoelaaNu
namespace Go.Proofs.Ytjhnipnocjoelaa
open Go.RowKit Go.Deep
theorem wpList_load_at_g {P : Program} {ops : Array Oper} {rest : List Oper} {o : Oper} {a : Act} {Q : Exit → Act → World → Prop} {w : World} (hwn : Region.wanted o (yielded ops a.tmps) = true) (ty : TypeId) (x : Operand) (ho : o.op = .load ty x) (p v : Value) (hr : (Instr.loadAt ty p).run P w = .ok v w) (hx : a.eval x = p) (h : wpList P ops Q rest (a.put o.dst v) w) : wpList P ops Q (o :: rest) a w := by
  unfold wpList
  rw [if_pos hwn]
  refine .inl ?_
  unfold Oper.wp execOp
  simp only [ho, hx, Sem.run_bind, hr, Result.andThen_ok, Sem.run_pure]
  exact h
def waitI (i k : Nat) : Nd := { newN i with wait := k }
/-- A candidate of term 1. -/
def cand (i : Nat) : Nd := (waitI i (4 + 3 * i)).camped i
def ansV (i f : Nat) (t : Int) (y : Bool) : Mg := ⟨2, f, i, t, 0, 0, 0, y, .slice none 0 0, { data := #[] }⟩
/-- One that leads in term 1. -/
def ledN (i f : Nat) : Nd := ((cand i).vset f).led i
theorem cand_is : ∀ i : Nat, i < 3 → (cand i).id = i ∧ (cand i).term = 1 ∧ (cand i).role = 1 ∧ (cand i).log = [] ∧ (cand i).base = 0
  | 0, _ => ⟨rfl, rfl, rfl, rfl, rfl⟩
  | 1, _ => ⟨rfl, rfl, rfl, rfl, rfl⟩
  | 2, _ => ⟨rfl, rfl, rfl, rfl, rfl⟩
theorem cand_maj : ∀ i f : Nat, i < 3 → f < 3 → i ≠ f → ((cand i).vset f).maj = true
  | 0, 1, _, _, _ => rfl
  | 0, 2, _, _, _ => rfl
  | 1, 0, _, _, _ => rfl
  | 1, 2, _, _, _ => rfl
  | 2, 0, _, _, _ => rfl
  | 2, 1, _, _, _ => rfl
  | 0, 0, _, _, h => absurd rfl h
  | 1, 1, _, _, h => absurd rfl h
  | 2, 2, _, _, h => absurd rfl h
theorem led_is : ∀ i f : Nat, i < 3 → f < 3 → (ledN i f).id = i ∧ (ledN i f).term = 1 ∧ (ledN i f).role = 2 ∧ (ledN i f).log = [(1, { data := #[] })] ∧ (ledN i f).base = 0 ∧ (ledN i f).li = 1
  | 0, 0, _, _ => ⟨rfl, rfl, rfl, rfl, rfl, rfl⟩
  | 0, 1, _, _ => ⟨rfl, rfl, rfl, rfl, rfl, rfl⟩
  | 0, 2, _, _ => ⟨rfl, rfl, rfl, rfl, rfl, rfl⟩
  | 1, 0, _, _ => ⟨rfl, rfl, rfl, rfl, rfl, rfl⟩
  | 1, 1, _, _ => ⟨rfl, rfl, rfl, rfl, rfl, rfl⟩
  | 1, 2, _, _ => ⟨rfl, rfl, rfl, rfl, rfl, rfl⟩
  | 2, 0, _, _ => ⟨rfl, rfl, rfl, rfl, rfl, rfl⟩
  | 2, 1, _, _ => ⟨rfl, rfl, rfl, rfl, rfl, rfl⟩
  | 2, 2, _, _ => ⟨rfl, rfl, rfl, rfl, rfl, rfl⟩
theorem led_cnt : ∀ i f j : Nat, i < 3 → f < 3 → j < 3 → (ledN i f).cnt j = 1
  | 0, 0, 0, _, _, _ => rfl
  | 0, 0, 1, _, _, _ => rfl
  | 0, 0, 2, _, _, _ => rfl
  | 0, 1, 0, _, _, _ => rfl
  | 0, 1, 1, _, _, _ => rfl
  | 0, 1, 2, _, _, _ => rfl
  | 0, 2, 0, _, _, _ => rfl
  | 0, 2, 1, _, _, _ => rfl
  | 0, 2, 2, _, _, _ => rfl
  | 1, 0, 0, _, _, _ => rfl
  | 1, 0, 1, _, _, _ => rfl
  | 1, 0, 2, _, _, _ => rfl
  | 1, 1, 0, _, _, _ => rfl
  | 1, 1, 1, _, _, _ => rfl
  | 1, 1, 2, _, _, _ => rfl
  | 1, 2, 0, _, _, _ => rfl
  | 1, 2, 1, _, _, _ => rfl
  | 1, 2, 2, _, _, _ => rfl
  | 2, 0, 0, _, _, _ => rfl
  | 2, 0, 1, _, _, _ => rfl
  | 2, 0, 2, _, _, _ => rfl
  | 2, 1, 0, _, _, _ => rfl
  | 2, 1, 1, _, _, _ => rfl
  | 2, 1, 2, _, _, _ => rfl
  | 2, 2, 0, _, _, _ => rfl
  | 2, 2, 1, _, _, _ => rfl
  | 2, 2, 2, _, _, _ => rfl
/-- What is sent to the two others, in order. -/
theorem msgs_rest {R : Nat → Mg → Prop} {l : List Mg} (i : Nat) (hi : i < 3) (h : Msgs R i 3 l) : ∃ m1 m2 j, l = [m1, m2] ∧ j < 3 ∧ R j m1 := by
  have hc : i = 0 ∨ i = 1 ∨ i = 2 := by omega
  rcases hc with hc | hc | hc
  · subst hc
    obtain ⟨l2, m2, rfl, h2, r2⟩ := Msgs.last (k := 2) h (by decide)
    obtain ⟨l1, m1, rfl, h1, r1⟩ := Msgs.last (k := 1) h2 (by decide)
    have h0 : l1 = [] := Msgs.skip (k := 0) h1 (by decide)
    subst h0
    exact ⟨m1, m2, 1, rfl, by decide, r1⟩
  · subst hc
    obtain ⟨l2, m2, rfl, h2, r2⟩ := Msgs.last (k := 2) h (by decide)
    have h2' := Msgs.skip (k := 1) h2 (by decide)
    obtain ⟨l1, m1, rfl, h1, r1⟩ := Msgs.last (k := 0) h2' (by decide)
    have h0 : l1 = [] := h1
    subst h0
    exact ⟨m1, m2, 0, rfl, by decide, r1⟩
  · subst hc
    have h3 := Msgs.skip (k := 2) h (by decide)
    obtain ⟨l2, m2, rfl, h2, r2⟩ := Msgs.last (k := 1) h3 (by decide)
    obtain ⟨l1, m1, rfl, h1, r1⟩ := Msgs.last (k := 0) h2 (by decide)
    have h0 : l1 = [] := h1
    subst h0
    exact ⟨m1, m2, 0, rfl, by decide, r1⟩
theorem owes_is {n : Nd} {j : Nat} {m : Mg} (h : n.owes j m) (hc : n.cnt j = 1) : m.kind = 3 ∧ ∃ A c, m.ent = .slice A 1 c := by
  obtain ⟨A, c, rfl⟩ := h
  rw [hc]
  exact ⟨rfl, A, c, rfl⟩
theorem led_sent (i f : Nat) (hi : i < 3) (hf : f < 3) {l : List Mg} (h : Msgs (ledN i f).owes i 3 l) : ∃ m1 m2 A c, l = [m1, m2] ∧ m1.kind = 3 ∧ m1.ent = .slice A 1 c := by
  obtain ⟨m1, m2, j, e, hj, r⟩ := msgs_rest i hi h
  obtain ⟨a, A, c, b⟩ := owes_is r (led_cnt i f j hi hf hj)
  exact ⟨m1, m2, A, c, e, a, b⟩
theorem ansV_fit (i f : Nat) (t : Int) (y : Bool) (hi : i < 3) (hf : f < 3) (h : i ≠ f) (ht : t = 0 ∨ t = 1) : (ansV i f t y).fit (cand i) i := by
  have e := (cand_is i hi).1
  refine ⟨e, hi, ?_, ?_, ?_, ?_, ?_, ⟨none, 0, 0, rfl⟩⟩
  · show (0 : Int) ≤ (f : Int) ∧ (f : Int) ≤ 2; omega
  · rw [e]; show (f : Int) ≠ (i : Int); omega
  · rw [e]; rfl
  · show (1 : Int) ≤ 2 ∧ (2 : Int) ≤ 5; decide
  · show (0 : Int) ≤ t ∧ t ≤ 1073741824; omega
theorem cand_seen (i f : Nat) (t : Int) (y : Bool) (hi : i < 3) (ht : t = 0 ∨ t = 1) : (cand i).seen (ansV i f t y) = cand i := by
  unfold Nd.seen
  rw [if_neg]
  rw [(cand_is i hi).2.1]
  show ¬ (1 : Int) < t
  omega
theorem cand_ok (i : Nat) (hi : i < 3) : (cand i).ok := by
  obtain ⟨_, _, _, h, hb⟩ := cand_is i hi
  exact ⟨by rw [hb]; decide, by rw [h]; decide⟩
theorem take_no (i f : Nat) (A : Option Addr) (c : Nat) (w : World) (hi : i < 3) (hf : f < 3) (h : i ≠ f) (hA : Has w w.heap.size A (es (cand i).log)) :
    Calls Try.prog 14 #[(cand i).val (.slice A (cand i).log.length c), (ansV i f 1 false).val] w (GotN w (cand i) (fun S => S = [])) :=
  take_two (cand i) (cand i) A c i (ansV i f 1 false) w _ (ansV_fit i f 1 false hi hf h (.inr rfl)) rfl (cand_ok i hi) hA (fun w P g hD => by
    rw [cand_seen i f 1 false hi (.inr rfl)] at hD
    exact (voted_no w P g (cand i) [] _ (cand_is i hi).2.1.symm (cand_is i hi).2.2.1 rfl hD).mono fun _ _ ⟨h1, h2, h3⟩ => ⟨h1, [], rfl, h2, h3⟩)
theorem take_old (i f : Nat) (A : Option Addr) (c : Nat) (w : World) (hi : i < 3) (hf : f < 3) (h : i ≠ f) (hA : Has w w.heap.size A (es (cand i).log)) :
    Calls Try.prog 14 #[(cand i).val (.slice A (cand i).log.length c), (ansV i f 0 true).val] w (GotN w (cand i) (fun S => S = [])) :=
  take_two (cand i) (cand i) A c i (ansV i f 0 true) w _ (ansV_fit i f 0 true hi hf h (.inl rfl)) rfl (cand_ok i hi) hA (fun w P g hD => by
    rw [cand_seen i f 0 true hi (.inl rfl)] at hD
    exact (voted_old w P g (cand i) [] _ (by rw [(cand_is i hi).2.1]; show (0 : Int) ≠ 1; decide) hD).mono fun _ _ ⟨h1, h2, h3⟩ => ⟨h1, [], rfl, h2, h3⟩)
theorem take_won (i f : Nat) (A : Option Addr) (c : Nat) (w : World) (hi : i < 3) (hf : f < 3) (h : i ≠ f) (hA : Has w w.heap.size A (es (cand i).log)) :
    Calls Try.prog 14 #[(cand i).val (.slice A (cand i).log.length c), (ansV i f 1 true).val] w (GotN w (ledN i f) (Msgs (ledN i f).owes i 3)) :=
  take_two (cand i) (ledN i f) A c i (ansV i f 1 true) w _ (ansV_fit i f 1 true hi hf h (.inr rfl)) rfl (cand_ok i hi) hA (fun w P g hD => by
    rw [cand_seen i f 1 true hi (.inr rfl)] at hD
    obtain ⟨e1, e2, e3, e4, e5⟩ := cand_is i hi
    exact (voted_won w P g (cand i) [] _ i f e1 hi rfl hf e2.symm e3 rfl (cand_maj i f hi hf h) hD (cand_ok i hi) (by rw [e4]; decide) (by decide) (by unfold Nd.li; rw [e4, e5]; decide)).mono fun _ _ ⟨h1, l, h2, h3, h4⟩ => ⟨h1, l, by rw [← e1]; exact h2, by rw [List.nil_append] at h3; exact h3, h4⟩)
end Go.Proofs.Ytjhnipnocjoelaa
