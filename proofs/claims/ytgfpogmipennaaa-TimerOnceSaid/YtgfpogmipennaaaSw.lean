/- Timers.Set, Next. No condition of the program's own. -/
import Derived.Test.YtgfpogmipennaaaSt
namespace Go.Proofs.Ytgfpogmipennaaa
open Go.RowKit Go.Deep
/-- One item's time set anew. -/
theorem QW.setAt {w : World} {B i g c : Nat} {mv : Value} {l : List It} {F : Nat → Prop} (h : QW w B (.slice (some ⟨g, 0, none⟩) l.length c) mv l) (hF : ∀ k, fpQ B (.slice (some ⟨g, 0, none⟩) l.length c) mv k → F k) (hi : i < l.length) (at_ : Int) :
    QS (w.setCell ⟨g, i * 2 + 1, none⟩ (.int .i64 at_)) B (l.set i ((itm l i).1, at_)) F ∧ OnlyF F w (w.setCell ⟨g, i * 2 + 1, none⟩ (.int .i64 at_)) := by
  obtain ⟨g', c', cur, hv, hgB, hgl, hg, hc1, hc2, hcs, hct⟩ := h.form (by omega)
  injection hv with e1 _ e3
  injection e1 with e1
  injection e1 with e1
  subst e1; subst e3
  obtain ⟨b, m, rfl, hm, hI, hbB⟩ := h.mapped (by omega)
  have hbg : b ≠ g := by
    obtain ⟨es, ck, hm⟩ := hm
    exact QW.apart_map (l := l) hg hm (Nat.zero_le _)
  have ll : (l.set i ((itm l i).1, at_)).length = l.length := List.length_set
  refine ⟨⟨.slice (some ⟨g, 0, none⟩) l.length c, .map (some b), ⟨(heap_other _ (Ne.symm hgB) _ _).trans h.blk, ?_, h.ne, .inr ⟨b, m, rfl, hm.of_heap (heap_other _ hbg _ _), hI.set hi at_⟩⟩, hF⟩, OnlyF.of (cell_only (only_refl _ _) _ _) (fun k e => by cases e; exact hF g (.inr (.inl rfl)))⟩
  rw [ll]
  refine ⟨by rw [pc_len, ll], .inr ⟨g, c, _, rfl, Nat.zero_le _, heap_set1 hg _ _, hc1, hc2, by simpa using hcs, ?_⟩⟩
  rw [pc_set l i _ hi, Array.toList_setIfInBounds, List.take_set, hct]
  congr 1
  apply List.ext_getElem?
  intro j
  rw [List.getElem?_set]
  split
  · rename_i e
    subst e
    have := (pc_at l i _ (itm_get hi)).1
    rw [Nat.mul_comm] at this
    rw [this, if_pos (List.getElem?_eq_some_iff.1 this).1]
  · rfl
def setS (id at_ : Int) (S : List It) : List It := ins (id, at_) (del id S)
theorem setS_srt (id at_ : Int) {S : List It} (h : Srt S) : Srt (setS id at_ S) := ins_srt _ _ (del_srt id h) (fun _ hy => (mem_del.1 hy).2)
/-- What Set answers, and what is set then. -/
def setR (id : Int) (S : List It) : Int := if id < 0 then 1 else if isIn id S = true ∨ S.length < 100 then 0 else 4
def setT (id at_ : Int) (S : List It) : List It := if setR id S = 0 then setS id at_ S else S
set_option maxRecDepth 100000 in
set_option maxHeartbeats 1000000 in
theorem tset (B : Nat) (id at_ : Int) (S : List It) (F : Nat → Prop) (w : World) (h : TS w B S F) (hl : S.length ≤ 1099511627770) (hN : ∀ k, w.heap.size ≤ k → F k) :
    Calls Try.prog 14 #[.pointer (some ⟨B, 0, none⟩), .int .i64 id, .int .i64 at_] w fun e w' => e = .returned (.int .i64 (setR id S)) ∧ TS w' B (setT id at_ S) F ∧ OnlyF F w w' := by
  by_cases h0 : id < 0
  · have hr : setR id S = 1 := by unfold setR; rw [if_pos h0]
    have ht : setT id at_ S = S := by unfold setT; rw [if_neg (by rw [hr]; decide)]
    rw [hr, ht]
    clear hr ht
    go_enter Try.func14, Try.ntmps14
    go_wp2_with fail
    go_ret
    exact ⟨rfl, h, OnlyF.refl _ _⟩
  · have T0 := h
    obtain ⟨l, q, hp, p, hS⟩ := h
    have qn := q.nodup
    have QQ := Lib.hid q
    obtain ⟨v, mv, h, hF⟩ := q
    have hlen := p.length_eq
    have c1 := h.cells.2
    rcases h.look id with ⟨h1, h2⟩ | ⟨i, hi, hid, h2⟩
    · have hin : isIn id S = false := by rw [isIn_perm p]; exact h1
      have TT := Lib.hid T0
      have HP := Lib.hid p
      have HH := Lib.hid hlen
      clear hF h T0 hlen
      by_cases hm : S.length < 100
      · have hr : setR id S = 0 := by unfold setR; rw [if_neg h0, if_pos (.inr hm)]
        have ht : setT id at_ S = ins (id, at_) S := by unfold setT setS; rw [if_pos hr, del_none hin]
        have t1 : decide ((100 : Int) ≤ (S.length : Int)) = false := by rw [decide_eq_false_iff_not]; omega
        have FIN : Hid (∀ l' : List It, l'.Perm (l ++ [(id, at_)]) → l'.Perm (ins (id, at_) S) ∧ Srt (ins (id, at_) S)) := Lib.hid (fun l' pl => by
          refine ⟨pl.trans (((List.perm_append_comm (l₁ := l) (l₂ := [(id, at_)])).trans (List.Perm.cons _ HP.out)).trans (ins_perm _ S).symm), ins_srt _ _ hS (fun y hy => isIn_false.1 hin y hy)⟩)
        rw [hr, ht]
        clear hr ht hm p
        go_enter Try.func14, Try.ntmps14
        go_wp2_with fail
        refine (tlen B S F w TT.out).mono ?_
        rintro e w1 ⟨rfl, rfl⟩
        go_wp2_with fail
        refine (heap_push B l (id, at_) F w QQ.out hp (fun y hy => isIn_false.1 h1 y hy) (by rw [HH.out]; exact hl) hN).mono ?_
        rintro e w2 ⟨rfl, l', H, pl⟩
        go_wp2_with fail
        go_ret
        exact ⟨rfl, ⟨l', H.q, H.hp, FIN.out l' pl⟩, H.only⟩
      · have hr : setR id S = 4 := by unfold setR; rw [if_neg h0, if_neg (by rw [hin]; rintro (e | e); cases e; exact hm e)]
        have ht : setT id at_ S = S := by unfold setT; rw [if_neg (by rw [hr]; decide)]
        have t1 : decide ((100 : Int) ≤ (S.length : Int)) = true := by rw [decide_eq_true_iff]; omega
        rw [hr, ht]
        clear hr ht hm p
        go_enter Try.func14, Try.ntmps14
        go_wp2_with fail
        refine (tlen B S F w TT.out).mono ?_
        rintro e w1 ⟨rfl, rfl⟩
        go_wp2_with fail
        go_ret
        exact ⟨rfl, TT.out, OnlyF.refl _ _⟩
    · have hin : isIn id S = true := by rw [isIn_perm p]; exact isIn_iff.2 ⟨_, List.mem_of_getElem? (itm_get hi), hid⟩
      have hr : setR id S = 0 := by unfold setR; rw [if_neg h0, if_pos (.inl hin)]
      have ht : setT id at_ S = setS id at_ S := by unfold setT; rw [if_pos hr]
      obtain ⟨g, c, cur, rfl, hgB, hgl, hg, hc1, hc2, hcs, hct⟩ := h.form (by omega)
      have c0 := h.cells.1
      have u0 : (0 : Int) ≤ (i : Int) := by omega
      have u1 : (i : Int) < (l.length : Int) := by omega
      have it := (QW.item hg hct hi).2
      have fz : w.frozen? ⟨g, i * 2 + 1, none⟩ = false := thaw_of_heap hg _
      obtain ⟨q2, o2⟩ := h.setAt hF hi at_
      have hx : Hid (HX (l.set i ((itm l i).1, at_)).length (itm (l.set i ((itm l i).1, at_))) i) := Lib.hid (by
        rw [List.length_set]
        refine hp.hx (fun k hk h0 => ?_) hi
        unfold itm List.getD
        rw [List.getElem?_set, if_neg (Ne.symm h0)])
      obtain ⟨W, hW⟩ : ∃ W, w.setCell ⟨g, i * 2 + 1, none⟩ (.int .i64 at_) = W := ⟨_, rfl⟩
      rw [hW] at q2 o2
      have FIN : Hid (∀ l' : List It, l'.Perm (l.set i ((itm l i).1, at_)) → l'.Perm (setS id at_ S) ∧ Srt (setS id at_ S)) := Lib.hid (fun l' pl => by
        refine ⟨?_, setS_srt id at_ hS⟩
        obtain ⟨s1, s2⟩ := set_perm hi ((itm l i).1, at_)
        have d1 := del_perm s2 qn
        rw [hid] at d1
        have d2 : (del id S).Perm (l.take i ++ l.drop (i + 1)) := (List.Perm.filter _ p.symm).trans d1
        rw [hid] at s1
        rw [hid] at pl
        exact pl.trans (s1.trans ((List.Perm.cons _ d2.symm).trans (ins_perm _ _).symm)))
      have Q2 := Lib.hid q2
      have O2 := Lib.hid o2
      have L2 : Hid ((l.set i ((itm l i).1, at_)).length ≤ 1099511627770 ∧ i < (l.set i ((itm l i).1, at_)).length) := Lib.hid (by rw [List.length_set]; exact ⟨by omega, hi⟩)
      rw [hr, ht]
      clear hr ht hF h T0 hlen q2 o2 p hin hid hp
      go_enter Try.func14, Try.ntmps14
      go_wp2_with fail
      refine (heap_fix B i _ F W Q2.out hx.out L2.out.2 L2.out.1).mono ?_
      rintro e w2 ⟨rfl, l', H, pl⟩
      go_wp2_with fail
      go_ret
      exact ⟨rfl, ⟨l', H.q, H.hp, FIN.out l' pl⟩, O2.out.trans H.only⟩
theorem fld0 (a b : Value) (w : World) : (Instr.field 56 (.agg #[a, b]) 0).run Try.prog w = .ok a w := by kernel_rfl
theorem fld1 (a b : Value) (w : World) : (Instr.field 56 (.agg #[a, b]) 1).run Try.prog w = .ok b w := by kernel_rfl
theorem tnext (B : Nat) (S : List It) (F : Nat → Prop) (w : World) (h : TS w B S F) :
    Calls Try.prog 21 #[.pointer (some ⟨B, 0, none⟩)] w fun e w' => e = .returned (.tuple #[.int .i64 ((S.head?.map (·.2)).getD 0), .bool (!S.isEmpty)]) ∧ w.grownBy w' none := by
  have T0 := h
  obtain ⟨l, q, hp, p, hS⟩ := h
  have hlen := p.length_eq
  by_cases h0 : 0 < l.length
  · have f1 := fld1
    obtain ⟨r, hr⟩ := heap_first hp p hS h0
    have t1 : ((S.length : Int) == 0) = false := by rw [beq_eq_false_iff_ne]; omega
    have e1 : (S.head?.map (·.2)).getD 0 = (itm l 0).2 := by rw [hr]; rfl
    have e2 : (!S.isEmpty) = true := by rw [hr]; rfl
    rw [e1, e2]
    have TT := Lib.hid T0
    clear hr T0 e1 e2 p hp hlen
    go_enter Try.func21, Try.ntmps21
    go_wp2_with fail
    refine (tlen B S F w TT.out).mono ?_
    rintro e w1 ⟨rfl, rfl⟩
    go_wp2_with fail
    refine (firstq B l F w q h0).mono ?_
    rintro e w1 ⟨rfl, g1⟩
    go_wp2_with fail
    go_ret2
    exact ⟨rfl, g1⟩
  · have hS0 : S = [] := List.eq_nil_of_length_eq_zero (by omega)
    subst hS0
    have TT := Lib.hid T0
    have t1 : (((([] : List It).length : Nat) : Int) == 0) = true := rfl
    clear T0 p hp hlen
    go_enter Try.func21, Try.ntmps21
    go_wp2_with fail
    refine (tlen B [] F w TT.out).mono ?_
    rintro e w1 ⟨rfl, rfl⟩
    go_wp2_with fail
    go_ret2
    exact ⟨rfl, only_refl _ _⟩
end Go.Proofs.Ytgfpogmipennaaa
