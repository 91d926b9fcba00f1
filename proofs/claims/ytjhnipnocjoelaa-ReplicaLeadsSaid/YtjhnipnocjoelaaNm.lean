/- (*draft).vote. Conditions: numbers below 2^40. -/
import Derived.Test.YtjhnipnocjoelaaNl
namespace Go.Proofs.Ytjhnipnocjoelaa
open Go.RowKit Go.Deep
def Nd.cur (n : Nd) (m : Mg) : Bool := decide (n.lt < m.lt) || (m.lt == n.lt && decide (n.li ≤ m.index))
def Nd.given (n : Nd) (m : Mg) : Bool := (m.term == n.term && (n.vote == -1 || n.vote == m.fr)) && n.cur m
def Nd.voted (n : Nd) (m : Mg) : Nd := if n.given m = true then { n with vote := m.fr, wait := 0 } else n
def Nd.ansM (n : Nd) (m : Mg) : Mg := { zeroM with kind := 2, fr := n.id, dst := m.fr, term := n.term, yes := n.given m }
set_option maxRecDepth 100000 in
set_option maxHeartbeats 8000000 in
theorem vote_any (w : World) (P : Nat → Prop) (g : Nat) (n : Nd) (S : List Mg) (m : Mg) (hD : Dr w P g n S) (hn : n.ok) (hS : S.length ≤ 1048570) :
    Calls Try.prog 37 #[.pointer (some ⟨g, 0, none⟩), m.val] w fun e w' => e = .returned (.tuple #[]) ∧ Dr w' P g (n.voted m) (S ++ [n.ansM m]) ∧ Kept P w w' := by
  obtain ⟨L, M, hD⟩ := hD
  obtain ⟨A, c, rfl⟩ := own_slice_w hD.log
  obtain ⟨w1, hw1⟩ : ∃ w1, w.alloc (.cells m.arr 25) = w1 := ⟨_, rfl⟩
  have g1 : w.grownBy w1 none := by subst hw1; exact World.grownBy_alloc w _ none
  have z1 : w.heap.size < w1.heap.size := by subst hw1; simp
  have mb1 : MB w1 w.heap.size m := by subst hw1; exact ⟨heap_alloc_new w _⟩
  obtain ⟨P', hP'⟩ : ∃ P' : Nat → Prop, P' = fun k => P k ∨ k = w.heap.size := ⟨_, rfl⟩
  have D1 := hD.add g1 w.heap.size (Nat.le_refl _) z1
  rw [← hP'] at D1
  have HK1 := Lib.hid (hD.kept g1)
  have PP := Lib.hid (show ∀ j, P j → P' j from fun j hj => by rw [hP']; exact .inl hj)
  have PB := Lib.hid (show P' w.heap.size by rw [hP']; exact .inr rfl)
  obtain ⟨mb, hmb⟩ : ∃ mb, w.heap.size = mb := ⟨_, rfl⟩
  rw [hmb] at mb1 PB
  have HN := Lib.hid hn
  have HS := Lib.hid hS
  have LC := last_any n A c w1 (Has.own_w D1.log) (by have := hn.len; omega) hn.base
  have LD := D1.node
  simp only [Nd.val] at LC LD
  have LCH := Lib.hid LC
  have LDH := Lib.hid LD
  clear hD g1 z1 hP' hn hS LC LD
  unfold Mg.arr at hw1
  unfold Mg.val
  obtain ⟨li, hli⟩ : ∃ x, n.li = x := ⟨_, rfl⟩
  obtain ⟨lt, hlt⟩ : ∃ x, n.lt = x := ⟨_, rfl⟩
  rw [hli, hlt] at LCH
  obtain ⟨cu, hcu⟩ : ∃ x, n.cur m = x := ⟨_, rfl⟩
  obtain ⟨gv, hgv⟩ : ∃ x, n.given m = x := ⟨_, rfl⟩
  have hcu2 : cu = (decide (lt < m.lt) || (m.lt == lt && decide (li ≤ m.index))) := by rw [← hcu, ← hli, ← hlt]; rfl
  have hgv2 : gv = ((m.term == n.term && (n.vote == -1 || n.vote == m.fr)) && cu) := by rw [← hgv, ← hcu]; rfl
  have HCU := Lib.hid hcu2
  have HGV := Lib.hid hgv2
  have HG := Lib.hid hgv
  clear hli hlt hcu hgv hcu2 hgv2
  go_enter Try.func37, Try.ntmps37
  go_upto_region 1 with fail
  clear hw1
  try rw [hmb]
  clear hmb
  go_wp2_with (refine wpList_load_at rfl 37 (Operand.tmp 11) rfl _ _ LDH.out rfl ?_)
  refine LCH.out.mono ?_
  rintro _ w2 ⟨rfl, g2⟩
  have D2 := D1.grow g2
  have mb2 := mb1.grow g2
  have HK2 := Lib.hid (D1.kept g2)
  clear D1 mb1 LDH LCH g2
  go_upto_region 2 with fail
  obtain ⟨m0, m1, m2, m3, m4, m5, m6, m7, m8, m9⟩ := mb2.all
  obtain ⟨c0, c1, c2, _⟩ := D2.all
  go_cut [6] (fun s6 wx => s6 = .bool cu ∧ wx = w2)
  case first =>
    by_cases h1 : lt < m.lt
    · have e : cu = true := by rw [HCU.out, decide_eq_true h1]; rfl
      subst e
      go_wp2_with fail
      go_meet
      exact ⟨rfl, rfl⟩
    · by_cases h2 : m.lt = lt
      · have b2 : (m.lt == lt) = true := by rw [beq_iff_eq]; exact h2
        by_cases h3 : li ≤ m.index
        · have e : cu = true := by rw [HCU.out, decide_eq_false h1, b2, decide_eq_true h3]; rfl
          subst e
          clear h2
          go_wp2_with fail
          go_meet
          exact ⟨rfl, rfl⟩
        · have e : cu = false := by rw [HCU.out, decide_eq_false h1, b2, decide_eq_false h3]; rfl
          subst e
          clear h2
          go_wp2_with fail
          go_meet
          exact ⟨rfl, rfl⟩
      · have b2 : (m.lt == lt) = false := by rw [beq_eq_false_iff_ne]; exact h2
        have e : cu = false := by rw [HCU.out, decide_eq_false h1, b2]; rfl
        subst e
        clear h2
        go_wp2_with fail
        go_meet
        exact ⟨rfl, rfl⟩
  case rest =>
    obtain ⟨rfl, rfl⟩ := hcut
    obtain ⟨w3, rfl⟩ : ∃ x : World, x = wc := ⟨_, rfl⟩
    go_upto_region 3 with fail
    go_cut [7] (fun s7 wx => s7 = .bool gv ∧ ∃ q, wx = w3.drewN q)
    case first =>
      cases cu with
      | true =>
        by_cases h1 : m.term = n.term
        · have b1 : (m.term == n.term) = true := by rw [beq_iff_eq]; exact h1
          by_cases h2 : n.vote = -1
          · have b2 : (n.vote == -1) = true := by rw [beq_iff_eq]; exact h2
            have e : gv = true := by rw [HGV.out, b1, b2]; rfl
            clear h1 h2
            subst e
            go_quiet (fail)
            go_wp2_with fail
            go_meet
            exact ⟨rfl, _, rfl⟩
          · have b2 : (n.vote == -1) = false := by rw [beq_eq_false_iff_ne]; exact h2
            by_cases h3 : n.vote = m.fr
            · have b3 : (n.vote == m.fr) = true := by rw [beq_iff_eq]; exact h3
              have e : gv = true := by rw [HGV.out, b1, b2, b3]; rfl
              clear h1 h2 h3
              subst e
              go_quiet (fail)
              go_wp2_with fail
              go_meet
              exact ⟨rfl, _, rfl⟩
            · have b3 : (n.vote == m.fr) = false := by rw [beq_eq_false_iff_ne]; exact h3
              have e : gv = false := by rw [HGV.out, b1, b2, b3]; rfl
              clear h1 h2 h3
              subst e
              go_quiet (fail)
              go_wp2_with fail
              go_meet
              exact ⟨rfl, _, rfl⟩
        · have b1 : (m.term == n.term) = false := by rw [beq_eq_false_iff_ne]; exact h1
          have e : gv = false := by rw [HGV.out, b1]; rfl
          clear h1
          subst e
          go_quiet (fail)
          go_wp2_with fail
          go_meet
          exact ⟨rfl, _, rfl⟩
      | false =>
        by_cases h1 : m.term = n.term
        · have b1 : (m.term == n.term) = true := by rw [beq_iff_eq]; exact h1
          by_cases h2 : n.vote = -1
          · have b2 : (n.vote == -1) = true := by rw [beq_iff_eq]; exact h2
            have e : gv = false := by rw [HGV.out, b1, b2]; rfl
            clear h1 h2
            subst e
            go_quiet (fail)
            go_wp2_with fail
            go_meet
            exact ⟨rfl, _, rfl⟩
          · have b2 : (n.vote == -1) = false := by rw [beq_eq_false_iff_ne]; exact h2
            by_cases h3 : n.vote = m.fr
            · have b3 : (n.vote == m.fr) = true := by rw [beq_iff_eq]; exact h3
              have e : gv = false := by rw [HGV.out, b1, b2, b3]; rfl
              clear h1 h2 h3
              subst e
              go_quiet (fail)
              go_wp2_with fail
              go_meet
              exact ⟨rfl, _, rfl⟩
            · have b3 : (n.vote == m.fr) = false := by rw [beq_eq_false_iff_ne]; exact h3
              have e : gv = false := by rw [HGV.out, b1, b2, b3]; rfl
              clear h1 h2 h3
              subst e
              go_quiet (fail)
              go_wp2_with fail
              go_meet
              exact ⟨rfl, _, rfl⟩
        · have b1 : (m.term == n.term) = false := by rw [beq_eq_false_iff_ne]; exact h1
          have e : gv = false := by rw [HGV.out, b1]; rfl
          clear h1
          subst e
          go_quiet (fail)
          go_wp2_with fail
          go_meet
          exact ⟨rfl, _, rfl⟩
    case rest =>
      obtain ⟨rfl, q, hq⟩ := hcut
      have g4 : w3.grownBy wc none := by rw [hq]; exact only_drewN (only_refl w3 none) q
      have D4 := D2.grow g4
      have mb4 := mb2.grow g4
      have HK4 := Lib.hid (HK2.out.trans (D2.kept g4))
      clear hq g4 D2 mb2 HK2 m0 m1 m2 m3 m4 m5 m6 m7 m8 m9 c0 c1 c2
      obtain ⟨w4, rfl⟩ : ∃ x : World, x = wc := ⟨_, rfl⟩
      obtain ⟨_, m1, _⟩ := mb4.all
      cases gv with
      | true =>
        have q2 := D4.cell 2 _ rfl
        have q9 := D4.cell 9 _ rfl
        have f2 := D4.fr 2
        have f9 := D4.fr 9
        go_upto_region 6 with fail
        obtain ⟨w5, hw5⟩ : ∃ Z, w4.setCell ⟨g, 2, none⟩ (.int .i64 m.fr) = Z := ⟨_, rfl⟩
        have sw5 := D4.set 2 (.int .i64 m.fr) { n with vote := m.fr } rfl rfl
        rw [hw5] at sw5
        have D5 := sw5.1
        have HK5 := Lib.hid (HK4.out.trans sw5.2)
        rw [hw5]
        clear hw5 sw5
        obtain ⟨w6, hw6⟩ : ∃ Z, w5.setCell ⟨g, 9, none⟩ (.int .i64 0) = Z := ⟨_, rfl⟩
        have sw6 := D5.set 9 (.int .i64 0) { n with vote := m.fr, wait := 0 } rfl rfl
        rw [hw6] at sw6
        have D6 := sw6.1
        have HK6 := Lib.hid (HK5.out.trans sw6.2)
        rw [hw6]
        clear hw6 sw6
        have m1' : w6.cell? ⟨mb, 1, none⟩ = some (.int .i64 m.fr) := by
          have hb := HK6.out.blk mb PB.out
          have hb4 := HK4.out.blk mb PB.out
          exact (World.cell?_of_block (a := ⟨mb, 1, none⟩) (hb.trans hb4.symm)).trans m1
        clear q2 q9 f2 f9 m1 mb4 D4 D5 HK4 HK5
        have SD := send_any w6 P' g { n with vote := m.fr, wait := 0 } S m.fr (Mg.mk 2 0 0 0 0 0 0 true (.slice none 0 0) { data := #[] }) ⟨_, M, D6⟩ ⟨none, 0, 0, rfl⟩ (by have := HS.out; omega)
        simp only [Mg.val] at SD
        have SDH := Lib.hid SD
        clear SD D6
        go_wp2_with fail
        refine SDH.out.mono ?_
        rintro _ w9 ⟨rfl, hD9, hK9⟩
        have HF := Lib.hid (And.intro hD9 hK9)
        clear hD9 hK9 SDH
        go_wp2_with fail
        go_end0
        have hD0 : Dr w9 P g { n with vote := m.fr, wait := 0 } (S ++ [n.ansM m]) := by
          obtain ⟨L, M, h⟩ := HF.out.1
          refine ⟨L, M, ?_⟩
          have e : n.ansM m = { (Mg.mk 2 0 0 0 0 0 0 true (.slice none 0 0) { data := #[] }) with fr := n.id, dst := m.fr, term := n.term } := by unfold Nd.ansM; rw [HG.out]; rfl
          rw [e]
          exact h.less (fun j hj => PP.out j hj)
        have hv : n.voted m = { n with vote := m.fr, wait := 0 } := by unfold Nd.voted; rw [HG.out]; rfl
        rw [hv]
        exact ⟨rfl, hD0, (HK1.out.trans (HK6.out.less PP.out)).trans (HF.out.2.less PP.out)⟩
      | false =>
        clear mb4
        have SD := send_any w4 P' g n S m.fr (Mg.mk 2 0 0 0 0 0 0 false (.slice none 0 0) { data := #[] }) ⟨_, M, D4⟩ ⟨none, 0, 0, rfl⟩ (by have := HS.out; omega)
        simp only [Mg.val] at SD
        have SDH := Lib.hid SD
        clear SD D4
        go_wp2_with fail
        refine SDH.out.mono ?_
        rintro _ w9 ⟨rfl, hD9, hK9⟩
        have HF := Lib.hid (And.intro hD9 hK9)
        clear hD9 hK9 SDH
        go_wp2_with fail
        go_end0
        have hD0 : Dr w9 P g n (S ++ [n.ansM m]) := by
          obtain ⟨L, M, h⟩ := HF.out.1
          refine ⟨L, M, ?_⟩
          have e : n.ansM m = { (Mg.mk 2 0 0 0 0 0 0 false (.slice none 0 0) { data := #[] }) with fr := n.id, dst := m.fr, term := n.term } := by unfold Nd.ansM; rw [HG.out]; rfl
          rw [e]
          exact h.less (fun j hj => PP.out j hj)
        have hv : n.voted m = n := by unfold Nd.voted; rw [HG.out]; rfl
        rw [hv]
        exact ⟨rfl, hD0, (HK1.out.trans (HK4.out.less PP.out)).trans (HF.out.2.less PP.out)⟩
end Go.Proofs.Ytjhnipnocjoelaa
