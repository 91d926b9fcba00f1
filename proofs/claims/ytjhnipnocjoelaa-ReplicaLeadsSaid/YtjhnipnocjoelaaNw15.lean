/- (*draft).lead. Conditions: numbers below 2^40. -/
import Derived.Test.YtjhnipnocjoelaaNv
namespace Go.Proofs.Ytjhnipnocjoelaa
open Go.RowKit Go.Deep
/-- A node that leads, ahead of its first entry. -/
def Nd.lead1 (n : Nd) : Nd := { n with role := 2, y0 := 0, y1 := 0, y2 := 0 }
def Nd.led (n : Nd) (k : Nat) : Nd := { (n.lead1.grown k { data := #[] }) with x0 := n.li + 1, x1 := n.li + 1, x2 := n.li + 1 }
def Nd.owes (n : Nd) (j : Nat) (m : Mg) : Prop := ∃ A c, m = n.addM j (.slice A (n.cnt j) c)
set_option maxRecDepth 100000 in
set_option maxHeartbeats 8000000 in
theorem lead_any (w : World) (P : Nat → Prop) (g : Nat) (n : Nd) (S : List Mg) (k : Nat) (hid : n.id = k) (hk3 : k < 3) (hD : Dr w P g n S) (hn : n.ok) (hl : n.log.length ≤ 1000000) (hS : S.length ≤ 1000000) (hb : n.li + 1 ≤ 1099511627776) :
    Calls Try.prog 62 #[.pointer (some ⟨g, 0, none⟩)] w fun e w' => e = .returned (.tuple #[]) ∧ ∃ l, Msgs (n.led k).owes n.id 3 l ∧ Dr w' P g (n.led k) (S ++ l) ∧ Kept P w w' := by
  have HB := Lib.hid hb
  obtain ⟨L, M, D0⟩ := hD
  have K0 := Lib.hid (Kept.refl P w)
  have HID := Lib.hid hid
  have HK3 := Lib.hid hk3
  have HN := Lib.hid hn
  have HL := Lib.hid hl
  have HS := Lib.hid hS
  clear hid hk3 hn hl hS
  have q7 := D0.cell 7 _ rfl
  have f7 := D0.fr 7
  have q16 := D0.cell 16 _ rfl
  have f16 := D0.fr 16
  have q17 := D0.cell 17 _ rfl
  have f17 := D0.fr 17
  have q18 := D0.cell 18 _ rfl
  have f18 := D0.fr 18
  go_enter Try.func62, Try.ntmps62
  go_upto_region 2 with fail
  obtain ⟨wa0, hwa0⟩ : ∃ Z, w.setCell ⟨g, 7, none⟩ (.int .i64 2) = Z := ⟨_, rfl⟩
  have swa0 := D0.set 7 (.int .i64 2) { n with role := 2 } rfl rfl
  rw [hwa0] at swa0
  have Da0 := swa0.1
  have Ka0 := Lib.hid (K0.out.trans swa0.2)
  rw [hwa0]
  clear hwa0 swa0
  obtain ⟨wa1, hwa1⟩ : ∃ Z, wa0.setCell ⟨g, 16, none⟩ (.int .i64 0) = Z := ⟨_, rfl⟩
  have swa1 := Da0.set 16 (.int .i64 0) { n with role := 2, y0 := 0 } rfl rfl
  rw [hwa1] at swa1
  have Da1 := swa1.1
  have Ka1 := Lib.hid (Ka0.out.trans swa1.2)
  rw [hwa1]
  clear hwa1 swa1
  obtain ⟨wa2, hwa2⟩ : ∃ Z, wa1.setCell ⟨g, 17, none⟩ (.int .i64 0) = Z := ⟨_, rfl⟩
  have swa2 := Da1.set 17 (.int .i64 0) { n with role := 2, y0 := 0, y1 := 0 } rfl rfl
  rw [hwa2] at swa2
  have Da2 := swa2.1
  have Ka2 := Lib.hid (Ka1.out.trans swa2.2)
  rw [hwa2]
  clear hwa2 swa2
  obtain ⟨wa3, hwa3⟩ : ∃ Z, wa2.setCell ⟨g, 18, none⟩ (.int .i64 0) = Z := ⟨_, rfl⟩
  have swa3 := Da2.set 18 (.int .i64 0) { n with role := 2, y0 := 0, y1 := 0, y2 := 0 } rfl rfl
  rw [hwa3] at swa3
  have Da3 := swa3.1
  have Ka3 := Lib.hid (Ka2.out.trans swa3.2)
  rw [hwa3]
  clear hwa3 swa3
  have D4 : DrV wa3 P g n.lead1 L S M := Da3
  clear Da3 Da2 Da1 Da0 D0 q7 q16 q17 q18 f7 f16 f17 f18 K0 Ka0 Ka1 Ka2
  have GR := Lib.hid (grow_any wa3 P g n.lead1 S k { data := #[] } HID.out HK3.out ⟨L, M, D4⟩ ⟨HN.out.base, HN.out.len⟩ HL.out)
  clear D4
  have hidx : (n.lead1.put { data := #[] }).li = n.li + 1 := by
    show n.base + ((n.log ++ [(n.term, _)]).length : Int) = n.base + n.log.length + 1
    rw [List.length_append, List.length_singleton]
    omega
  rw [hidx] at GR
  obtain ⟨idx, hi⟩ : ∃ x, n.li + 1 = x := ⟨_, rfl⟩
  rw [hi] at GR
  have HI := Lib.hid hi
  clear hidx hi
  go_wp2_with fail
  refine GR.out.mono ?_
  rintro _ w5 ⟨rfl, ⟨L, M, D5⟩, k5⟩
  have K5 := Lib.hid (Ka3.out.trans k5)
  clear k5 GR
  obtain ⟨ng, hng⟩ : ∃ x, n.lead1.grown k { data := #[] } = x := ⟨_, rfl⟩
  rw [hng] at D5
  have sm := Nd.mset_same (n.lead1.put { data := #[] }) k (n.lead1.put { data := #[] }).li
  rw [show (n.lead1.put { data := #[] }).mset k (n.lead1.put { data := #[] }).li = ng from hng] at sm
  have HSM := Lib.hid sm
  have HNG := Lib.hid hng
  clear sm hng
  have q13 := D5.cell 13 _ rfl
  have f13 := D5.fr 13
  have q14 := D5.cell 14 _ rfl
  have f14 := D5.fr 14
  have q15 := D5.cell 15 _ rfl
  have f15 := D5.fr 15
  go_upto_region 4 with fail
  obtain ⟨wb0, hwb0⟩ : ∃ Z, w5.setCell ⟨g, 13, none⟩ (.int .i64 idx) = Z := ⟨_, rfl⟩
  have swb0 := D5.set 13 (.int .i64 idx) { ng with x0 := idx } rfl rfl
  rw [hwb0] at swb0
  have Db0 := swb0.1
  have Kb0 := Lib.hid (K5.out.trans swb0.2)
  rw [hwb0]
  clear hwb0 swb0
  obtain ⟨wb1, hwb1⟩ : ∃ Z, wb0.setCell ⟨g, 14, none⟩ (.int .i64 idx) = Z := ⟨_, rfl⟩
  have swb1 := Db0.set 14 (.int .i64 idx) { ng with x0 := idx, x1 := idx } rfl rfl
  rw [hwb1] at swb1
  have Db1 := swb1.1
  have Kb1 := Lib.hid (Kb0.out.trans swb1.2)
  rw [hwb1]
  clear hwb1 swb1
  obtain ⟨wb2, hwb2⟩ : ∃ Z, wb1.setCell ⟨g, 15, none⟩ (.int .i64 idx) = Z := ⟨_, rfl⟩
  have swb2 := Db1.set 15 (.int .i64 idx) { ng with x0 := idx, x1 := idx, x2 := idx } rfl rfl
  rw [hwb2] at swb2
  have Db2 := swb2.1
  have Kb2 := Lib.hid (Kb1.out.trans swb2.2)
  rw [hwb2]
  clear hwb2 swb2
  have hled : n.led k = { ng with x0 := idx, x1 := idx, x2 := idx } := by unfold Nd.led; rw [HNG.out, HI.out]
  rw [← hled] at Db2
  obtain ⟨nl, hnl⟩ : ∃ x, n.led k = x := ⟨_, rfl⟩
  rw [hnl] at Db2 hled
  have HNL := Lib.hid hnl
  have e1 : nl.id = n.id := by rw [hled]; exact HSM.out.1
  have e2 : nl.log = n.log ++ [(n.term, { data := #[] })] := by rw [hled]; exact HSM.out.2.2.1
  have e3 : nl.base = n.base := by rw [hled]; exact HSM.out.2.2.2.1
  have e4 : ∀ j, nl.nx j = idx := fun j => by rw [hled]; unfold Nd.nx; split <;> rfl
  have hok : nl.ok := ⟨by rw [e3]; exact HN.out.base, by rw [e2, List.length_append, List.length_singleton]; have := HL.out; omega⟩
  have hix : n.base < idx := by rw [← HI.out]; unfold Nd.li; omega
  have hix2 : idx ≤ 1099511627776 := by rw [← HI.out]; exact HB.out
  have OC := others_owe nl.owes wb2 P g nl S ⟨_, M, Db2⟩ (by have := HS.out; omega) (fun j W S' hj hne hS' hd hk => (owe_add W P g nl S' j hj hd hok hS' (by rw [e3, e4]; exact hix) (by rw [e4]; exact hix2)).mono fun _ _ ⟨h1, A, c, h2, h3⟩ => ⟨h1, _, ⟨A, c, rfl⟩, h2, h3⟩)
  rw [e1] at OC
  have OCH := Lib.hid OC
  clear q13 q14 q15 f13 f14 f15 Db0 Db1 Db2 D5 K5 Kb0 Kb1 hled hnl e1 e2 e3 e4 hok hix hix2 OC
  go_wp2_with fail
  refine OCH.out.mono ?_
  rintro _ w9 ⟨rfl, l, hM, hD9, hK9⟩
  have HF := Lib.hid (And.intro hM (And.intro hD9 (Kb2.out.trans hK9)))
  clear hM hD9 hK9 OCH
  go_wp2_with fail
  go_end0
  exact ⟨rfl, l, by rw [HNL.out]; exact HF.out.1, by rw [HNL.out]; exact HF.out.2.1, HF.out.2.2⟩
end Go.Proofs.Ytjhnipnocjoelaa
