/- (*draft).voted. Conditions: numbers below 2^40. -/
import Derived.Test.YtjhnipnocjoelaaNw15
namespace Go.Proofs.Ytjhnipnocjoelaa
open Go.RowKit Go.Deep
/-- Do two of three say so? -/
def Nd.maj (n : Nd) : Bool := (n.v0 && n.v1) || (n.v0 && n.v2) || (n.v1 && n.v2)
theorem DrV.votes {w : World} {P : Nat → Prop} {g : Nat} {n : Nd} {L M : Value} {S : List Mg} (h : DrV w P g n L S M) : w.cell? ⟨g, 10, none⟩ = some (.bool n.v0) ∧ w.cell? ⟨g, 11, none⟩ = some (.bool n.v1) ∧ w.cell? ⟨g, 12, none⟩ = some (.bool n.v2) := by
  obtain ⟨_, _, _, _, _, _, _, _, _, _, a, b, c, _⟩ := h.all
  exact ⟨a, b, c⟩
set_option maxRecDepth 100000 in
set_option maxHeartbeats 4000000 in
theorem voted_old (w : World) (P : Nat → Prop) (g : Nat) (n : Nd) (S : List Mg) (m : Mg) (h1 : m.term ≠ n.term) (hD : Dr w P g n S) :
    Calls Try.prog 38 #[.pointer (some ⟨g, 0, none⟩), m.val] w fun e w' => e = .returned (.tuple #[]) ∧ Dr w' P g n S ∧ Kept P w w' := by
  obtain ⟨L, M, hD⟩ := hD
  obtain ⟨w1, hw1⟩ : ∃ w1, w.alloc (.cells m.arr 25) = w1 := ⟨_, rfl⟩
  have g1 : w.grownBy w1 none := by subst hw1; exact World.grownBy_alloc w _ none
  have z1 : w.heap.size < w1.heap.size := by subst hw1; simp
  have mb1 : MB w1 w.heap.size m := by subst hw1; exact ⟨heap_alloc_new w _⟩
  obtain ⟨P', hP'⟩ : ∃ P' : Nat → Prop, P' = fun k => P k ∨ k = w.heap.size := ⟨_, rfl⟩
  have D1 := hD.add g1 w.heap.size (Nat.le_refl _) z1
  rw [← hP'] at D1
  have HK1 := Lib.hid (hD.kept g1)
  have PP := Lib.hid (show ∀ j, P j → P' j from fun j hj => by rw [hP']; exact .inl hj)
  have PB := Lib.hid (show P' w.heap.size by rw [hP']; exact .inr rfl)
  obtain ⟨mb, hmb⟩ : ∃ mb, w.heap.size = mb := ⟨_, rfl⟩
  rw [hmb] at mb1 PB
  clear hD g1 z1 hP'
  have b1 : (m.term != n.term) = true := by rw [bne_iff_ne]; exact h1
  clear h1
  unfold Mg.arr at hw1
  unfold Mg.val
  go_enter Try.func38, Try.ntmps38
  go_upto_region 1 with fail
  clear hw1
  try rw [hmb]
  clear hmb
  obtain ⟨_, m1, _, m3, _, _, _, m7, _⟩ := mb1.all
  obtain ⟨c0, c1, _, _, _, _, _, c7, _⟩ := D1.all
  have HD1 := Lib.hid D1
  clear D1 mb1
  go_quiet (fail)
  have gq : w1.grownBy (w1.drewN nq) none := only_drewN (only_refl w1 none) nq
  have Dq := HD1.out.grow gq
  have HF := Lib.hid (And.intro (show Dr _ P g n S from ⟨L, M, Dq.less (fun j hj => PP.out j hj)⟩) (HK1.out.trans ((HD1.out.kept gq).less PP.out)))
  obtain ⟨wq, hwq⟩ : ∃ x, w1.drewN nq = x := ⟨_, rfl⟩
  rw [hwq] at HF
  rw [hwq]
  clear hwq gq Dq
  go_wp2_with fail
  (try simp only [Exit.inBlock, Exit.then])
  refine bodyPost_ret (results_none rfl _ _ _) rfl ?_
  exact ⟨rfl, HF.out⟩
set_option maxRecDepth 100000 in
set_option maxHeartbeats 4000000 in
theorem voted_no (w : World) (P : Nat → Prop) (g : Nat) (n : Nd) (S : List Mg) (m : Mg) (h1 : m.term = n.term) (h2 : n.role = 1) (h3 : m.yes = false) (hD : Dr w P g n S) :
    Calls Try.prog 38 #[.pointer (some ⟨g, 0, none⟩), m.val] w fun e w' => e = .returned (.tuple #[]) ∧ Dr w' P g n S ∧ Kept P w w' := by
  obtain ⟨L, M, hD⟩ := hD
  obtain ⟨w1, hw1⟩ : ∃ w1, w.alloc (.cells m.arr 25) = w1 := ⟨_, rfl⟩
  have g1 : w.grownBy w1 none := by subst hw1; exact World.grownBy_alloc w _ none
  have z1 : w.heap.size < w1.heap.size := by subst hw1; simp
  have mb1 : MB w1 w.heap.size m := by subst hw1; exact ⟨heap_alloc_new w _⟩
  obtain ⟨P', hP'⟩ : ∃ P' : Nat → Prop, P' = fun k => P k ∨ k = w.heap.size := ⟨_, rfl⟩
  have D1 := hD.add g1 w.heap.size (Nat.le_refl _) z1
  rw [← hP'] at D1
  have HK1 := Lib.hid (hD.kept g1)
  have PP := Lib.hid (show ∀ j, P j → P' j from fun j hj => by rw [hP']; exact .inl hj)
  have PB := Lib.hid (show P' w.heap.size by rw [hP']; exact .inr rfl)
  obtain ⟨mb, hmb⟩ : ∃ mb, w.heap.size = mb := ⟨_, rfl⟩
  rw [hmb] at mb1 PB
  clear hD g1 z1 hP'
  have b1 : (m.term != n.term) = false := by rw [h1]; simp
  have b2 : (n.role != 1) = false := by rw [h2]; simp
  have H3 := Lib.hid h3
  clear h1 h2 h3
  unfold Mg.arr at hw1
  unfold Mg.val
  go_enter Try.func38, Try.ntmps38
  go_upto_region 1 with fail
  clear hw1
  try rw [hmb]
  clear hmb
  obtain ⟨_, m1, _, m3, _, _, _, m7, _⟩ := mb1.all
  obtain ⟨c0, c1, _, _, _, _, _, c7, _⟩ := D1.all
  rw [H3.out] at m7
  have HD1 := Lib.hid D1
  clear D1 mb1
  go_quiet (fail)
  have gq : w1.grownBy (w1.drewN nq) none := only_drewN (only_refl w1 none) nq
  have Dq := HD1.out.grow gq
  have HF := Lib.hid (And.intro (show Dr _ P g n S from ⟨L, M, Dq.less (fun j hj => PP.out j hj)⟩) (HK1.out.trans ((HD1.out.kept gq).less PP.out)))
  obtain ⟨wq, hwq⟩ : ∃ x, w1.drewN nq = x := ⟨_, rfl⟩
  rw [hwq] at HF
  rw [hwq]
  clear hwq gq Dq
  go_wp2_with fail
  (try simp only [Exit.inBlock, Exit.then])
  refine bodyPost_ret (results_none rfl _ _ _) rfl ?_
  exact ⟨rfl, HF.out⟩
set_option maxRecDepth 100000 in
set_option maxHeartbeats 8000000 in
theorem voted_won (w : World) (P : Nat → Prop) (g : Nat) (n : Nd) (S : List Mg) (m : Mg) (k f : Nat) (hid : n.id = k) (hk3 : k < 3) (hf : m.fr = f) (hf3 : f < 3) (h1 : m.term = n.term) (h2 : n.role = 1) (h3 : m.yes = true) (hv : (n.vset f).maj = true) (hD : Dr w P g n S) (hn : n.ok) (hl : n.log.length ≤ 1000000) (hS : S.length ≤ 1000000) (hb : n.li + 1 ≤ 1099511627776) :
    Calls Try.prog 38 #[.pointer (some ⟨g, 0, none⟩), m.val] w fun e w' => e = .returned (.tuple #[]) ∧ ∃ l, Msgs ((n.vset f).led k).owes n.id 3 l ∧ Dr w' P g ((n.vset f).led k) (S ++ l) ∧ Kept P w w' := by
  obtain ⟨L, M, hD⟩ := hD
  obtain ⟨w1, hw1⟩ : ∃ w1, w.alloc (.cells m.arr 25) = w1 := ⟨_, rfl⟩
  have g1 : w.grownBy w1 none := by subst hw1; exact World.grownBy_alloc w _ none
  have z1 : w.heap.size < w1.heap.size := by subst hw1; simp
  have mb1 : MB w1 w.heap.size m := by subst hw1; exact ⟨heap_alloc_new w _⟩
  obtain ⟨P', hP'⟩ : ∃ P' : Nat → Prop, P' = fun k => P k ∨ k = w.heap.size := ⟨_, rfl⟩
  have D1 := hD.add g1 w.heap.size (Nat.le_refl _) z1
  rw [← hP'] at D1
  have HK1 := Lib.hid (hD.kept g1)
  have PP := Lib.hid (show ∀ j, P j → P' j from fun j hj => by rw [hP']; exact .inl hj)
  have PB := Lib.hid (show P' w.heap.size by rw [hP']; exact .inr rfl)
  obtain ⟨mb, hmb⟩ : ∃ mb, w.heap.size = mb := ⟨_, rfl⟩
  rw [hmb] at mb1 PB
  clear hD g1 z1 hP'
  have b1 : (m.term != n.term) = false := by rw [h1]; simp
  have b2 : (n.role != 1) = false := by rw [h2]; simp
  have H3 := Lib.hid h3
  have HF := Lib.hid hf
  have HF3 := Lib.hid hf3
  have HV := Lib.hid hv
  have HID := Lib.hid hid
  have HK3 := Lib.hid hk3
  have HN := Lib.hid hn
  have HL := Lib.hid hl
  have HS := Lib.hid hS
  have HB := Lib.hid hb
  clear h1 h2 h3 hf hf3 hv hid hk3 hn hl hS hb
  unfold Mg.arr at hw1
  unfold Mg.val
  go_enter Try.func38, Try.ntmps38
  go_upto_region 1 with fail
  clear hw1
  try rw [hmb]
  clear hmb
  obtain ⟨_, m1, _, m3, _, _, _, m7, _⟩ := mb1.all
  obtain ⟨c0, c1, _, _, _, _, _, c7, _⟩ := D1.all
  rw [H3.out] at m7
  rw [HF.out] at m1
  have HD1 := Lib.hid D1
  have HM1 := Lib.hid mb1
  clear D1 mb1
  go_quiet (fail)
  have gq : w1.grownBy (w1.drewN nq) none := only_drewN (only_refl w1 none) nq
  obtain ⟨wq, hwq⟩ : ∃ x, w1.drewN nq = x := ⟨_, rfl⟩
  rw [hwq] at gq
  rw [hwq]
  clear hwq m1 m3 m7 c0 c1 c7 b1 b2
  have Dq := HD1.out.grow gq
  have Kq := Lib.hid (HD1.out.kept gq)
  have mq := HM1.out.grow gq
  clear gq
  go_upto_region 2 with fail
  have D2 := Dq.drew
  have K2 := Lib.hid (Kq.out.trans (Dq.kept (only_drew (only_refl wq none))))
  have m2 := mq.grow (only_drew (only_refl wq none))
  obtain ⟨w2, hw2⟩ : ∃ w2, wq.drew = w2 := ⟨_, rfl⟩
  rw [hw2] at D2 K2 m2
  have HW2 := Lib.hid hw2
  clear hw2 Dq Kq mq
  have i1 : w2.cell? ⟨mb, 1, none⟩ = some (.int .i64 (f : Int)) := by rw [← HF.out]; exact m2.all.2.1
  obtain ⟨vb, qf⟩ := D2.cellv f HF3.out
  have ff := D2.fr (10 + f)
  have t0 : (0 : Int) ≤ (f : Int) := by omega
  have t1 : (f : Int) < 3 := by have := HF3.out; omega
  refine wp_region_late [(7, fun V => V.cell? ⟨mb, 1, none⟩ = some (.int .i64 (f : Int)))] (by kernel_rfl) ?_
  refine wpAnyT_pure (i := 0) (oi := { dst := some 25, op := Op.move (Operand.tmp 0), type := 83, pos := "draft.go:87", after := #[], guard := none }) (v := ?_) rfl (by kernel_rfl) (by kernel_rfl) (by kernel_rfl) (by kernel_rfl) (fun _ _ _ h => h) (Or.inl ⟨by rfl, ?_⟩) (holds1 (fun _ => (by rw [HW2.out]; exact i1))) ?_
  rotate_left
  · (intro W; go_simp; try with_reducible rfl)
  try simp only [Act.put, List.setIfInBounds_toArray, List.set_cons_zero, List.set_cons_succ]
  refine wpAnyT_pure (i := 1) (oi := { dst := some 26, op := Op.fieldAddr 25 (Operand.tmp 3) 1, type := 0, pos := "draft.go:87", after := #[], guard := none }) (v := ?_) rfl (by kernel_rfl) (by kernel_rfl) (by kernel_rfl) (by kernel_rfl) (fun _ _ _ h => h) (Or.inl ⟨by rfl, ?_⟩) (holds1 (fun _ => (by rw [HW2.out]; exact i1))) ?_
  rotate_left
  · (intro W; go_simp; try with_reducible rfl)
  try simp only [Act.put, List.setIfInBounds_toArray, List.set_cons_zero, List.set_cons_succ]
  refine wpAnyT_take 4 7 (i := 2) (oi := { dst := some 27, op := Op.load 3 (Operand.tmp 26), type := 3, pos := "draft.go:87", after := #[{ on := 1, ground := Ground.data }], guard := none }) (v := ?_) (.head _) rfl (by kernel_rfl) (by kernel_rfl) (by kernel_rfl) (by kernel_rfl) (by kernel_rfl) (by kernel_rfl) (by rfl) (fun _ _ _ h => h) (by rfl) ?_ (holds1 (fun _ => (by rw [HW2.out]; exact i1))) ?_
  rotate_left
  · (intro W hSw; (try dsimp only at hSw); go_simp; try with_reducible rfl)
  try simp only [Act.put, List.setIfInBounds_toArray, List.set_cons_zero, List.set_cons_succ]
  refine wpAnyT_pure (i := 3) (oi := { dst := some 28, op := Op.nilCheck (Operand.tmp 25), type := 0, pos := "draft.go:87", after := #[{ on := 0, ground := Ground.data }], guard := none }) (v := ?_) rfl (by kernel_rfl) (by kernel_rfl) (by kernel_rfl) (by kernel_rfl) (fun _ _ _ h => h) (Or.inl ⟨by rfl, ?_⟩) (holds1 (fun _ => (by rw [HW2.out]; exact i1))) ?_
  rotate_left
  · (intro W; go_simp; try with_reducible rfl)
  try simp only [Act.put, List.setIfInBounds_toArray, List.set_cons_zero, List.set_cons_succ]
  refine wpAnyT_pure (i := 4) (oi := { dst := some 29, op := Op.fieldAddr 87 (Operand.tmp 28) 0, type := 0, pos := "draft.go:87", after := #[{ on := 3, ground := Ground.data }], guard := none }) (v := ?_) rfl (by kernel_rfl) (by kernel_rfl) (by kernel_rfl) (by kernel_rfl) (fun _ _ _ h => h) (Or.inl ⟨by rfl, ?_⟩) (holds1 (fun _ => (by rw [HW2.out]; exact i1))) ?_
  rotate_left
  · (intro W; go_simp; try with_reducible rfl)
  try simp only [Act.put, List.setIfInBounds_toArray, List.set_cons_zero, List.set_cons_succ]
  refine wpAnyT_pure (i := 5) (oi := { dst := some 30, op := Op.fieldAddr 37 (Operand.tmp 29) 10, type := 0, pos := "draft.go:87", after := #[{ on := 4, ground := Ground.data }], guard := none }) (v := ?_) rfl (by kernel_rfl) (by kernel_rfl) (by kernel_rfl) (by kernel_rfl) (fun _ _ _ h => h) (Or.inl ⟨by rfl, ?_⟩) (holds1 (fun _ => (by rw [HW2.out]; exact i1))) ?_
  rotate_left
  · (intro W; go_simp; try with_reducible rfl)
  try simp only [Act.put, List.setIfInBounds_toArray, List.set_cons_zero, List.set_cons_succ]
  refine wpAnyT_pure (i := 6) (oi := { dst := some 31, op := Op.indexAddr 34 (Operand.tmp 30) (Operand.tmp 27), type := 0, pos := "draft.go:87", after := #[{ on := 5, ground := Ground.data }, { on := 2, ground := Ground.data }, { on := 0, ground := Ground.phase }, { on := 1, ground := Ground.phase }, { on := 2, ground := Ground.phase }], guard := none }) (v := ?_) rfl (by kernel_rfl) (by kernel_rfl) (by kernel_rfl) (by kernel_rfl) (fun _ _ _ h => h) (Or.inl ⟨by rfl, ?_⟩) (holds1 (fun _ => (by rw [HW2.out]; exact i1))) ?_
  rotate_left
  · (intro W; go_simp; try with_reducible rfl)
  try simp only [Act.put, List.setIfInBounds_toArray, List.set_cons_zero, List.set_cons_succ]
  rw [HW2.out]
  refine wpAnyT_ready (rs := [7]) (by kernel_rfl) (by simp) (AllT.cons (o := { dst := none, op := Op.store 4 (Operand.tmp 31) (Operand.const (Value.bool true)), type := 0, pos := "draft.go:87", after := #[{ on := 6, ground := Ground.data }, { on := 0, ground := Ground.phase }, { on := 1, ground := Ground.phase }, { on := 2, ground := Ground.phase }], guard := none }) rfl (fun K hK => ?_) AllT.nil)
  go_simp
  obtain ⟨w3, hw3⟩ : ∃ Z, w2.setCell ⟨g, 10 + f, none⟩ (.bool true) = Z := ⟨_, rfl⟩
  have s3 := D2.setv f HF3.out
  rw [hw3] at s3
  rw [hw3]
  have D3 := s3.1
  have K3 := Lib.hid (K2.out.trans s3.2)
  clear hw3 s3 qf ff i1 D2 m2
  refine hK.out _ _ (holds1 (late_no (by kernel_rfl))) ?_
  clear hK K
  try simp only [Act.put, List.setIfInBounds_toArray, List.set_cons_zero, List.set_cons_succ]
  refine wpAnyT_done (by kernel_rfl) ?_ _
  have sm := Nd.vset_same n f
  obtain ⟨nv, hnv⟩ : ∃ x, n.vset f = x := ⟨_, rfl⟩
  rw [hnv] at D3 sm
  have HNV := Lib.hid hnv
  have hmaj : nv.maj = true := by rw [← hnv]; exact HV.out
  have HSM := Lib.hid sm
  clear hnv sm t0 t1
  have LC := Lib.hid (lead_any w3 P' g nv S k (by rw [HSM.out.1]; exact HID.out) HK3.out ⟨L, M, D3⟩ ⟨by rw [HSM.out.2.2.2.1]; exact HN.out.base, by rw [HSM.out.2.2.1]; exact HN.out.len⟩ (by rw [HSM.out.2.2.1]; exact HL.out) HS.out (by rw [HSM.out.2.2.2.2.1]; exact HB.out))
  obtain ⟨v0, v1, v2⟩ := D3.votes
  have HMJ := Lib.hid hmaj
  clear D3 hmaj
  go_upto_region 3 with fail
  go_cut [77] (fun s77 wx => s77 = .bool true ∧ wx = w3)
  case first =>
    have hm := HMJ.out
    unfold Nd.maj at hm
    obtain ⟨x0, hx0⟩ : ∃ x, nv.v0 = x := ⟨_, rfl⟩
    obtain ⟨x1, hx1⟩ : ∃ x, nv.v1 = x := ⟨_, rfl⟩
    obtain ⟨x2, hx2⟩ : ∃ x, nv.v2 = x := ⟨_, rfl⟩
    rw [hx0] at v0 hm
    rw [hx1] at v1 hm
    rw [hx2] at v2 hm
    clear hx0 hx1 hx2
    cases x0 <;> cases x1 <;> cases x2 <;> first | (exact absurd hm (by decide)) | (clear hm; go_wp2_with fail; go_meet; exact ⟨rfl, rfl⟩)
  case rest =>
    obtain ⟨rfl, rfl⟩ := hcut
    go_wp2_with fail
    refine LC.out.mono ?_
    rintro _ w9 ⟨rfl, l, hM, ⟨L, M, hD9⟩, hK9⟩
    have HF9 := Lib.hid (And.intro hM (And.intro (show Dr w9 P g (nv.led k) (S ++ l) from ⟨L, M, hD9.less (fun j hj => PP.out j hj)⟩) (HK1.out.trans ((K3.out.trans hK9).less PP.out))))
    clear hM hD9 hK9 LC v0 v1 v2
    go_wp2_with fail
    go_end0
    exact ⟨rfl, l, by rw [HNV.out, ← HSM.out.1]; exact HF9.out.1, by rw [HNV.out]; exact HF9.out.2.1, HF9.out.2.2⟩
end Go.Proofs.Ytjhnipnocjoelaa
