/- What replica.Tick and Take share; Tick of a node that does not lead. Conditions: numbers below 2^40. -/
import Derived.Test.YtjhnipnocjoelaaNn
namespace Go.Proofs.Ytjhnipnocjoelaa
open Go.RowKit Go.Deep
/-- A node and messages are handed back. -/
def GotN (w : World) (n : Nd) (R : List Mg → Prop) (e : Ending) (w' : World) : Prop := ∃ A c B cb S, e = .returned (.tuple #[n.val (.slice A n.log.length c), .slice B (List.length S) cb]) ∧ R S ∧ Has w' w'.heap.size A (es n.log) ∧ n.log.length ≤ c ∧ Has w' w'.heap.size B (ms S) ∧ S.length ≤ cb ∧ w.grownBy w' none
theorem Kept.grown {P : Nat → Prop} {w w' : World} (h : Kept P w w') (hp : ∀ k, k < w.heap.size → P k) : w.grownBy w' none := ⟨h.os, h.tape, h.output, h.size, fun k hk _ => h.blk k (hp k hk)⟩
def zeroN : Array Value := #[.int .i64 0, .int .i64 0, .int .i64 0, .int .i64 0, .int .i64 0, .string { data := #[] }, .slice none 0 0, .int .i64 0, .int .i64 0, .int .i64 0, .bool false, .bool false, .bool false, .int .i64 0, .int .i64 0, .int .i64 0, .int .i64 0, .int .i64 0, .int .i64 0]
theorem fin_got {w w5 : World} {P : Nat → Prop} {g rb c cb : Nat} {n : Nd} {A B : Option Addr} {S : List Mg} {R : List Mg → Prop} {cur : Array Value} (D : DrV w5 P g n (.slice A n.log.length c) S (.slice B S.length cb)) (hG : w.grownBy w5 none) (hrb : P rb) (hb : w.heap.size ≤ rb) (hR : R S)
    (hh : w5.heap[rb]? = some (.cells cur 37 (0, 0))) : GotN w n R (.returned (.tuple #[n.val (.slice A n.log.length c), .slice B S.length cb])) (w5.setRow rb (n.cells (.slice A n.log.length c))) ∧ (w5.setRow rb (n.cells (.slice A n.log.length c))).heap[rb]? = some (.cells (n.cells (.slice A n.log.length c)) 37 (0, 0)) := by
  have hg := only_row (w := w5) (b := rb) (n.cells (.slice A n.log.length c))
  have D6 := D.off hrb hg
  exact ⟨⟨A, c, B, cb, S, rfl, hR, Has.own_w D6.log, own_cap_w D6.log, Has.own_w D6.sent, own_cap_w D6.sent, only_step hG hg (fun k hk => by cases hk; exact .inr hb)⟩, row_at hh⟩
theorem NB.load {w : World} {b : Nat} {n : Nd} {L : Value} (h : NB w b n L) : (Instr.loadAt 37 (.pointer (some ⟨b, 0, none⟩))).run Try.prog w = .ok (n.val L) w :=
  load_agg (cs := n.cells L) (fun j u hu => by
    rw [Nat.zero_add]
    simp [World.cell?, h.at_, hu]) Try.underlying37 rfl (by kernel_rfl)
set_option maxRecDepth 100000 in
set_option maxHeartbeats 8000000 in
theorem tick_wait (n : Nd) (A : Option Addr) (c i : Nat) (w : World) (hid : n.id = i) (hi : i < 3) (hr : n.role ≠ 2) (hn : n.ok) (hA : Has w w.heap.size A (es n.log)) (hw0 : 0 ≤ n.wait) (hw1' : n.wait + 1 < 5 + 3 * (i : Int)) :
    Calls Try.prog 19 #[n.val (.slice A n.log.length c)] w (GotN w { n with wait := n.wait + 1 } (fun S => S = [])) := by
  have hasA := hA.up (only_alloc (World.grownBy_alloc w (.cells (n.cells (.slice A n.log.length c)) 37) none) (.cells zeroN 37))
  obtain ⟨w1, hw1⟩ : ∃ w1, w.alloc (.cells (n.cells (.slice A n.log.length c)) 37) = w1 := ⟨_, rfl⟩
  obtain ⟨w2, hw2⟩ : ∃ w2, w1.alloc (.cells zeroN 37) = w2 := ⟨_, rfl⟩
  rw [hw1, hw2] at hasA
  have g2 : w.grownBy w2 none := by subst hw2; subst hw1; exact only_alloc (World.grownBy_alloc w _ none) _
  have z1 : w1.heap.size = w.heap.size + 1 := by subst hw1; simp
  have z2 : w2.heap.size = w.heap.size + 2 := by subst hw2; simp [z1]
  have n2 : NB w2 w.heap.size n (.slice A n.log.length c) := by
    subst hw2
    exact ⟨((World.grownBy_alloc w1 (.cells zeroN 37) none).block _ (by omega) (by simp)).trans (by subst hw1; exact heap_alloc_new w _)⟩
  have r2 : w2.heap[w.heap.size + 1]? = some (.cells zeroN 37 (0, 0)) := by subst hw2; rw [← z1]; exact heap_alloc_new w1 _
  have LD := n2.load
  have BG := begin_any n A c w2 hasA (by have := hn.len; omega)
  simp only [Nd.val] at LD BG
  have LDH := Lib.hid LD
  have BGH := Lib.hid BG
  have HR2 := Lib.hid r2
  have HG2 := Lib.hid g2
  have HZ2 := Lib.hid z2
  have HN := Lib.hid hn
  have HID := Lib.hid hid
  have HI := Lib.hid hi
  have HR := Lib.hid hr
  have ISN := fun W => Lib.hid (node_is n.id true (by rw [hid]; exact decide_eq_true (by omega)) W)
  have PA := fun W => Lib.hid (patience_is n.id (by omega) (by omega) W)
  have HW := Lib.hid (And.intro hw0 hw1')
  have hro : (n.role == 2) = false := by rw [beq_eq_false_iff_ne]; exact hr
  clear hid hi hr hw0 hw1'
  clear hasA LD BG n2 r2 g2 z2 hn hA
  unfold Nd.cells at hw1
  unfold zeroN at hw2
  unfold Nd.val
  obtain ⟨rb, hrb⟩ : ∃ rb, w.heap.size + 1 = rb := ⟨_, rfl⟩
  rw [hrb] at HR2 z1
  have HRB := Lib.hid hrb
  go_enter Try.func19, Try.ntmps19
  go_wp2_with (first | (refine wpList_load_at rfl 37 (Operand.tmp 1) rfl _ _ LDH.out rfl ?_) | (go_at_call 33; refine BGH.out.mono ?_))
  rintro _ w3 ⟨g, rfl, hD3, g3⟩
  have HP := Lib.hid (show ∀ k, k < w.heap.size → k < w2.heap.size from fun k hk => by have := HZ2.out; omega)
  have HPR := Lib.hid (show rb < w2.heap.size by have := HZ2.out; have := HRB.out; omega)
  have HG3 := Lib.hid (only_step HG2.out g3 (fun _ h => .inl h))
  have HR3 := Lib.hid ((g3.block rb HPR.out (by simp)).trans HR2.out)
  obtain ⟨P, hP⟩ : ∃ P : Nat → Prop, P = fun k => k < w2.heap.size := ⟨_, rfl⟩
  rw [← hP] at hD3
  have HPP := Lib.hid (show ∀ k, k < w.heap.size → P k from fun k hk => by rw [hP]; exact HP.out k hk)
  have HPRB := Lib.hid (show P rb by rw [hP]; exact HPR.out)
  have HD3 := Lib.hid hD3
  clear hP hD3 g3 hw1 hw2 LDH BGH HP HPR z1 HR2 HG2 hrb
  obtain ⟨L, M, D3⟩ := HD3.out
  obtain ⟨A', c', rfl⟩ := own_slice_w D3.log
  obtain ⟨B', cb', rfl⟩ := own_slice_w D3.sent
  obtain ⟨c0, c1, c2, c3, c4, c5, c6, c7, c8, c9, _⟩ := D3.all
  have f9 := D3.fr 9
  have hw0 := HW.out.1
  have hw1' := HW.out.2
  have hi := HI.out
  go_upto_region 3 with (go_at_call 34; refine (ISN _).out.mono ?_; rintro _ wx ⟨rfl, rfl⟩)
  obtain ⟨w4, hw4⟩ : ∃ Z, w3.setCell ⟨g, 9, none⟩ (.int .i64 (n.wait + 1)) = Z := ⟨_, rfl⟩
  have s4 := D3.set 9 (.int .i64 (n.wait + 1)) { n with wait := n.wait + 1 } rfl rfl
  rw [hw4] at s4
  rw [hw4]
  have D4 := s4.1
  have K4 := Lib.hid s4.2
  clear hw4 s4 c0 c1 c2 c3 c4 c5 c6 c7 c8 c9 f9 D3
  have i0 : w4.cell? ⟨g, 0, none⟩ = some (.int .i64 n.id) := D4.cell 0 _ rfl
  have i1 : w4.cell? ⟨g, 1, none⟩ = some (.int .i64 n.term) := D4.cell 1 _ rfl
  have i9 : w4.cell? ⟨g, 9, none⟩ = some (.int .i64 (n.wait + 1)) := D4.cell 9 _ rfl
  have tw : ¬ 5 + 3 * n.id ≤ n.wait + 1 := by have := HID.out; omega
  go_quiet ((go_at_call 46; exact Calls.quiet_of_same ((PA _).out.mono fun _ _ h => ⟨h.1, h.2.symm⟩)))
  clear i0 i1 i9
  have gq : w4.grownBy (w4.drewN nq) none := only_drewN (only_refl w4 none) nq
  obtain ⟨w5, hw5⟩ : ∃ w5, w4.drewN nq = w5 := ⟨_, rfl⟩
  rw [hw5] at gq
  rw [hw5]
  clear hw5
  have D5 := D4.grow gq
  have K5 := K4.out.trans (D4.kept gq)
  obtain ⟨S', hS'⟩ : ∃ S' : List Mg, [] = S' := ⟨_, rfl⟩
  rw [hS'] at D5
  have HSS := Lib.hid hS'.symm
  clear hS'
  have G5 : w.grownBy w5 none := ⟨K5.os.trans HG3.out.os, K5.tape.trans HG3.out.tape, K5.output.trans HG3.out.output, Nat.le_trans HG3.out.size K5.size, fun j hj _ => (K5.blk j (HPP.out j hj)).trans (HG3.out.block j hj (by simp))⟩
  have R5 : Hid (w5.heap[rb]? = some (.cells zeroN 37 (0, 0))) := (K5.blk rb HPRB.out).trans HR3.out
  have HG5 := Lib.hid G5
  clear gq D4 K4 K5 G5 hw0 hw1' hi
  go_upto_region 8 with fail
  have Dz := D5.drew
  have Gz := Lib.hid (only_drew HG5.out)
  have Rz : Hid (w5.drew.heap[rb]? = some (.cells zeroN 37 (0, 0))) := R5.out
  obtain ⟨wz, hwz⟩ : ∃ wz, w5.drew = wz := ⟨_, rfl⟩
  rw [hwz] at Dz Gz Rz
  have HWZ := Lib.hid hwz
  clear hwz
  have LZ := Dz.node
  have MZ := Dz.all.2.2.2.2.2.2.2.2.2.2.2.2.2.2.2.2.2.2.2
  have STZ := Lib.hid (store_node ({ n with wait := n.wait + 1 }) A' ({ n with wait := n.wait + 1 }).log.length c' Rz.out rfl)
  have FZ := Lib.hid (fin_got (R := fun S => S = []) Dz Gz.out HPRB.out (by have := HRB.out; omega) HSS.out Rz.out)
  simp only [Nd.val] at LZ
  have HLZ := Lib.hid LZ
  clear LZ
  refine wp_region_late [(8, fun V => (Instr.loadAt 37 (.pointer (some ⟨g, 0, none⟩))).run Try.prog V = .ok (({ n with wait := n.wait + 1 }).val (.slice A' ({ n with wait := n.wait + 1 }).log.length c')) V), (9, fun V => V.cell? ⟨g, 19, none⟩ = some (.slice B' S'.length cb'))] (by kernel_rfl) ?_
  refine wpAnyT_pure (i := 0) (oi := { dst := some 57, op := Op.move (Operand.tmp 4), type := 83, pos := "replica.go:87", after := #[], guard := none }) (v := ?_) rfl (by kernel_rfl) (by kernel_rfl) (by kernel_rfl) (by kernel_rfl) (fun _ _ _ h => h) (Or.inl ⟨by rfl, ?_⟩) (holds2 (fun _ => (by rw [HWZ.out]; exact HLZ.out)) (fun _ => (by rw [HWZ.out]; exact MZ))) ?_
  rotate_left
  · (intro W; go_simp; try with_reducible rfl)
  try simp only [Act.put, List.setIfInBounds_toArray, List.set_cons_zero, List.set_cons_succ]
  refine wpAnyT_pure (i := 1) (oi := { dst := some 58, op := Op.nilCheck (Operand.tmp 57), type := 0, pos := "replica.go:87", after := #[{ on := 0, ground := Ground.data }], guard := none }) (v := ?_) rfl (by kernel_rfl) (by kernel_rfl) (by kernel_rfl) (by kernel_rfl) (fun _ _ _ h => h) (Or.inl ⟨by rfl, ?_⟩) (holds2 (fun _ => (by rw [HWZ.out]; exact HLZ.out)) (fun _ => (by rw [HWZ.out]; exact MZ))) ?_
  rotate_left
  · (intro W; go_simp; try with_reducible rfl)
  try simp only [Act.put, List.setIfInBounds_toArray, List.set_cons_zero, List.set_cons_succ]
  refine wpAnyT_pure (i := 2) (oi := { dst := some 59, op := Op.fieldAddr 87 (Operand.tmp 58) 0, type := 0, pos := "replica.go:87", after := #[{ on := 1, ground := Ground.data }], guard := none }) (v := ?_) rfl (by kernel_rfl) (by kernel_rfl) (by kernel_rfl) (by kernel_rfl) (fun _ _ _ h => h) (Or.inl ⟨by rfl, ?_⟩) (holds2 (fun _ => (by rw [HWZ.out]; exact HLZ.out)) (fun _ => (by rw [HWZ.out]; exact MZ))) ?_
  rotate_left
  · (intro W; go_simp; try with_reducible rfl)
  try simp only [Act.put, List.setIfInBounds_toArray, List.set_cons_zero, List.set_cons_succ]
  refine wpAnyT_take 4 8 (i := 3) (oi := { dst := some 60, op := Op.load 37 (Operand.tmp 59), type := 37, pos := "replica.go:87", after := #[{ on := 2, ground := Ground.data }], guard := none }) (v := ({ n with wait := n.wait + 1 }).val (.slice A' ({ n with wait := n.wait + 1 }).log.length c')) (.head _) rfl (by kernel_rfl) (by kernel_rfl) (by kernel_rfl) (by kernel_rfl) (by kernel_rfl) (by kernel_rfl) (by rfl) (fun _ _ _ h => h) (by rfl) (fun W hSw => exec_load_at _ _ rfl (.pointer (some ⟨g, 0, none⟩)) _ hSw rfl) (holds2 (fun _ => (by rw [HWZ.out]; exact HLZ.out)) (fun _ => (by rw [HWZ.out]; exact MZ))) ?_
  try simp only [Act.put, List.setIfInBounds_toArray, List.set_cons_zero, List.set_cons_succ]
  refine wpAnyT_pure (i := 4) (oi := { dst := some 61, op := Op.move (Operand.tmp 4), type := 83, pos := "replica.go:87", after := #[{ on := 8, ground := Ground.gcOnly Departure.lateStores }], guard := none }) (v := ?_) rfl (by kernel_rfl) (by kernel_rfl) (by kernel_rfl) (by kernel_rfl) (fun _ _ _ h => h) (Or.inl ⟨by rfl, ?_⟩) (holds2 (fun _ => (by rw [HWZ.out]; exact HLZ.out)) (fun _ => (by rw [HWZ.out]; exact MZ))) ?_
  rotate_left
  · (intro W; go_simp; try with_reducible rfl)
  try simp only [Act.put, List.setIfInBounds_toArray, List.set_cons_zero, List.set_cons_succ]
  refine wpAnyT_pure (i := 5) (oi := { dst := some 62, op := Op.nilCheck (Operand.tmp 61), type := 0, pos := "replica.go:87", after := #[{ on := 4, ground := Ground.data }, { on := 8, ground := Ground.gcOnly Departure.lateStores }], guard := none }) (v := ?_) rfl (by kernel_rfl) (by kernel_rfl) (by kernel_rfl) (by kernel_rfl) (fun _ _ _ h => h) (Or.inl ⟨by rfl, ?_⟩) (holds2 (fun _ => (by rw [HWZ.out]; exact HLZ.out)) (fun _ => (by rw [HWZ.out]; exact MZ))) ?_
  rotate_left
  · (intro W; go_simp; try with_reducible rfl)
  try simp only [Act.put, List.setIfInBounds_toArray, List.set_cons_zero, List.set_cons_succ]
  refine wpAnyT_pure (i := 6) (oi := { dst := some 63, op := Op.fieldAddr 87 (Operand.tmp 62) 1, type := 0, pos := "replica.go:87", after := #[{ on := 5, ground := Ground.data }, { on := 8, ground := Ground.gcOnly Departure.lateStores }], guard := none }) (v := ?_) rfl (by kernel_rfl) (by kernel_rfl) (by kernel_rfl) (by kernel_rfl) (fun _ _ _ h => h) (Or.inl ⟨by rfl, ?_⟩) (holds2 (fun _ => (by rw [HWZ.out]; exact HLZ.out)) (fun _ => (by rw [HWZ.out]; exact MZ))) ?_
  rotate_left
  · (intro W; go_simp; try with_reducible rfl)
  try simp only [Act.put, List.setIfInBounds_toArray, List.set_cons_zero, List.set_cons_succ]
  refine wpAnyT_take 4 9 (i := 7) (oi := { dst := some 64, op := Op.load 38 (Operand.tmp 63), type := 38, pos := "replica.go:87", after := #[{ on := 6, ground := Ground.data }, { on := 8, ground := Ground.gcOnly Departure.lateStores }], guard := none }) (v := ?_) (.tail _ (.head _)) rfl (by kernel_rfl) (by kernel_rfl) (by kernel_rfl) (by kernel_rfl) (by kernel_rfl) (by kernel_rfl) (by rfl) (fun _ _ _ h => h) (by rfl) ?_ (holds2 (fun _ => (by rw [HWZ.out]; exact HLZ.out)) (fun _ => (by rw [HWZ.out]; exact MZ))) ?_
  rotate_left
  · (intro W hSw; (try dsimp only at hSw); go_simp; try with_reducible rfl)
  try simp only [Act.put, List.setIfInBounds_toArray, List.set_cons_zero, List.set_cons_succ]
  rw [HWZ.out]
  refine wpAnyT_ready (rs := [8]) (by kernel_rfl) (by simp) (AllT.cons (o := { dst := none, op := Op.store 37 (Operand.tmp 2) (Operand.tmp 60), type := 0, pos := "replica.go:87", after := #[{ on := 3, ground := Ground.data }, { on := 0, ground := Ground.phase }, { on := 1, ground := Ground.phase }, { on := 2, ground := Ground.phase }, { on := 3, ground := Ground.phase }, { on := 4, ground := Ground.textOnly Departure.lateStores }, { on := 5, ground := Ground.textOnly Departure.lateStores }, { on := 6, ground := Ground.textOnly Departure.lateStores }, { on := 7, ground := Ground.textOnly Departure.lateStores }], guard := none }) rfl (fun K hK => ?_) AllT.nil)
  refine wpT_store rfl 37 _ _ rfl _ _ _ STZ.out rfl rfl ?_
  obtain ⟨wy, hwy⟩ : ∃ wy, wz.setRow rb (({ n with wait := n.wait + 1 }).cells (.slice A' ({ n with wait := n.wait + 1 }).log.length c')) = wy := ⟨_, rfl⟩
  rw [hwy] at FZ
  rw [hwy]
  have MY : wy.cell? ⟨g, 19, none⟩ = some (.slice B' S'.length cb') := by rw [← hwy]; exact (Dz.off HPRB.out (only_row _)).all.2.2.2.2.2.2.2.2.2.2.2.2.2.2.2.2.2.2.2
  clear hwy STZ HLZ MZ Dz Gz Rz
  refine hK.out _ _ (holds2 (late_no (by kernel_rfl)) (fun _ => MY)) ?_
  clear hK K
  try simp only [Act.put, List.setIfInBounds_toArray, List.set_cons_zero, List.set_cons_succ]
  refine wpAnyT_ready (rs := [9]) (by kernel_rfl) (by simp) (AllT.cons (o := { dst := some 3, op := Op.assign (Operand.tmp 64), type := 38, pos := "replica.go:87", after := #[{ on := 7, ground := Ground.data }, { on := 8, ground := Ground.chain }, { on := 0, ground := Ground.phase }, { on := 1, ground := Ground.phase }, { on := 2, ground := Ground.phase }, { on := 3, ground := Ground.phase }, { on := 4, ground := Ground.phase }, { on := 5, ground := Ground.phase }, { on := 6, ground := Ground.phase }, { on := 7, ground := Ground.phase }, { on := 8, ground := Ground.phase }], guard := none }) rfl (fun K hK => ?_) AllT.nil)
  go_simp
  refine hK.out _ _ (holds2 (late_no (by kernel_rfl)) (late_no (by kernel_rfl))) ?_
  clear hK K
  try simp only [Act.put, List.setIfInBounds_toArray, List.set_cons_zero, List.set_cons_succ]
  refine wpAnyT_done (by kernel_rfl) ?_ _
  go_wp2_with fail
  refine bodyPost_ret (results_node_tmp rfl _ _ rb ({ n with wait := n.wait + 1 }) (.slice A' ({ n with wait := n.wait + 1 }).log.length c') rfl FZ.out.2) rfl ?_
  exact FZ.out.1
set_option maxRecDepth 100000 in
set_option maxHeartbeats 8000000 in
theorem tick_camp (n : Nd) (A : Option Addr) (c i : Nat) (w : World) (hid : n.id = i) (hi : i < 3) (hr : n.role ≠ 2) (hn : n.ok) (hA : Has w w.heap.size A (es n.log)) (hw0 : 0 ≤ n.wait) (hw1' : n.wait ≤ 1000) (hw2' : 5 + 3 * (i : Int) ≤ n.wait + 1) (ht : 0 ≤ n.term ∧ n.term < 1073741824) :
    Calls Try.prog 19 #[n.val (.slice A n.log.length c)] w (GotN w (n.camped i) (fun S => Msgs (fun j m => m = Nd.voteM { n with term := n.term + 1 } n.li n.lt j) n.id 3 S)) := by
  have hasA := hA.up (only_alloc (World.grownBy_alloc w (.cells (n.cells (.slice A n.log.length c)) 37) none) (.cells zeroN 37))
  obtain ⟨w1, hw1⟩ : ∃ w1, w.alloc (.cells (n.cells (.slice A n.log.length c)) 37) = w1 := ⟨_, rfl⟩
  obtain ⟨w2, hw2⟩ : ∃ w2, w1.alloc (.cells zeroN 37) = w2 := ⟨_, rfl⟩
  rw [hw1, hw2] at hasA
  have g2 : w.grownBy w2 none := by subst hw2; subst hw1; exact only_alloc (World.grownBy_alloc w _ none) _
  have z1 : w1.heap.size = w.heap.size + 1 := by subst hw1; simp
  have z2 : w2.heap.size = w.heap.size + 2 := by subst hw2; simp [z1]
  have n2 : NB w2 w.heap.size n (.slice A n.log.length c) := by
    subst hw2
    exact ⟨((World.grownBy_alloc w1 (.cells zeroN 37) none).block _ (by omega) (by simp)).trans (by subst hw1; exact heap_alloc_new w _)⟩
  have r2 : w2.heap[w.heap.size + 1]? = some (.cells zeroN 37 (0, 0)) := by subst hw2; rw [← z1]; exact heap_alloc_new w1 _
  have LD := n2.load
  have BG := begin_any n A c w2 hasA (by have := hn.len; omega)
  simp only [Nd.val] at LD BG
  have LDH := Lib.hid LD
  have BGH := Lib.hid BG
  have HR2 := Lib.hid r2
  have HG2 := Lib.hid g2
  have HZ2 := Lib.hid z2
  have HN := Lib.hid hn
  have HID := Lib.hid hid
  have HI := Lib.hid hi
  have HR := Lib.hid hr
  have ISN := fun W => Lib.hid (node_is n.id true (by rw [hid]; exact decide_eq_true (by omega)) W)
  have PA := fun W => Lib.hid (patience_is n.id (by omega) (by omega) W)
  have HW := Lib.hid (And.intro hw0 (And.intro hw1' hw2'))
  have HT := Lib.hid ht
  have hro : (n.role == 2) = false := by rw [beq_eq_false_iff_ne]; exact hr
  clear hid hi hr hw0 hw1' hw2' ht
  clear hasA LD BG n2 r2 g2 z2 hn hA
  unfold Nd.cells at hw1
  unfold zeroN at hw2
  unfold Nd.val
  obtain ⟨rb, hrb⟩ : ∃ rb, w.heap.size + 1 = rb := ⟨_, rfl⟩
  rw [hrb] at HR2 z1
  have HRB := Lib.hid hrb
  go_enter Try.func19, Try.ntmps19
  go_wp2_with (first | (refine wpList_load_at rfl 37 (Operand.tmp 1) rfl _ _ LDH.out rfl ?_) | (go_at_call 33; refine BGH.out.mono ?_))
  rintro _ w3 ⟨g, rfl, hD3, g3⟩
  have HP := Lib.hid (show ∀ k, k < w.heap.size → k < w2.heap.size from fun k hk => by have := HZ2.out; omega)
  have HPR := Lib.hid (show rb < w2.heap.size by have := HZ2.out; have := HRB.out; omega)
  have HG3 := Lib.hid (only_step HG2.out g3 (fun _ h => .inl h))
  have HR3 := Lib.hid ((g3.block rb HPR.out (by simp)).trans HR2.out)
  obtain ⟨P, hP⟩ : ∃ P : Nat → Prop, P = fun k => k < w2.heap.size := ⟨_, rfl⟩
  rw [← hP] at hD3
  have HPP := Lib.hid (show ∀ k, k < w.heap.size → P k from fun k hk => by rw [hP]; exact HP.out k hk)
  have HPRB := Lib.hid (show P rb by rw [hP]; exact HPR.out)
  have HD3 := Lib.hid hD3
  clear hP hD3 g3 hw1 hw2 LDH BGH HP HPR z1 HR2 HG2 hrb
  obtain ⟨L, M, D3⟩ := HD3.out
  obtain ⟨A', c', rfl⟩ := own_slice_w D3.log
  obtain ⟨B', cb', rfl⟩ := own_slice_w D3.sent
  obtain ⟨c0, c1, c2, c3, c4, c5, c6, c7, c8, c9, _⟩ := D3.all
  have f9 := D3.fr 9
  have hw0 := HW.out.1
  have hw1' := HW.out.2.1
  have hi := HI.out
  go_upto_region 3 with (go_at_call 34; refine (ISN _).out.mono ?_; rintro _ wx ⟨rfl, rfl⟩)
  obtain ⟨w4, hw4⟩ : ∃ Z, w3.setCell ⟨g, 9, none⟩ (.int .i64 (n.wait + 1)) = Z := ⟨_, rfl⟩
  have s4 := D3.set 9 (.int .i64 (n.wait + 1)) { n with wait := n.wait + 1 } rfl rfl
  rw [hw4] at s4
  rw [hw4]
  have D4 := s4.1
  have K4 := Lib.hid s4.2
  clear hw4 s4 c0 c1 c2 c3 c4 c5 c6 c7 c8 c9 f9 D3
  have i0 : w4.cell? ⟨g, 0, none⟩ = some (.int .i64 n.id) := D4.cell 0 _ rfl
  have i1 : w4.cell? ⟨g, 1, none⟩ = some (.int .i64 n.term) := D4.cell 1 _ rfl
  have i9 : w4.cell? ⟨g, 9, none⟩ = some (.int .i64 (n.wait + 1)) := D4.cell 9 _ rfl
  have tw : 5 + 3 * n.id ≤ n.wait + 1 := by have := HID.out; have := HW.out.2.2; omega
  have tt : n.term < 1073741824 := HT.out.2
  go_quiet ((go_at_call 46; exact Calls.quiet_of_same ((PA _).out.mono fun _ _ h => ⟨h.1, h.2.symm⟩)))
  clear i0 i1 i9
  have gq : w4.grownBy (w4.drewN nq) none := only_drewN (only_refl w4 none) nq
  obtain ⟨w5, hw5⟩ : ∃ w5, w4.drewN nq = w5 := ⟨_, rfl⟩
  rw [hw5] at gq
  rw [hw5]
  clear hw5
  have D5 := D4.grow gq
  have K5 := Lib.hid (K4.out.trans (D4.kept gq))
  have CC := Lib.hid (camp_core w5 P g { n with wait := n.wait + 1 } [] i HID.out HI.out ⟨_, _, D5⟩ ⟨HN.out.base, HN.out.len⟩ ⟨HT.out.1, by show n.term ≤ _; have := HT.out.2; omega⟩ (by simp))
  clear D4 K4 D5 gq hw0 hw1' hi
  go_wp2_with fail
  refine CC.out.mono ?_
  rintro _ w6 ⟨rfl, l, hM, ⟨L, M, D6⟩, hK6⟩
  have K6 := K5.out.trans hK6
  rw [List.nil_append] at D6
  have D6' : DrV w6 P g (n.camped i) L l M := D6
  have hlog : (n.camped i).log = n.log := (Nd.vset_same _ i).2.2.1
  obtain ⟨nn, hnn⟩ : ∃ x, n.camped i = x := ⟨_, rfl⟩
  rw [hnn] at D6'
  have HNN := Lib.hid hnn
  have HMM : Hid (Msgs (fun j m => m = Nd.voteM { n with term := n.term + 1 } n.li n.lt j) n.id 3 l) := hM
  clear hnn hlog D6 hM
  obtain ⟨A', c', rfl⟩ := own_slice_w D6'.log
  obtain ⟨B', cb', rfl⟩ := own_slice_w D6'.sent
  obtain ⟨S', hS'⟩ : ∃ S' : List Mg, l = S' := ⟨_, rfl⟩
  rw [hS'] at D6' HMM
  clear hS'
  have G6 : w.grownBy w6 none := ⟨K6.os.trans HG3.out.os, K6.tape.trans HG3.out.tape, K6.output.trans HG3.out.output, Nat.le_trans HG3.out.size K6.size, fun j hj _ => (K6.blk j (HPP.out j hj)).trans (HG3.out.block j hj (by simp))⟩
  have R6 : Hid (w6.heap[rb]? = some (.cells zeroN 37 (0, 0))) := (K6.blk rb HPRB.out).trans HR3.out
  have HG6 := Lib.hid G6
  clear K6 K5 G6 hK6 CC
  go_upto_region 8 with fail
  have Dz := D6'.drew
  have Gz := Lib.hid (only_drew HG6.out)
  have Rz : Hid (w6.drew.heap[rb]? = some (.cells zeroN 37 (0, 0))) := R6.out
  obtain ⟨wz, hwz⟩ : ∃ wz, w6.drew = wz := ⟨_, rfl⟩
  rw [hwz] at Dz Gz Rz
  have HWZ := Lib.hid hwz
  clear hwz
  have LZ := Dz.node
  have MZ := Dz.all.2.2.2.2.2.2.2.2.2.2.2.2.2.2.2.2.2.2.2
  have STZ := Lib.hid (store_node (nn) A' (nn).log.length c' Rz.out rfl)
  have FZ := Lib.hid (fin_got (R := fun S => Msgs (fun j m => m = Nd.voteM { n with term := n.term + 1 } n.li n.lt j) n.id 3 S) Dz Gz.out HPRB.out (by have := HRB.out; omega) HMM.out Rz.out)
  simp only [Nd.val] at LZ
  have HLZ := Lib.hid LZ
  clear LZ
  refine wp_region_late [(8, fun V => (Instr.loadAt 37 (.pointer (some ⟨g, 0, none⟩))).run Try.prog V = .ok ((nn).val (.slice A' (nn).log.length c')) V), (9, fun V => V.cell? ⟨g, 19, none⟩ = some (.slice B' S'.length cb'))] (by kernel_rfl) ?_
  refine wpAnyT_pure (i := 0) (oi := { dst := some 57, op := Op.move (Operand.tmp 4), type := 83, pos := "replica.go:87", after := #[], guard := none }) (v := ?_) rfl (by kernel_rfl) (by kernel_rfl) (by kernel_rfl) (by kernel_rfl) (fun _ _ _ h => h) (Or.inl ⟨by rfl, ?_⟩) (holds2 (fun _ => (by rw [HWZ.out]; exact HLZ.out)) (fun _ => (by rw [HWZ.out]; exact MZ))) ?_
  rotate_left
  · (intro W; go_simp; try with_reducible rfl)
  try simp only [Act.put, List.setIfInBounds_toArray, List.set_cons_zero, List.set_cons_succ]
  refine wpAnyT_pure (i := 1) (oi := { dst := some 58, op := Op.nilCheck (Operand.tmp 57), type := 0, pos := "replica.go:87", after := #[{ on := 0, ground := Ground.data }], guard := none }) (v := ?_) rfl (by kernel_rfl) (by kernel_rfl) (by kernel_rfl) (by kernel_rfl) (fun _ _ _ h => h) (Or.inl ⟨by rfl, ?_⟩) (holds2 (fun _ => (by rw [HWZ.out]; exact HLZ.out)) (fun _ => (by rw [HWZ.out]; exact MZ))) ?_
  rotate_left
  · (intro W; go_simp; try with_reducible rfl)
  try simp only [Act.put, List.setIfInBounds_toArray, List.set_cons_zero, List.set_cons_succ]
  refine wpAnyT_pure (i := 2) (oi := { dst := some 59, op := Op.fieldAddr 87 (Operand.tmp 58) 0, type := 0, pos := "replica.go:87", after := #[{ on := 1, ground := Ground.data }], guard := none }) (v := ?_) rfl (by kernel_rfl) (by kernel_rfl) (by kernel_rfl) (by kernel_rfl) (fun _ _ _ h => h) (Or.inl ⟨by rfl, ?_⟩) (holds2 (fun _ => (by rw [HWZ.out]; exact HLZ.out)) (fun _ => (by rw [HWZ.out]; exact MZ))) ?_
  rotate_left
  · (intro W; go_simp; try with_reducible rfl)
  try simp only [Act.put, List.setIfInBounds_toArray, List.set_cons_zero, List.set_cons_succ]
  refine wpAnyT_take 4 8 (i := 3) (oi := { dst := some 60, op := Op.load 37 (Operand.tmp 59), type := 37, pos := "replica.go:87", after := #[{ on := 2, ground := Ground.data }], guard := none }) (v := (nn).val (.slice A' (nn).log.length c')) (.head _) rfl (by kernel_rfl) (by kernel_rfl) (by kernel_rfl) (by kernel_rfl) (by kernel_rfl) (by kernel_rfl) (by rfl) (fun _ _ _ h => h) (by rfl) (fun W hSw => exec_load_at _ _ rfl (.pointer (some ⟨g, 0, none⟩)) _ hSw rfl) (holds2 (fun _ => (by rw [HWZ.out]; exact HLZ.out)) (fun _ => (by rw [HWZ.out]; exact MZ))) ?_
  try simp only [Act.put, List.setIfInBounds_toArray, List.set_cons_zero, List.set_cons_succ]
  refine wpAnyT_pure (i := 4) (oi := { dst := some 61, op := Op.move (Operand.tmp 4), type := 83, pos := "replica.go:87", after := #[{ on := 8, ground := Ground.gcOnly Departure.lateStores }], guard := none }) (v := ?_) rfl (by kernel_rfl) (by kernel_rfl) (by kernel_rfl) (by kernel_rfl) (fun _ _ _ h => h) (Or.inl ⟨by rfl, ?_⟩) (holds2 (fun _ => (by rw [HWZ.out]; exact HLZ.out)) (fun _ => (by rw [HWZ.out]; exact MZ))) ?_
  rotate_left
  · (intro W; go_simp; try with_reducible rfl)
  try simp only [Act.put, List.setIfInBounds_toArray, List.set_cons_zero, List.set_cons_succ]
  refine wpAnyT_pure (i := 5) (oi := { dst := some 62, op := Op.nilCheck (Operand.tmp 61), type := 0, pos := "replica.go:87", after := #[{ on := 4, ground := Ground.data }, { on := 8, ground := Ground.gcOnly Departure.lateStores }], guard := none }) (v := ?_) rfl (by kernel_rfl) (by kernel_rfl) (by kernel_rfl) (by kernel_rfl) (fun _ _ _ h => h) (Or.inl ⟨by rfl, ?_⟩) (holds2 (fun _ => (by rw [HWZ.out]; exact HLZ.out)) (fun _ => (by rw [HWZ.out]; exact MZ))) ?_
  rotate_left
  · (intro W; go_simp; try with_reducible rfl)
  try simp only [Act.put, List.setIfInBounds_toArray, List.set_cons_zero, List.set_cons_succ]
  refine wpAnyT_pure (i := 6) (oi := { dst := some 63, op := Op.fieldAddr 87 (Operand.tmp 62) 1, type := 0, pos := "replica.go:87", after := #[{ on := 5, ground := Ground.data }, { on := 8, ground := Ground.gcOnly Departure.lateStores }], guard := none }) (v := ?_) rfl (by kernel_rfl) (by kernel_rfl) (by kernel_rfl) (by kernel_rfl) (fun _ _ _ h => h) (Or.inl ⟨by rfl, ?_⟩) (holds2 (fun _ => (by rw [HWZ.out]; exact HLZ.out)) (fun _ => (by rw [HWZ.out]; exact MZ))) ?_
  rotate_left
  · (intro W; go_simp; try with_reducible rfl)
  try simp only [Act.put, List.setIfInBounds_toArray, List.set_cons_zero, List.set_cons_succ]
  refine wpAnyT_take 4 9 (i := 7) (oi := { dst := some 64, op := Op.load 38 (Operand.tmp 63), type := 38, pos := "replica.go:87", after := #[{ on := 6, ground := Ground.data }, { on := 8, ground := Ground.gcOnly Departure.lateStores }], guard := none }) (v := ?_) (.tail _ (.head _)) rfl (by kernel_rfl) (by kernel_rfl) (by kernel_rfl) (by kernel_rfl) (by kernel_rfl) (by kernel_rfl) (by rfl) (fun _ _ _ h => h) (by rfl) ?_ (holds2 (fun _ => (by rw [HWZ.out]; exact HLZ.out)) (fun _ => (by rw [HWZ.out]; exact MZ))) ?_
  rotate_left
  · (intro W hSw; (try dsimp only at hSw); go_simp; try with_reducible rfl)
  try simp only [Act.put, List.setIfInBounds_toArray, List.set_cons_zero, List.set_cons_succ]
  rw [HWZ.out]
  refine wpAnyT_ready (rs := [8]) (by kernel_rfl) (by simp) (AllT.cons (o := { dst := none, op := Op.store 37 (Operand.tmp 2) (Operand.tmp 60), type := 0, pos := "replica.go:87", after := #[{ on := 3, ground := Ground.data }, { on := 0, ground := Ground.phase }, { on := 1, ground := Ground.phase }, { on := 2, ground := Ground.phase }, { on := 3, ground := Ground.phase }, { on := 4, ground := Ground.textOnly Departure.lateStores }, { on := 5, ground := Ground.textOnly Departure.lateStores }, { on := 6, ground := Ground.textOnly Departure.lateStores }, { on := 7, ground := Ground.textOnly Departure.lateStores }], guard := none }) rfl (fun K hK => ?_) AllT.nil)
  refine wpT_store rfl 37 _ _ rfl _ _ _ STZ.out rfl rfl ?_
  obtain ⟨wy, hwy⟩ : ∃ wy, wz.setRow rb ((nn).cells (.slice A' (nn).log.length c')) = wy := ⟨_, rfl⟩
  rw [hwy] at FZ
  rw [hwy]
  have MY : wy.cell? ⟨g, 19, none⟩ = some (.slice B' S'.length cb') := by rw [← hwy]; exact (Dz.off HPRB.out (only_row _)).all.2.2.2.2.2.2.2.2.2.2.2.2.2.2.2.2.2.2.2
  clear hwy STZ HLZ MZ Dz Gz Rz
  refine hK.out _ _ (holds2 (late_no (by kernel_rfl)) (fun _ => MY)) ?_
  clear hK K
  try simp only [Act.put, List.setIfInBounds_toArray, List.set_cons_zero, List.set_cons_succ]
  refine wpAnyT_ready (rs := [9]) (by kernel_rfl) (by simp) (AllT.cons (o := { dst := some 3, op := Op.assign (Operand.tmp 64), type := 38, pos := "replica.go:87", after := #[{ on := 7, ground := Ground.data }, { on := 8, ground := Ground.chain }, { on := 0, ground := Ground.phase }, { on := 1, ground := Ground.phase }, { on := 2, ground := Ground.phase }, { on := 3, ground := Ground.phase }, { on := 4, ground := Ground.phase }, { on := 5, ground := Ground.phase }, { on := 6, ground := Ground.phase }, { on := 7, ground := Ground.phase }, { on := 8, ground := Ground.phase }], guard := none }) rfl (fun K hK => ?_) AllT.nil)
  go_simp
  refine hK.out _ _ (holds2 (late_no (by kernel_rfl)) (late_no (by kernel_rfl))) ?_
  clear hK K
  try simp only [Act.put, List.setIfInBounds_toArray, List.set_cons_zero, List.set_cons_succ]
  refine wpAnyT_done (by kernel_rfl) ?_ _
  go_wp2_with fail
  refine bodyPost_ret (results_node_tmp rfl _ _ rb (nn) (.slice A' (nn).log.length c') rfl FZ.out.2) rfl ?_
  exact HNN.out ▸ FZ.out.1
end Go.Proofs.Ytjhnipnocjoelaa
