/- replica.Take of a question for a vote. Conditions: numbers below 2^40. -/
import Derived.Test.YtjhnipnocjoelaaNo
namespace Go.Proofs.Ytjhnipnocjoelaa
open Go.RowKit Go.Deep
theorem holds6 {t1 t2 t3 t4 t5 t6 : Nat} {S1 S2 S3 S4 S5 S6 : World → Prop} {l : Array Bool} {w : World} (h1 : l.getD t1 true = false → S1 w) (h2 : l.getD t2 true = false → S2 w) (h3 : l.getD t3 true = false → S3 w) (h4 : l.getD t4 true = false → S4 w) (h5 : l.getD t5 true = false → S5 w) (h6 : l.getD t6 true = false → S6 w) : Holds [(t1, S1), (t2, S2), (t3, S3), (t4, S4), (t5, S5), (t6, S6)] l w := fun p hp e => by
  simp only [List.mem_cons, List.not_mem_nil, or_false] at hp
  rcases hp with rfl | rfl | rfl | rfl | rfl | rfl
  · exact h1 e
  · exact h2 e
  · exact h3 e
  · exact h4 e
  · exact h5 e
  · exact h6 e
/-- What a message's term makes of a node. -/
def Nd.seen (n : Nd) (m : Mg) : Nd := if n.term < m.term then { n with term := m.term, vote := -1, role := 0, v0 := false, v1 := false, v2 := false } else n
theorem Nd.seen_same (n : Nd) (m : Mg) : (n.seen m).id = n.id ∧ (n.seen m).log = n.log ∧ (n.seen m).base = n.base := by
  unfold Nd.seen
  split <;> exact ⟨rfl, rfl, rfl⟩
/-- A message that is taken. -/
structure Mg.fit (m : Mg) (n : Nd) (i : Nat) : Prop where
  id : n.id = i
  lt : i < 3
  fr : 0 ≤ m.fr ∧ m.fr ≤ 2
  ne : m.fr ≠ n.id
  dst : m.dst = n.id
  kind : 1 ≤ m.kind ∧ m.kind ≤ 5
  term : 0 ≤ m.term ∧ m.term ≤ 1073741824
  ok : m.ok
set_option maxRecDepth 100000 in
set_option maxHeartbeats 8000000 in
theorem take_vote (n : Nd) (A : Option Addr) (c i : Nat) (m : Mg) (w : World) (hm : m.fit n i) (hkind : m.kind = 1) (hn : n.ok) (hA : Has w w.heap.size A (es n.log)) :
    Calls Try.prog 14 #[n.val (.slice A n.log.length c), m.val] w (GotN w ((n.seen m).voted m) (fun S => S = [(n.seen m).ansM m])) := by
  obtain ⟨Am, km, cm', hent⟩ := hm.ok
  have hasA := ((hA.up (World.grownBy_alloc w (.cells (n.cells (.slice A n.log.length c)) 37) none)).up (World.grownBy_alloc _ (.cells m.arr 25) none)).up (World.grownBy_alloc _ (.cells zeroN 37) none)
  obtain ⟨w1, hw1⟩ : ∃ w1, w.alloc (.cells (n.cells (.slice A n.log.length c)) 37) = w1 := ⟨_, rfl⟩
  obtain ⟨wm, hwm⟩ : ∃ wm, w1.alloc (.cells m.arr 25) = wm := ⟨_, rfl⟩
  obtain ⟨w2, hw2⟩ : ∃ w2, wm.alloc (.cells zeroN 37) = w2 := ⟨_, rfl⟩
  rw [hw1, hwm, hw2] at hasA
  have z1 : w1.heap.size = w.heap.size + 1 := by subst hw1; simp
  have zm : wm.heap.size = w.heap.size + 2 := by subst hwm; simp [z1]
  have z2 : w2.heap.size = w.heap.size + 3 := by subst hw2; simp [zm]
  have ga : w.grownBy w1 none := by subst hw1; exact World.grownBy_alloc w _ none
  have gb : w1.grownBy wm none := by subst hwm; exact World.grownBy_alloc w1 _ none
  have gc : wm.grownBy w2 none := by subst hw2; exact World.grownBy_alloc wm _ none
  have g2 : w.grownBy w2 none := only_step (only_step ga gb (fun _ h => .inl h)) gc (fun _ h => .inl h)
  have n2 : NB w2 w.heap.size n (.slice A n.log.length c) := ⟨(gc.block _ (by omega) (by simp)).trans ((gb.block _ (by omega) (by simp)).trans (by subst hw1; exact heap_alloc_new w _))⟩
  have mm2 : MB w2 (w.heap.size + 1) m := ⟨(gc.block _ (by omega) (by simp)).trans (by subst hwm; rw [← z1]; exact heap_alloc_new w1 _)⟩
  have r2 : w2.heap[w.heap.size + 2]? = some (.cells zeroN 37 (0, 0)) := by subst hw2; rw [← zm]; exact heap_alloc_new wm _
  have LD := n2.load
  have BG := begin_any n A c w2 hasA (by have := hn.len; omega)
  simp only [Nd.val] at LD BG
  have LDH := Lib.hid LD
  have BGH := Lib.hid BG
  have HR2 := Lib.hid r2
  have HG2 := Lib.hid g2
  have HZ2 := Lib.hid z2
  have HN := Lib.hid hn
  have HMM2 := Lib.hid mm2
  have HM := Lib.hid hm
  clear hasA LD BG n2 r2 g2 z2 hn hA ga gb gc mm2
  unfold Nd.cells at hw1
  unfold Mg.arr at hwm
  unfold zeroN at hw2
  unfold Nd.val Mg.val
  rw [hent] at hwm
  rw [hent]
  obtain ⟨rb, hrb⟩ : ∃ rb, w.heap.size + 2 = rb := ⟨_, rfl⟩
  obtain ⟨mb, hmb⟩ : ∃ mb, w.heap.size + 1 = mb := ⟨_, rfl⟩
  rw [hrb] at HR2 zm
  rw [hmb] at HMM2 z1
  have HRB := Lib.hid hrb
  have HMB := Lib.hid hmb
  have ISA := fun W => Lib.hid (node_is n.id true (decide_eq_true (by have := hm.id; have := hm.lt; omega)) W)
  have ISB := fun W => Lib.hid (node_is m.fr true (decide_eq_true (by have := hm.fr; omega)) W)
  have WA := fun W => Lib.hid (within_is m.kind 1 5 W)
  have WB := fun W => Lib.hid (within_is m.term 0 1073741824 W)
  rw [decide_eq_true (show 1 ≤ m.kind ∧ m.kind ≤ 5 from hm.kind)] at WA
  rw [decide_eq_true (show 0 ≤ m.term ∧ m.term ≤ 1073741824 from hm.term)] at WB
  have k1 : (m.fr == n.id) = false := by rw [beq_eq_false_iff_ne]; exact hm.ne
  have k2 : (m.dst != n.id) = false := by rw [hm.dst]; simp
  have HKD := Lib.hid hkind
  have HENT := Lib.hid hent
  clear hm hkind hent
  go_enter Try.func14, Try.ntmps14
  go_wp2_with (first | (refine wpList_load_at rfl 37 (Operand.tmp 2) rfl _ _ LDH.out rfl ?_) | (go_at_call 33; refine BGH.out.mono ?_))
  rintro _ w3 ⟨g, rfl, hD3, g3⟩
  have HP := Lib.hid (show ∀ k, k < w.heap.size → k < w2.heap.size from fun k hk => by have := HZ2.out; omega)
  have HPR := Lib.hid (show rb < w2.heap.size by have := HZ2.out; have := HRB.out; omega)
  have HPM := Lib.hid (show mb < w2.heap.size by have := HZ2.out; have := HMB.out; omega)
  have HG3 := Lib.hid (only_step HG2.out g3 (fun _ h => .inl h))
  have HR3 := Lib.hid ((g3.block rb HPR.out (by simp)).trans HR2.out)
  have mb3 := HMM2.out.grow g3
  obtain ⟨P, hP⟩ : ∃ P : Nat → Prop, P = fun k => k < w2.heap.size := ⟨_, rfl⟩
  rw [← hP] at hD3
  have HPP := Lib.hid (show ∀ k, k < w.heap.size → P k from fun k hk => by rw [hP]; exact HP.out k hk)
  have HPRB := Lib.hid (show P rb by rw [hP]; exact HPR.out)
  have HPMB := Lib.hid (show P mb by rw [hP]; exact HPM.out)
  obtain ⟨L, M, D3⟩ := hD3
  clear hP g3 hw1 hwm hw2 LDH BGH HP HPR HPM z1 zm HR2 HG2 HMM2 hrb hmb
  obtain ⟨A', c', rfl⟩ := own_slice_w D3.log
  go_upto_region 2 with fail
  obtain ⟨c0, c1, c2, c3, c4, c5, c6, c7, c8, c9, c10, c11, c12, _⟩ := D3.all
  obtain ⟨m0, m1, m2, m3, m4, m5, m6, m7, m8, m9⟩ := mb3.all
  refine wp_region_late [(7, fun V => V.cell? ⟨g, 0, none⟩ = some (.int .i64 n.id) ∧ V.cell? ⟨mb, 0, none⟩ = some (.int .i64 m.kind) ∧ V.cell? ⟨mb, 1, none⟩ = some (.int .i64 m.fr) ∧ V.cell? ⟨mb, 2, none⟩ = some (.int .i64 m.dst) ∧ V.cell? ⟨mb, 3, none⟩ = some (.int .i64 m.term)), (13, fun V => V.cell? ⟨g, 0, none⟩ = some (.int .i64 n.id) ∧ V.cell? ⟨mb, 0, none⟩ = some (.int .i64 m.kind) ∧ V.cell? ⟨mb, 1, none⟩ = some (.int .i64 m.fr) ∧ V.cell? ⟨mb, 2, none⟩ = some (.int .i64 m.dst) ∧ V.cell? ⟨mb, 3, none⟩ = some (.int .i64 m.term)), (23, fun V => V.cell? ⟨g, 0, none⟩ = some (.int .i64 n.id) ∧ V.cell? ⟨mb, 0, none⟩ = some (.int .i64 m.kind) ∧ V.cell? ⟨mb, 1, none⟩ = some (.int .i64 m.fr) ∧ V.cell? ⟨mb, 2, none⟩ = some (.int .i64 m.dst) ∧ V.cell? ⟨mb, 3, none⟩ = some (.int .i64 m.term)), (33, fun V => V.cell? ⟨g, 0, none⟩ = some (.int .i64 n.id) ∧ V.cell? ⟨mb, 0, none⟩ = some (.int .i64 m.kind) ∧ V.cell? ⟨mb, 1, none⟩ = some (.int .i64 m.fr) ∧ V.cell? ⟨mb, 2, none⟩ = some (.int .i64 m.dst) ∧ V.cell? ⟨mb, 3, none⟩ = some (.int .i64 m.term)), (39, fun V => V.cell? ⟨g, 0, none⟩ = some (.int .i64 n.id) ∧ V.cell? ⟨mb, 0, none⟩ = some (.int .i64 m.kind) ∧ V.cell? ⟨mb, 1, none⟩ = some (.int .i64 m.fr) ∧ V.cell? ⟨mb, 2, none⟩ = some (.int .i64 m.dst) ∧ V.cell? ⟨mb, 3, none⟩ = some (.int .i64 m.term)), (44, fun V => V.cell? ⟨g, 0, none⟩ = some (.int .i64 n.id) ∧ V.cell? ⟨mb, 0, none⟩ = some (.int .i64 m.kind) ∧ V.cell? ⟨mb, 1, none⟩ = some (.int .i64 m.fr) ∧ V.cell? ⟨mb, 2, none⟩ = some (.int .i64 m.dst) ∧ V.cell? ⟨mb, 3, none⟩ = some (.int .i64 m.term))] (by kernel_rfl) ?_
  refine wpAnyT_pure (i := 0) (oi := { dst := some 10, op := Op.move (Operand.tmp 6), type := 83, pos := "replica.go:96", after := #[], guard := none }) (v := ?_) rfl (by kernel_rfl) (by kernel_rfl) (by kernel_rfl) (by kernel_rfl) (fun _ _ _ h => h) (Or.inl ⟨by rfl, ?_⟩) (holds6 (fun _ => (show w3.drew.cell? ⟨g, 0, none⟩ = some (.int .i64 n.id) ∧ w3.drew.cell? ⟨mb, 0, none⟩ = some (.int .i64 m.kind) ∧ w3.drew.cell? ⟨mb, 1, none⟩ = some (.int .i64 m.fr) ∧ w3.drew.cell? ⟨mb, 2, none⟩ = some (.int .i64 m.dst) ∧ w3.drew.cell? ⟨mb, 3, none⟩ = some (.int .i64 m.term) from ⟨c0, m0, m1, m2, m3⟩)) (fun _ => (show w3.drew.cell? ⟨g, 0, none⟩ = some (.int .i64 n.id) ∧ w3.drew.cell? ⟨mb, 0, none⟩ = some (.int .i64 m.kind) ∧ w3.drew.cell? ⟨mb, 1, none⟩ = some (.int .i64 m.fr) ∧ w3.drew.cell? ⟨mb, 2, none⟩ = some (.int .i64 m.dst) ∧ w3.drew.cell? ⟨mb, 3, none⟩ = some (.int .i64 m.term) from ⟨c0, m0, m1, m2, m3⟩)) (fun _ => (show w3.drew.cell? ⟨g, 0, none⟩ = some (.int .i64 n.id) ∧ w3.drew.cell? ⟨mb, 0, none⟩ = some (.int .i64 m.kind) ∧ w3.drew.cell? ⟨mb, 1, none⟩ = some (.int .i64 m.fr) ∧ w3.drew.cell? ⟨mb, 2, none⟩ = some (.int .i64 m.dst) ∧ w3.drew.cell? ⟨mb, 3, none⟩ = some (.int .i64 m.term) from ⟨c0, m0, m1, m2, m3⟩)) (fun _ => (show w3.drew.cell? ⟨g, 0, none⟩ = some (.int .i64 n.id) ∧ w3.drew.cell? ⟨mb, 0, none⟩ = some (.int .i64 m.kind) ∧ w3.drew.cell? ⟨mb, 1, none⟩ = some (.int .i64 m.fr) ∧ w3.drew.cell? ⟨mb, 2, none⟩ = some (.int .i64 m.dst) ∧ w3.drew.cell? ⟨mb, 3, none⟩ = some (.int .i64 m.term) from ⟨c0, m0, m1, m2, m3⟩)) (fun _ => (show w3.drew.cell? ⟨g, 0, none⟩ = some (.int .i64 n.id) ∧ w3.drew.cell? ⟨mb, 0, none⟩ = some (.int .i64 m.kind) ∧ w3.drew.cell? ⟨mb, 1, none⟩ = some (.int .i64 m.fr) ∧ w3.drew.cell? ⟨mb, 2, none⟩ = some (.int .i64 m.dst) ∧ w3.drew.cell? ⟨mb, 3, none⟩ = some (.int .i64 m.term) from ⟨c0, m0, m1, m2, m3⟩)) (fun _ => (show w3.drew.cell? ⟨g, 0, none⟩ = some (.int .i64 n.id) ∧ w3.drew.cell? ⟨mb, 0, none⟩ = some (.int .i64 m.kind) ∧ w3.drew.cell? ⟨mb, 1, none⟩ = some (.int .i64 m.fr) ∧ w3.drew.cell? ⟨mb, 2, none⟩ = some (.int .i64 m.dst) ∧ w3.drew.cell? ⟨mb, 3, none⟩ = some (.int .i64 m.term) from ⟨c0, m0, m1, m2, m3⟩))) ?_
  rotate_left
  · (intro W; go_simp; try with_reducible rfl)
  try simp only [Act.put, List.setIfInBounds_toArray, List.set_cons_zero, List.set_cons_succ]
  refine wpAnyT_pure (i := 1) (oi := { dst := some 11, op := Op.nilCheck (Operand.tmp 10), type := 0, pos := "replica.go:96", after := #[{ on := 0, ground := Ground.data }], guard := none }) (v := ?_) rfl (by kernel_rfl) (by kernel_rfl) (by kernel_rfl) (by kernel_rfl) (fun _ _ _ h => h) (Or.inl ⟨by rfl, ?_⟩) (holds6 (fun _ => (show w3.drew.cell? ⟨g, 0, none⟩ = some (.int .i64 n.id) ∧ w3.drew.cell? ⟨mb, 0, none⟩ = some (.int .i64 m.kind) ∧ w3.drew.cell? ⟨mb, 1, none⟩ = some (.int .i64 m.fr) ∧ w3.drew.cell? ⟨mb, 2, none⟩ = some (.int .i64 m.dst) ∧ w3.drew.cell? ⟨mb, 3, none⟩ = some (.int .i64 m.term) from ⟨c0, m0, m1, m2, m3⟩)) (fun _ => (show w3.drew.cell? ⟨g, 0, none⟩ = some (.int .i64 n.id) ∧ w3.drew.cell? ⟨mb, 0, none⟩ = some (.int .i64 m.kind) ∧ w3.drew.cell? ⟨mb, 1, none⟩ = some (.int .i64 m.fr) ∧ w3.drew.cell? ⟨mb, 2, none⟩ = some (.int .i64 m.dst) ∧ w3.drew.cell? ⟨mb, 3, none⟩ = some (.int .i64 m.term) from ⟨c0, m0, m1, m2, m3⟩)) (fun _ => (show w3.drew.cell? ⟨g, 0, none⟩ = some (.int .i64 n.id) ∧ w3.drew.cell? ⟨mb, 0, none⟩ = some (.int .i64 m.kind) ∧ w3.drew.cell? ⟨mb, 1, none⟩ = some (.int .i64 m.fr) ∧ w3.drew.cell? ⟨mb, 2, none⟩ = some (.int .i64 m.dst) ∧ w3.drew.cell? ⟨mb, 3, none⟩ = some (.int .i64 m.term) from ⟨c0, m0, m1, m2, m3⟩)) (fun _ => (show w3.drew.cell? ⟨g, 0, none⟩ = some (.int .i64 n.id) ∧ w3.drew.cell? ⟨mb, 0, none⟩ = some (.int .i64 m.kind) ∧ w3.drew.cell? ⟨mb, 1, none⟩ = some (.int .i64 m.fr) ∧ w3.drew.cell? ⟨mb, 2, none⟩ = some (.int .i64 m.dst) ∧ w3.drew.cell? ⟨mb, 3, none⟩ = some (.int .i64 m.term) from ⟨c0, m0, m1, m2, m3⟩)) (fun _ => (show w3.drew.cell? ⟨g, 0, none⟩ = some (.int .i64 n.id) ∧ w3.drew.cell? ⟨mb, 0, none⟩ = some (.int .i64 m.kind) ∧ w3.drew.cell? ⟨mb, 1, none⟩ = some (.int .i64 m.fr) ∧ w3.drew.cell? ⟨mb, 2, none⟩ = some (.int .i64 m.dst) ∧ w3.drew.cell? ⟨mb, 3, none⟩ = some (.int .i64 m.term) from ⟨c0, m0, m1, m2, m3⟩)) (fun _ => (show w3.drew.cell? ⟨g, 0, none⟩ = some (.int .i64 n.id) ∧ w3.drew.cell? ⟨mb, 0, none⟩ = some (.int .i64 m.kind) ∧ w3.drew.cell? ⟨mb, 1, none⟩ = some (.int .i64 m.fr) ∧ w3.drew.cell? ⟨mb, 2, none⟩ = some (.int .i64 m.dst) ∧ w3.drew.cell? ⟨mb, 3, none⟩ = some (.int .i64 m.term) from ⟨c0, m0, m1, m2, m3⟩))) ?_
  rotate_left
  · (intro W; go_simp; try with_reducible rfl)
  try simp only [Act.put, List.setIfInBounds_toArray, List.set_cons_zero, List.set_cons_succ]
  refine wpAnyT_pure (i := 2) (oi := { dst := some 12, op := Op.fieldAddr 87 (Operand.tmp 11) 0, type := 0, pos := "replica.go:96", after := #[{ on := 1, ground := Ground.data }], guard := none }) (v := ?_) rfl (by kernel_rfl) (by kernel_rfl) (by kernel_rfl) (by kernel_rfl) (fun _ _ _ h => h) (Or.inl ⟨by rfl, ?_⟩) (holds6 (fun _ => (show w3.drew.cell? ⟨g, 0, none⟩ = some (.int .i64 n.id) ∧ w3.drew.cell? ⟨mb, 0, none⟩ = some (.int .i64 m.kind) ∧ w3.drew.cell? ⟨mb, 1, none⟩ = some (.int .i64 m.fr) ∧ w3.drew.cell? ⟨mb, 2, none⟩ = some (.int .i64 m.dst) ∧ w3.drew.cell? ⟨mb, 3, none⟩ = some (.int .i64 m.term) from ⟨c0, m0, m1, m2, m3⟩)) (fun _ => (show w3.drew.cell? ⟨g, 0, none⟩ = some (.int .i64 n.id) ∧ w3.drew.cell? ⟨mb, 0, none⟩ = some (.int .i64 m.kind) ∧ w3.drew.cell? ⟨mb, 1, none⟩ = some (.int .i64 m.fr) ∧ w3.drew.cell? ⟨mb, 2, none⟩ = some (.int .i64 m.dst) ∧ w3.drew.cell? ⟨mb, 3, none⟩ = some (.int .i64 m.term) from ⟨c0, m0, m1, m2, m3⟩)) (fun _ => (show w3.drew.cell? ⟨g, 0, none⟩ = some (.int .i64 n.id) ∧ w3.drew.cell? ⟨mb, 0, none⟩ = some (.int .i64 m.kind) ∧ w3.drew.cell? ⟨mb, 1, none⟩ = some (.int .i64 m.fr) ∧ w3.drew.cell? ⟨mb, 2, none⟩ = some (.int .i64 m.dst) ∧ w3.drew.cell? ⟨mb, 3, none⟩ = some (.int .i64 m.term) from ⟨c0, m0, m1, m2, m3⟩)) (fun _ => (show w3.drew.cell? ⟨g, 0, none⟩ = some (.int .i64 n.id) ∧ w3.drew.cell? ⟨mb, 0, none⟩ = some (.int .i64 m.kind) ∧ w3.drew.cell? ⟨mb, 1, none⟩ = some (.int .i64 m.fr) ∧ w3.drew.cell? ⟨mb, 2, none⟩ = some (.int .i64 m.dst) ∧ w3.drew.cell? ⟨mb, 3, none⟩ = some (.int .i64 m.term) from ⟨c0, m0, m1, m2, m3⟩)) (fun _ => (show w3.drew.cell? ⟨g, 0, none⟩ = some (.int .i64 n.id) ∧ w3.drew.cell? ⟨mb, 0, none⟩ = some (.int .i64 m.kind) ∧ w3.drew.cell? ⟨mb, 1, none⟩ = some (.int .i64 m.fr) ∧ w3.drew.cell? ⟨mb, 2, none⟩ = some (.int .i64 m.dst) ∧ w3.drew.cell? ⟨mb, 3, none⟩ = some (.int .i64 m.term) from ⟨c0, m0, m1, m2, m3⟩)) (fun _ => (show w3.drew.cell? ⟨g, 0, none⟩ = some (.int .i64 n.id) ∧ w3.drew.cell? ⟨mb, 0, none⟩ = some (.int .i64 m.kind) ∧ w3.drew.cell? ⟨mb, 1, none⟩ = some (.int .i64 m.fr) ∧ w3.drew.cell? ⟨mb, 2, none⟩ = some (.int .i64 m.dst) ∧ w3.drew.cell? ⟨mb, 3, none⟩ = some (.int .i64 m.term) from ⟨c0, m0, m1, m2, m3⟩))) ?_
  rotate_left
  · (intro W; go_simp; try with_reducible rfl)
  try simp only [Act.put, List.setIfInBounds_toArray, List.set_cons_zero, List.set_cons_succ]
  refine wpAnyT_pure (i := 3) (oi := { dst := some 13, op := Op.fieldAddr 37 (Operand.tmp 12) 0, type := 0, pos := "replica.go:96", after := #[{ on := 2, ground := Ground.data }], guard := none }) (v := ?_) rfl (by kernel_rfl) (by kernel_rfl) (by kernel_rfl) (by kernel_rfl) (fun _ _ _ h => h) (Or.inl ⟨by rfl, ?_⟩) (holds6 (fun _ => (show w3.drew.cell? ⟨g, 0, none⟩ = some (.int .i64 n.id) ∧ w3.drew.cell? ⟨mb, 0, none⟩ = some (.int .i64 m.kind) ∧ w3.drew.cell? ⟨mb, 1, none⟩ = some (.int .i64 m.fr) ∧ w3.drew.cell? ⟨mb, 2, none⟩ = some (.int .i64 m.dst) ∧ w3.drew.cell? ⟨mb, 3, none⟩ = some (.int .i64 m.term) from ⟨c0, m0, m1, m2, m3⟩)) (fun _ => (show w3.drew.cell? ⟨g, 0, none⟩ = some (.int .i64 n.id) ∧ w3.drew.cell? ⟨mb, 0, none⟩ = some (.int .i64 m.kind) ∧ w3.drew.cell? ⟨mb, 1, none⟩ = some (.int .i64 m.fr) ∧ w3.drew.cell? ⟨mb, 2, none⟩ = some (.int .i64 m.dst) ∧ w3.drew.cell? ⟨mb, 3, none⟩ = some (.int .i64 m.term) from ⟨c0, m0, m1, m2, m3⟩)) (fun _ => (show w3.drew.cell? ⟨g, 0, none⟩ = some (.int .i64 n.id) ∧ w3.drew.cell? ⟨mb, 0, none⟩ = some (.int .i64 m.kind) ∧ w3.drew.cell? ⟨mb, 1, none⟩ = some (.int .i64 m.fr) ∧ w3.drew.cell? ⟨mb, 2, none⟩ = some (.int .i64 m.dst) ∧ w3.drew.cell? ⟨mb, 3, none⟩ = some (.int .i64 m.term) from ⟨c0, m0, m1, m2, m3⟩)) (fun _ => (show w3.drew.cell? ⟨g, 0, none⟩ = some (.int .i64 n.id) ∧ w3.drew.cell? ⟨mb, 0, none⟩ = some (.int .i64 m.kind) ∧ w3.drew.cell? ⟨mb, 1, none⟩ = some (.int .i64 m.fr) ∧ w3.drew.cell? ⟨mb, 2, none⟩ = some (.int .i64 m.dst) ∧ w3.drew.cell? ⟨mb, 3, none⟩ = some (.int .i64 m.term) from ⟨c0, m0, m1, m2, m3⟩)) (fun _ => (show w3.drew.cell? ⟨g, 0, none⟩ = some (.int .i64 n.id) ∧ w3.drew.cell? ⟨mb, 0, none⟩ = some (.int .i64 m.kind) ∧ w3.drew.cell? ⟨mb, 1, none⟩ = some (.int .i64 m.fr) ∧ w3.drew.cell? ⟨mb, 2, none⟩ = some (.int .i64 m.dst) ∧ w3.drew.cell? ⟨mb, 3, none⟩ = some (.int .i64 m.term) from ⟨c0, m0, m1, m2, m3⟩)) (fun _ => (show w3.drew.cell? ⟨g, 0, none⟩ = some (.int .i64 n.id) ∧ w3.drew.cell? ⟨mb, 0, none⟩ = some (.int .i64 m.kind) ∧ w3.drew.cell? ⟨mb, 1, none⟩ = some (.int .i64 m.fr) ∧ w3.drew.cell? ⟨mb, 2, none⟩ = some (.int .i64 m.dst) ∧ w3.drew.cell? ⟨mb, 3, none⟩ = some (.int .i64 m.term) from ⟨c0, m0, m1, m2, m3⟩))) ?_
  rotate_left
  · (intro W; go_simp; try with_reducible rfl)
  try simp only [Act.put, List.setIfInBounds_toArray, List.set_cons_zero, List.set_cons_succ]
  refine wpAnyT_take 6 7 (i := 4) (oi := { dst := some 14, op := Op.load 3 (Operand.tmp 13), type := 3, pos := "replica.go:96", after := #[{ on := 3, ground := Ground.data }], guard := none }) (v := ?_) (.head _) rfl (by kernel_rfl) (by kernel_rfl) (by kernel_rfl) (by kernel_rfl) (by kernel_rfl) (by kernel_rfl) (by rfl) (fun _ _ _ h => h) (by rfl) ?_ (holds6 (fun _ => (show w3.drew.cell? ⟨g, 0, none⟩ = some (.int .i64 n.id) ∧ w3.drew.cell? ⟨mb, 0, none⟩ = some (.int .i64 m.kind) ∧ w3.drew.cell? ⟨mb, 1, none⟩ = some (.int .i64 m.fr) ∧ w3.drew.cell? ⟨mb, 2, none⟩ = some (.int .i64 m.dst) ∧ w3.drew.cell? ⟨mb, 3, none⟩ = some (.int .i64 m.term) from ⟨c0, m0, m1, m2, m3⟩)) (fun _ => (show w3.drew.cell? ⟨g, 0, none⟩ = some (.int .i64 n.id) ∧ w3.drew.cell? ⟨mb, 0, none⟩ = some (.int .i64 m.kind) ∧ w3.drew.cell? ⟨mb, 1, none⟩ = some (.int .i64 m.fr) ∧ w3.drew.cell? ⟨mb, 2, none⟩ = some (.int .i64 m.dst) ∧ w3.drew.cell? ⟨mb, 3, none⟩ = some (.int .i64 m.term) from ⟨c0, m0, m1, m2, m3⟩)) (fun _ => (show w3.drew.cell? ⟨g, 0, none⟩ = some (.int .i64 n.id) ∧ w3.drew.cell? ⟨mb, 0, none⟩ = some (.int .i64 m.kind) ∧ w3.drew.cell? ⟨mb, 1, none⟩ = some (.int .i64 m.fr) ∧ w3.drew.cell? ⟨mb, 2, none⟩ = some (.int .i64 m.dst) ∧ w3.drew.cell? ⟨mb, 3, none⟩ = some (.int .i64 m.term) from ⟨c0, m0, m1, m2, m3⟩)) (fun _ => (show w3.drew.cell? ⟨g, 0, none⟩ = some (.int .i64 n.id) ∧ w3.drew.cell? ⟨mb, 0, none⟩ = some (.int .i64 m.kind) ∧ w3.drew.cell? ⟨mb, 1, none⟩ = some (.int .i64 m.fr) ∧ w3.drew.cell? ⟨mb, 2, none⟩ = some (.int .i64 m.dst) ∧ w3.drew.cell? ⟨mb, 3, none⟩ = some (.int .i64 m.term) from ⟨c0, m0, m1, m2, m3⟩)) (fun _ => (show w3.drew.cell? ⟨g, 0, none⟩ = some (.int .i64 n.id) ∧ w3.drew.cell? ⟨mb, 0, none⟩ = some (.int .i64 m.kind) ∧ w3.drew.cell? ⟨mb, 1, none⟩ = some (.int .i64 m.fr) ∧ w3.drew.cell? ⟨mb, 2, none⟩ = some (.int .i64 m.dst) ∧ w3.drew.cell? ⟨mb, 3, none⟩ = some (.int .i64 m.term) from ⟨c0, m0, m1, m2, m3⟩)) (fun _ => (show w3.drew.cell? ⟨g, 0, none⟩ = some (.int .i64 n.id) ∧ w3.drew.cell? ⟨mb, 0, none⟩ = some (.int .i64 m.kind) ∧ w3.drew.cell? ⟨mb, 1, none⟩ = some (.int .i64 m.fr) ∧ w3.drew.cell? ⟨mb, 2, none⟩ = some (.int .i64 m.dst) ∧ w3.drew.cell? ⟨mb, 3, none⟩ = some (.int .i64 m.term) from ⟨c0, m0, m1, m2, m3⟩))) ?_
  rotate_left
  · (intro W hSw; (try dsimp only at hSw); go_simp; try with_reducible rfl)
  try simp only [Act.put, List.setIfInBounds_toArray, List.set_cons_zero, List.set_cons_succ]
  refine wpAnyT_call 6 7 (i := 5) (oi := { dst := some 15, op := Op.call { callee := Callee.value (Operand.func 34), args := #[Operand.tmp 14], argTypes := #[3] }, type := 4, pos := "replica.go:96", after := #[{ on := 4, ground := Ground.data }], guard := none }) (v := ?_) (g := 34) (args := ?_) (.head _) rfl (by kernel_rfl) (by kernel_rfl) (by kernel_rfl) (by kernel_rfl) (by kernel_rfl) (by kernel_rfl) (by rfl) (fun _ _ _ h => h) (by rfl) ?_ ?_ (holds6 (fun _ => (show w3.drew.cell? ⟨g, 0, none⟩ = some (.int .i64 n.id) ∧ w3.drew.cell? ⟨mb, 0, none⟩ = some (.int .i64 m.kind) ∧ w3.drew.cell? ⟨mb, 1, none⟩ = some (.int .i64 m.fr) ∧ w3.drew.cell? ⟨mb, 2, none⟩ = some (.int .i64 m.dst) ∧ w3.drew.cell? ⟨mb, 3, none⟩ = some (.int .i64 m.term) from ⟨c0, m0, m1, m2, m3⟩)) (fun _ => (show w3.drew.cell? ⟨g, 0, none⟩ = some (.int .i64 n.id) ∧ w3.drew.cell? ⟨mb, 0, none⟩ = some (.int .i64 m.kind) ∧ w3.drew.cell? ⟨mb, 1, none⟩ = some (.int .i64 m.fr) ∧ w3.drew.cell? ⟨mb, 2, none⟩ = some (.int .i64 m.dst) ∧ w3.drew.cell? ⟨mb, 3, none⟩ = some (.int .i64 m.term) from ⟨c0, m0, m1, m2, m3⟩)) (fun _ => (show w3.drew.cell? ⟨g, 0, none⟩ = some (.int .i64 n.id) ∧ w3.drew.cell? ⟨mb, 0, none⟩ = some (.int .i64 m.kind) ∧ w3.drew.cell? ⟨mb, 1, none⟩ = some (.int .i64 m.fr) ∧ w3.drew.cell? ⟨mb, 2, none⟩ = some (.int .i64 m.dst) ∧ w3.drew.cell? ⟨mb, 3, none⟩ = some (.int .i64 m.term) from ⟨c0, m0, m1, m2, m3⟩)) (fun _ => (show w3.drew.cell? ⟨g, 0, none⟩ = some (.int .i64 n.id) ∧ w3.drew.cell? ⟨mb, 0, none⟩ = some (.int .i64 m.kind) ∧ w3.drew.cell? ⟨mb, 1, none⟩ = some (.int .i64 m.fr) ∧ w3.drew.cell? ⟨mb, 2, none⟩ = some (.int .i64 m.dst) ∧ w3.drew.cell? ⟨mb, 3, none⟩ = some (.int .i64 m.term) from ⟨c0, m0, m1, m2, m3⟩)) (fun _ => (show w3.drew.cell? ⟨g, 0, none⟩ = some (.int .i64 n.id) ∧ w3.drew.cell? ⟨mb, 0, none⟩ = some (.int .i64 m.kind) ∧ w3.drew.cell? ⟨mb, 1, none⟩ = some (.int .i64 m.fr) ∧ w3.drew.cell? ⟨mb, 2, none⟩ = some (.int .i64 m.dst) ∧ w3.drew.cell? ⟨mb, 3, none⟩ = some (.int .i64 m.term) from ⟨c0, m0, m1, m2, m3⟩)) (fun _ => (show w3.drew.cell? ⟨g, 0, none⟩ = some (.int .i64 n.id) ∧ w3.drew.cell? ⟨mb, 0, none⟩ = some (.int .i64 m.kind) ∧ w3.drew.cell? ⟨mb, 1, none⟩ = some (.int .i64 m.fr) ∧ w3.drew.cell? ⟨mb, 2, none⟩ = some (.int .i64 m.dst) ∧ w3.drew.cell? ⟨mb, 3, none⟩ = some (.int .i64 m.term) from ⟨c0, m0, m1, m2, m3⟩))) ?_
  rotate_left 2
  · (intro W hSw; (try dsimp only at hSw); go_simp; with_reducible rfl)
  · (intro W hSw; (try dsimp only at hSw); exact (ISA W).out)
  try simp only [Act.put, List.setIfInBounds_toArray, List.set_cons_zero, List.set_cons_succ]
  refine wpAnyT_pure (i := 6) (oi := { dst := some 16, op := Op.unOp UnOp.not 4 (Operand.tmp 15), type := 4, pos := "replica.go:96", after := #[{ on := 5, ground := Ground.data }], guard := none }) (v := ?_) rfl (by kernel_rfl) (by kernel_rfl) (by kernel_rfl) (by kernel_rfl) (fun _ _ _ h => h) (Or.inl ⟨by rfl, ?_⟩) (holds6 (fun _ => (show w3.drew.cell? ⟨g, 0, none⟩ = some (.int .i64 n.id) ∧ w3.drew.cell? ⟨mb, 0, none⟩ = some (.int .i64 m.kind) ∧ w3.drew.cell? ⟨mb, 1, none⟩ = some (.int .i64 m.fr) ∧ w3.drew.cell? ⟨mb, 2, none⟩ = some (.int .i64 m.dst) ∧ w3.drew.cell? ⟨mb, 3, none⟩ = some (.int .i64 m.term) from ⟨c0, m0, m1, m2, m3⟩)) (fun _ => (show w3.drew.cell? ⟨g, 0, none⟩ = some (.int .i64 n.id) ∧ w3.drew.cell? ⟨mb, 0, none⟩ = some (.int .i64 m.kind) ∧ w3.drew.cell? ⟨mb, 1, none⟩ = some (.int .i64 m.fr) ∧ w3.drew.cell? ⟨mb, 2, none⟩ = some (.int .i64 m.dst) ∧ w3.drew.cell? ⟨mb, 3, none⟩ = some (.int .i64 m.term) from ⟨c0, m0, m1, m2, m3⟩)) (fun _ => (show w3.drew.cell? ⟨g, 0, none⟩ = some (.int .i64 n.id) ∧ w3.drew.cell? ⟨mb, 0, none⟩ = some (.int .i64 m.kind) ∧ w3.drew.cell? ⟨mb, 1, none⟩ = some (.int .i64 m.fr) ∧ w3.drew.cell? ⟨mb, 2, none⟩ = some (.int .i64 m.dst) ∧ w3.drew.cell? ⟨mb, 3, none⟩ = some (.int .i64 m.term) from ⟨c0, m0, m1, m2, m3⟩)) (fun _ => (show w3.drew.cell? ⟨g, 0, none⟩ = some (.int .i64 n.id) ∧ w3.drew.cell? ⟨mb, 0, none⟩ = some (.int .i64 m.kind) ∧ w3.drew.cell? ⟨mb, 1, none⟩ = some (.int .i64 m.fr) ∧ w3.drew.cell? ⟨mb, 2, none⟩ = some (.int .i64 m.dst) ∧ w3.drew.cell? ⟨mb, 3, none⟩ = some (.int .i64 m.term) from ⟨c0, m0, m1, m2, m3⟩)) (fun _ => (show w3.drew.cell? ⟨g, 0, none⟩ = some (.int .i64 n.id) ∧ w3.drew.cell? ⟨mb, 0, none⟩ = some (.int .i64 m.kind) ∧ w3.drew.cell? ⟨mb, 1, none⟩ = some (.int .i64 m.fr) ∧ w3.drew.cell? ⟨mb, 2, none⟩ = some (.int .i64 m.dst) ∧ w3.drew.cell? ⟨mb, 3, none⟩ = some (.int .i64 m.term) from ⟨c0, m0, m1, m2, m3⟩)) (fun _ => (show w3.drew.cell? ⟨g, 0, none⟩ = some (.int .i64 n.id) ∧ w3.drew.cell? ⟨mb, 0, none⟩ = some (.int .i64 m.kind) ∧ w3.drew.cell? ⟨mb, 1, none⟩ = some (.int .i64 m.fr) ∧ w3.drew.cell? ⟨mb, 2, none⟩ = some (.int .i64 m.dst) ∧ w3.drew.cell? ⟨mb, 3, none⟩ = some (.int .i64 m.term) from ⟨c0, m0, m1, m2, m3⟩))) ?_
  rotate_left
  · (intro W; go_simp; try with_reducible rfl)
  try simp only [Act.put, List.setIfInBounds_toArray, List.set_cons_zero, List.set_cons_succ]
  refine wpAnyT_ready (rs := [7]) (by kernel_rfl) (by simp) (AllT.cons (o := { dst := some 17, op := Op.move (Operand.tmp 16), type := 4, pos := "replica.go:96", after := #[{ on := 6, ground := Ground.data }, { on := 5, ground := Ground.chain }], guard := none }) rfl (fun K hK => ?_) AllT.nil)
  go_simp
  refine hK.out _ _ (holds6 (late_no (by kernel_rfl)) (fun _ => (show w3.drew.cell? ⟨g, 0, none⟩ = some (.int .i64 n.id) ∧ w3.drew.cell? ⟨mb, 0, none⟩ = some (.int .i64 m.kind) ∧ w3.drew.cell? ⟨mb, 1, none⟩ = some (.int .i64 m.fr) ∧ w3.drew.cell? ⟨mb, 2, none⟩ = some (.int .i64 m.dst) ∧ w3.drew.cell? ⟨mb, 3, none⟩ = some (.int .i64 m.term) from ⟨c0, m0, m1, m2, m3⟩)) (fun _ => (show w3.drew.cell? ⟨g, 0, none⟩ = some (.int .i64 n.id) ∧ w3.drew.cell? ⟨mb, 0, none⟩ = some (.int .i64 m.kind) ∧ w3.drew.cell? ⟨mb, 1, none⟩ = some (.int .i64 m.fr) ∧ w3.drew.cell? ⟨mb, 2, none⟩ = some (.int .i64 m.dst) ∧ w3.drew.cell? ⟨mb, 3, none⟩ = some (.int .i64 m.term) from ⟨c0, m0, m1, m2, m3⟩)) (fun _ => (show w3.drew.cell? ⟨g, 0, none⟩ = some (.int .i64 n.id) ∧ w3.drew.cell? ⟨mb, 0, none⟩ = some (.int .i64 m.kind) ∧ w3.drew.cell? ⟨mb, 1, none⟩ = some (.int .i64 m.fr) ∧ w3.drew.cell? ⟨mb, 2, none⟩ = some (.int .i64 m.dst) ∧ w3.drew.cell? ⟨mb, 3, none⟩ = some (.int .i64 m.term) from ⟨c0, m0, m1, m2, m3⟩)) (fun _ => (show w3.drew.cell? ⟨g, 0, none⟩ = some (.int .i64 n.id) ∧ w3.drew.cell? ⟨mb, 0, none⟩ = some (.int .i64 m.kind) ∧ w3.drew.cell? ⟨mb, 1, none⟩ = some (.int .i64 m.fr) ∧ w3.drew.cell? ⟨mb, 2, none⟩ = some (.int .i64 m.dst) ∧ w3.drew.cell? ⟨mb, 3, none⟩ = some (.int .i64 m.term) from ⟨c0, m0, m1, m2, m3⟩)) (fun _ => (show w3.drew.cell? ⟨g, 0, none⟩ = some (.int .i64 n.id) ∧ w3.drew.cell? ⟨mb, 0, none⟩ = some (.int .i64 m.kind) ∧ w3.drew.cell? ⟨mb, 1, none⟩ = some (.int .i64 m.fr) ∧ w3.drew.cell? ⟨mb, 2, none⟩ = some (.int .i64 m.dst) ∧ w3.drew.cell? ⟨mb, 3, none⟩ = some (.int .i64 m.term) from ⟨c0, m0, m1, m2, m3⟩))) ?_
  clear hK K
  try simp only [Act.put, List.setIfInBounds_toArray, List.set_cons_zero, List.set_cons_succ]
  refine wpAnyT_pure (i := 8) (oi := { dst := some 18, op := Op.fieldAddr 25 (Operand.tmp 3) 1, type := 0, pos := "replica.go:96", after := #[{ on := 7, ground := Ground.guard }], guard := some (7, false) }) (v := ?_) rfl (by kernel_rfl) (by kernel_rfl) (by kernel_rfl) (by kernel_rfl) (fun _ _ _ h => h) (Or.inl ⟨by rfl, ?_⟩) (holds6 (late_no (by kernel_rfl)) (fun _ => (show w3.drew.cell? ⟨g, 0, none⟩ = some (.int .i64 n.id) ∧ w3.drew.cell? ⟨mb, 0, none⟩ = some (.int .i64 m.kind) ∧ w3.drew.cell? ⟨mb, 1, none⟩ = some (.int .i64 m.fr) ∧ w3.drew.cell? ⟨mb, 2, none⟩ = some (.int .i64 m.dst) ∧ w3.drew.cell? ⟨mb, 3, none⟩ = some (.int .i64 m.term) from ⟨c0, m0, m1, m2, m3⟩)) (fun _ => (show w3.drew.cell? ⟨g, 0, none⟩ = some (.int .i64 n.id) ∧ w3.drew.cell? ⟨mb, 0, none⟩ = some (.int .i64 m.kind) ∧ w3.drew.cell? ⟨mb, 1, none⟩ = some (.int .i64 m.fr) ∧ w3.drew.cell? ⟨mb, 2, none⟩ = some (.int .i64 m.dst) ∧ w3.drew.cell? ⟨mb, 3, none⟩ = some (.int .i64 m.term) from ⟨c0, m0, m1, m2, m3⟩)) (fun _ => (show w3.drew.cell? ⟨g, 0, none⟩ = some (.int .i64 n.id) ∧ w3.drew.cell? ⟨mb, 0, none⟩ = some (.int .i64 m.kind) ∧ w3.drew.cell? ⟨mb, 1, none⟩ = some (.int .i64 m.fr) ∧ w3.drew.cell? ⟨mb, 2, none⟩ = some (.int .i64 m.dst) ∧ w3.drew.cell? ⟨mb, 3, none⟩ = some (.int .i64 m.term) from ⟨c0, m0, m1, m2, m3⟩)) (fun _ => (show w3.drew.cell? ⟨g, 0, none⟩ = some (.int .i64 n.id) ∧ w3.drew.cell? ⟨mb, 0, none⟩ = some (.int .i64 m.kind) ∧ w3.drew.cell? ⟨mb, 1, none⟩ = some (.int .i64 m.fr) ∧ w3.drew.cell? ⟨mb, 2, none⟩ = some (.int .i64 m.dst) ∧ w3.drew.cell? ⟨mb, 3, none⟩ = some (.int .i64 m.term) from ⟨c0, m0, m1, m2, m3⟩)) (fun _ => (show w3.drew.cell? ⟨g, 0, none⟩ = some (.int .i64 n.id) ∧ w3.drew.cell? ⟨mb, 0, none⟩ = some (.int .i64 m.kind) ∧ w3.drew.cell? ⟨mb, 1, none⟩ = some (.int .i64 m.fr) ∧ w3.drew.cell? ⟨mb, 2, none⟩ = some (.int .i64 m.dst) ∧ w3.drew.cell? ⟨mb, 3, none⟩ = some (.int .i64 m.term) from ⟨c0, m0, m1, m2, m3⟩))) ?_
  rotate_left
  · (intro W; go_simp; try with_reducible rfl)
  try simp only [Act.put, List.setIfInBounds_toArray, List.set_cons_zero, List.set_cons_succ]
  refine wpAnyT_take 6 13 (i := 9) (oi := { dst := some 19, op := Op.load 3 (Operand.tmp 18), type := 3, pos := "replica.go:96", after := #[{ on := 8, ground := Ground.data }, { on := 7, ground := Ground.guard }], guard := some (7, false) }) (v := ?_) (.tail _ (.head _)) rfl (by kernel_rfl) (by kernel_rfl) (by kernel_rfl) (by kernel_rfl) (by kernel_rfl) (by kernel_rfl) (by rfl) (fun _ _ _ h => h) (by rfl) ?_ (holds6 (late_no (by kernel_rfl)) (fun _ => (show w3.drew.cell? ⟨g, 0, none⟩ = some (.int .i64 n.id) ∧ w3.drew.cell? ⟨mb, 0, none⟩ = some (.int .i64 m.kind) ∧ w3.drew.cell? ⟨mb, 1, none⟩ = some (.int .i64 m.fr) ∧ w3.drew.cell? ⟨mb, 2, none⟩ = some (.int .i64 m.dst) ∧ w3.drew.cell? ⟨mb, 3, none⟩ = some (.int .i64 m.term) from ⟨c0, m0, m1, m2, m3⟩)) (fun _ => (show w3.drew.cell? ⟨g, 0, none⟩ = some (.int .i64 n.id) ∧ w3.drew.cell? ⟨mb, 0, none⟩ = some (.int .i64 m.kind) ∧ w3.drew.cell? ⟨mb, 1, none⟩ = some (.int .i64 m.fr) ∧ w3.drew.cell? ⟨mb, 2, none⟩ = some (.int .i64 m.dst) ∧ w3.drew.cell? ⟨mb, 3, none⟩ = some (.int .i64 m.term) from ⟨c0, m0, m1, m2, m3⟩)) (fun _ => (show w3.drew.cell? ⟨g, 0, none⟩ = some (.int .i64 n.id) ∧ w3.drew.cell? ⟨mb, 0, none⟩ = some (.int .i64 m.kind) ∧ w3.drew.cell? ⟨mb, 1, none⟩ = some (.int .i64 m.fr) ∧ w3.drew.cell? ⟨mb, 2, none⟩ = some (.int .i64 m.dst) ∧ w3.drew.cell? ⟨mb, 3, none⟩ = some (.int .i64 m.term) from ⟨c0, m0, m1, m2, m3⟩)) (fun _ => (show w3.drew.cell? ⟨g, 0, none⟩ = some (.int .i64 n.id) ∧ w3.drew.cell? ⟨mb, 0, none⟩ = some (.int .i64 m.kind) ∧ w3.drew.cell? ⟨mb, 1, none⟩ = some (.int .i64 m.fr) ∧ w3.drew.cell? ⟨mb, 2, none⟩ = some (.int .i64 m.dst) ∧ w3.drew.cell? ⟨mb, 3, none⟩ = some (.int .i64 m.term) from ⟨c0, m0, m1, m2, m3⟩)) (fun _ => (show w3.drew.cell? ⟨g, 0, none⟩ = some (.int .i64 n.id) ∧ w3.drew.cell? ⟨mb, 0, none⟩ = some (.int .i64 m.kind) ∧ w3.drew.cell? ⟨mb, 1, none⟩ = some (.int .i64 m.fr) ∧ w3.drew.cell? ⟨mb, 2, none⟩ = some (.int .i64 m.dst) ∧ w3.drew.cell? ⟨mb, 3, none⟩ = some (.int .i64 m.term) from ⟨c0, m0, m1, m2, m3⟩))) ?_
  rotate_left
  · (intro W hSw; (try dsimp only at hSw); go_simp; try with_reducible rfl)
  try simp only [Act.put, List.setIfInBounds_toArray, List.set_cons_zero, List.set_cons_succ]
  refine wpAnyT_call 6 13 (i := 10) (oi := { dst := some 20, op := Op.call { callee := Callee.value (Operand.func 34), args := #[Operand.tmp 19], argTypes := #[3] }, type := 4, pos := "replica.go:96", after := #[{ on := 9, ground := Ground.data }, { on := 7, ground := Ground.chain }, { on := 7, ground := Ground.guard }], guard := some (7, false) }) (v := ?_) (g := 34) (args := ?_) (.tail _ (.head _)) rfl (by kernel_rfl) (by kernel_rfl) (by kernel_rfl) (by kernel_rfl) (by kernel_rfl) (by kernel_rfl) (by rfl) (fun _ _ _ h => h) (by rfl) ?_ ?_ (holds6 (late_no (by kernel_rfl)) (fun _ => (show w3.drew.cell? ⟨g, 0, none⟩ = some (.int .i64 n.id) ∧ w3.drew.cell? ⟨mb, 0, none⟩ = some (.int .i64 m.kind) ∧ w3.drew.cell? ⟨mb, 1, none⟩ = some (.int .i64 m.fr) ∧ w3.drew.cell? ⟨mb, 2, none⟩ = some (.int .i64 m.dst) ∧ w3.drew.cell? ⟨mb, 3, none⟩ = some (.int .i64 m.term) from ⟨c0, m0, m1, m2, m3⟩)) (fun _ => (show w3.drew.cell? ⟨g, 0, none⟩ = some (.int .i64 n.id) ∧ w3.drew.cell? ⟨mb, 0, none⟩ = some (.int .i64 m.kind) ∧ w3.drew.cell? ⟨mb, 1, none⟩ = some (.int .i64 m.fr) ∧ w3.drew.cell? ⟨mb, 2, none⟩ = some (.int .i64 m.dst) ∧ w3.drew.cell? ⟨mb, 3, none⟩ = some (.int .i64 m.term) from ⟨c0, m0, m1, m2, m3⟩)) (fun _ => (show w3.drew.cell? ⟨g, 0, none⟩ = some (.int .i64 n.id) ∧ w3.drew.cell? ⟨mb, 0, none⟩ = some (.int .i64 m.kind) ∧ w3.drew.cell? ⟨mb, 1, none⟩ = some (.int .i64 m.fr) ∧ w3.drew.cell? ⟨mb, 2, none⟩ = some (.int .i64 m.dst) ∧ w3.drew.cell? ⟨mb, 3, none⟩ = some (.int .i64 m.term) from ⟨c0, m0, m1, m2, m3⟩)) (fun _ => (show w3.drew.cell? ⟨g, 0, none⟩ = some (.int .i64 n.id) ∧ w3.drew.cell? ⟨mb, 0, none⟩ = some (.int .i64 m.kind) ∧ w3.drew.cell? ⟨mb, 1, none⟩ = some (.int .i64 m.fr) ∧ w3.drew.cell? ⟨mb, 2, none⟩ = some (.int .i64 m.dst) ∧ w3.drew.cell? ⟨mb, 3, none⟩ = some (.int .i64 m.term) from ⟨c0, m0, m1, m2, m3⟩)) (fun _ => (show w3.drew.cell? ⟨g, 0, none⟩ = some (.int .i64 n.id) ∧ w3.drew.cell? ⟨mb, 0, none⟩ = some (.int .i64 m.kind) ∧ w3.drew.cell? ⟨mb, 1, none⟩ = some (.int .i64 m.fr) ∧ w3.drew.cell? ⟨mb, 2, none⟩ = some (.int .i64 m.dst) ∧ w3.drew.cell? ⟨mb, 3, none⟩ = some (.int .i64 m.term) from ⟨c0, m0, m1, m2, m3⟩))) ?_
  rotate_left 2
  · (intro W hSw; (try dsimp only at hSw); go_simp; with_reducible rfl)
  · (intro W hSw; (try dsimp only at hSw); exact (ISB W).out)
  try simp only [Act.put, List.setIfInBounds_toArray, List.set_cons_zero, List.set_cons_succ]
  refine wpAnyT_pure (i := 11) (oi := { dst := some 21, op := Op.unOp UnOp.not 4 (Operand.tmp 20), type := 4, pos := "replica.go:96", after := #[{ on := 10, ground := Ground.data }, { on := 7, ground := Ground.guard }], guard := some (7, false) }) (v := ?_) rfl (by kernel_rfl) (by kernel_rfl) (by kernel_rfl) (by kernel_rfl) (fun _ _ _ h => h) (Or.inl ⟨by rfl, ?_⟩) (holds6 (late_no (by kernel_rfl)) (fun _ => (show w3.drew.cell? ⟨g, 0, none⟩ = some (.int .i64 n.id) ∧ w3.drew.cell? ⟨mb, 0, none⟩ = some (.int .i64 m.kind) ∧ w3.drew.cell? ⟨mb, 1, none⟩ = some (.int .i64 m.fr) ∧ w3.drew.cell? ⟨mb, 2, none⟩ = some (.int .i64 m.dst) ∧ w3.drew.cell? ⟨mb, 3, none⟩ = some (.int .i64 m.term) from ⟨c0, m0, m1, m2, m3⟩)) (fun _ => (show w3.drew.cell? ⟨g, 0, none⟩ = some (.int .i64 n.id) ∧ w3.drew.cell? ⟨mb, 0, none⟩ = some (.int .i64 m.kind) ∧ w3.drew.cell? ⟨mb, 1, none⟩ = some (.int .i64 m.fr) ∧ w3.drew.cell? ⟨mb, 2, none⟩ = some (.int .i64 m.dst) ∧ w3.drew.cell? ⟨mb, 3, none⟩ = some (.int .i64 m.term) from ⟨c0, m0, m1, m2, m3⟩)) (fun _ => (show w3.drew.cell? ⟨g, 0, none⟩ = some (.int .i64 n.id) ∧ w3.drew.cell? ⟨mb, 0, none⟩ = some (.int .i64 m.kind) ∧ w3.drew.cell? ⟨mb, 1, none⟩ = some (.int .i64 m.fr) ∧ w3.drew.cell? ⟨mb, 2, none⟩ = some (.int .i64 m.dst) ∧ w3.drew.cell? ⟨mb, 3, none⟩ = some (.int .i64 m.term) from ⟨c0, m0, m1, m2, m3⟩)) (fun _ => (show w3.drew.cell? ⟨g, 0, none⟩ = some (.int .i64 n.id) ∧ w3.drew.cell? ⟨mb, 0, none⟩ = some (.int .i64 m.kind) ∧ w3.drew.cell? ⟨mb, 1, none⟩ = some (.int .i64 m.fr) ∧ w3.drew.cell? ⟨mb, 2, none⟩ = some (.int .i64 m.dst) ∧ w3.drew.cell? ⟨mb, 3, none⟩ = some (.int .i64 m.term) from ⟨c0, m0, m1, m2, m3⟩)) (fun _ => (show w3.drew.cell? ⟨g, 0, none⟩ = some (.int .i64 n.id) ∧ w3.drew.cell? ⟨mb, 0, none⟩ = some (.int .i64 m.kind) ∧ w3.drew.cell? ⟨mb, 1, none⟩ = some (.int .i64 m.fr) ∧ w3.drew.cell? ⟨mb, 2, none⟩ = some (.int .i64 m.dst) ∧ w3.drew.cell? ⟨mb, 3, none⟩ = some (.int .i64 m.term) from ⟨c0, m0, m1, m2, m3⟩))) ?_
  rotate_left
  · (intro W; go_simp; try with_reducible rfl)
  try simp only [Act.put, List.setIfInBounds_toArray, List.set_cons_zero, List.set_cons_succ]
  refine wpAnyT_pure (i := 12) (oi := { dst := some 22, op := Op.pick (Operand.tmp 17) (Operand.const (Value.bool true)) (Operand.tmp 21), type := 4, pos := "replica.go:96", after := #[{ on := 7, ground := Ground.data }, { on := 11, ground := Ground.data }], guard := none }) (v := ?_) rfl (by kernel_rfl) (by kernel_rfl) (by kernel_rfl) (by kernel_rfl) (fun _ _ _ h => h) (Or.inl ⟨by rfl, ?_⟩) (holds6 (late_no (by kernel_rfl)) (fun _ => (show w3.drew.cell? ⟨g, 0, none⟩ = some (.int .i64 n.id) ∧ w3.drew.cell? ⟨mb, 0, none⟩ = some (.int .i64 m.kind) ∧ w3.drew.cell? ⟨mb, 1, none⟩ = some (.int .i64 m.fr) ∧ w3.drew.cell? ⟨mb, 2, none⟩ = some (.int .i64 m.dst) ∧ w3.drew.cell? ⟨mb, 3, none⟩ = some (.int .i64 m.term) from ⟨c0, m0, m1, m2, m3⟩)) (fun _ => (show w3.drew.cell? ⟨g, 0, none⟩ = some (.int .i64 n.id) ∧ w3.drew.cell? ⟨mb, 0, none⟩ = some (.int .i64 m.kind) ∧ w3.drew.cell? ⟨mb, 1, none⟩ = some (.int .i64 m.fr) ∧ w3.drew.cell? ⟨mb, 2, none⟩ = some (.int .i64 m.dst) ∧ w3.drew.cell? ⟨mb, 3, none⟩ = some (.int .i64 m.term) from ⟨c0, m0, m1, m2, m3⟩)) (fun _ => (show w3.drew.cell? ⟨g, 0, none⟩ = some (.int .i64 n.id) ∧ w3.drew.cell? ⟨mb, 0, none⟩ = some (.int .i64 m.kind) ∧ w3.drew.cell? ⟨mb, 1, none⟩ = some (.int .i64 m.fr) ∧ w3.drew.cell? ⟨mb, 2, none⟩ = some (.int .i64 m.dst) ∧ w3.drew.cell? ⟨mb, 3, none⟩ = some (.int .i64 m.term) from ⟨c0, m0, m1, m2, m3⟩)) (fun _ => (show w3.drew.cell? ⟨g, 0, none⟩ = some (.int .i64 n.id) ∧ w3.drew.cell? ⟨mb, 0, none⟩ = some (.int .i64 m.kind) ∧ w3.drew.cell? ⟨mb, 1, none⟩ = some (.int .i64 m.fr) ∧ w3.drew.cell? ⟨mb, 2, none⟩ = some (.int .i64 m.dst) ∧ w3.drew.cell? ⟨mb, 3, none⟩ = some (.int .i64 m.term) from ⟨c0, m0, m1, m2, m3⟩)) (fun _ => (show w3.drew.cell? ⟨g, 0, none⟩ = some (.int .i64 n.id) ∧ w3.drew.cell? ⟨mb, 0, none⟩ = some (.int .i64 m.kind) ∧ w3.drew.cell? ⟨mb, 1, none⟩ = some (.int .i64 m.fr) ∧ w3.drew.cell? ⟨mb, 2, none⟩ = some (.int .i64 m.dst) ∧ w3.drew.cell? ⟨mb, 3, none⟩ = some (.int .i64 m.term) from ⟨c0, m0, m1, m2, m3⟩))) ?_
  rotate_left
  · (intro W; go_simp; try with_reducible rfl)
  try simp only [Act.put, List.setIfInBounds_toArray, List.set_cons_zero, List.set_cons_succ]
  refine wpAnyT_ready (rs := [13]) (by kernel_rfl) (by simp) (AllT.cons (o := { dst := some 23, op := Op.move (Operand.tmp 22), type := 4, pos := "replica.go:96", after := #[{ on := 12, ground := Ground.data }, { on := 10, ground := Ground.chain }], guard := none }) rfl (fun K hK => ?_) AllT.nil)
  go_simp
  refine hK.out _ _ (holds6 (late_no (by kernel_rfl)) (late_no (by kernel_rfl)) (fun _ => (show w3.drew.cell? ⟨g, 0, none⟩ = some (.int .i64 n.id) ∧ w3.drew.cell? ⟨mb, 0, none⟩ = some (.int .i64 m.kind) ∧ w3.drew.cell? ⟨mb, 1, none⟩ = some (.int .i64 m.fr) ∧ w3.drew.cell? ⟨mb, 2, none⟩ = some (.int .i64 m.dst) ∧ w3.drew.cell? ⟨mb, 3, none⟩ = some (.int .i64 m.term) from ⟨c0, m0, m1, m2, m3⟩)) (fun _ => (show w3.drew.cell? ⟨g, 0, none⟩ = some (.int .i64 n.id) ∧ w3.drew.cell? ⟨mb, 0, none⟩ = some (.int .i64 m.kind) ∧ w3.drew.cell? ⟨mb, 1, none⟩ = some (.int .i64 m.fr) ∧ w3.drew.cell? ⟨mb, 2, none⟩ = some (.int .i64 m.dst) ∧ w3.drew.cell? ⟨mb, 3, none⟩ = some (.int .i64 m.term) from ⟨c0, m0, m1, m2, m3⟩)) (fun _ => (show w3.drew.cell? ⟨g, 0, none⟩ = some (.int .i64 n.id) ∧ w3.drew.cell? ⟨mb, 0, none⟩ = some (.int .i64 m.kind) ∧ w3.drew.cell? ⟨mb, 1, none⟩ = some (.int .i64 m.fr) ∧ w3.drew.cell? ⟨mb, 2, none⟩ = some (.int .i64 m.dst) ∧ w3.drew.cell? ⟨mb, 3, none⟩ = some (.int .i64 m.term) from ⟨c0, m0, m1, m2, m3⟩)) (fun _ => (show w3.drew.cell? ⟨g, 0, none⟩ = some (.int .i64 n.id) ∧ w3.drew.cell? ⟨mb, 0, none⟩ = some (.int .i64 m.kind) ∧ w3.drew.cell? ⟨mb, 1, none⟩ = some (.int .i64 m.fr) ∧ w3.drew.cell? ⟨mb, 2, none⟩ = some (.int .i64 m.dst) ∧ w3.drew.cell? ⟨mb, 3, none⟩ = some (.int .i64 m.term) from ⟨c0, m0, m1, m2, m3⟩))) ?_
  clear hK K
  try simp only [Act.put, List.setIfInBounds_toArray, List.set_cons_zero, List.set_cons_succ]
  refine wpAnyT_pure (i := 14) (oi := { dst := some 24, op := Op.fieldAddr 25 (Operand.tmp 3) 1, type := 0, pos := "replica.go:96", after := #[{ on := 13, ground := Ground.guard }], guard := some (13, false) }) (v := ?_) rfl (by kernel_rfl) (by kernel_rfl) (by kernel_rfl) (by kernel_rfl) (fun _ _ _ h => h) (Or.inl ⟨by rfl, ?_⟩) (holds6 (late_no (by kernel_rfl)) (late_no (by kernel_rfl)) (fun _ => (show w3.drew.cell? ⟨g, 0, none⟩ = some (.int .i64 n.id) ∧ w3.drew.cell? ⟨mb, 0, none⟩ = some (.int .i64 m.kind) ∧ w3.drew.cell? ⟨mb, 1, none⟩ = some (.int .i64 m.fr) ∧ w3.drew.cell? ⟨mb, 2, none⟩ = some (.int .i64 m.dst) ∧ w3.drew.cell? ⟨mb, 3, none⟩ = some (.int .i64 m.term) from ⟨c0, m0, m1, m2, m3⟩)) (fun _ => (show w3.drew.cell? ⟨g, 0, none⟩ = some (.int .i64 n.id) ∧ w3.drew.cell? ⟨mb, 0, none⟩ = some (.int .i64 m.kind) ∧ w3.drew.cell? ⟨mb, 1, none⟩ = some (.int .i64 m.fr) ∧ w3.drew.cell? ⟨mb, 2, none⟩ = some (.int .i64 m.dst) ∧ w3.drew.cell? ⟨mb, 3, none⟩ = some (.int .i64 m.term) from ⟨c0, m0, m1, m2, m3⟩)) (fun _ => (show w3.drew.cell? ⟨g, 0, none⟩ = some (.int .i64 n.id) ∧ w3.drew.cell? ⟨mb, 0, none⟩ = some (.int .i64 m.kind) ∧ w3.drew.cell? ⟨mb, 1, none⟩ = some (.int .i64 m.fr) ∧ w3.drew.cell? ⟨mb, 2, none⟩ = some (.int .i64 m.dst) ∧ w3.drew.cell? ⟨mb, 3, none⟩ = some (.int .i64 m.term) from ⟨c0, m0, m1, m2, m3⟩)) (fun _ => (show w3.drew.cell? ⟨g, 0, none⟩ = some (.int .i64 n.id) ∧ w3.drew.cell? ⟨mb, 0, none⟩ = some (.int .i64 m.kind) ∧ w3.drew.cell? ⟨mb, 1, none⟩ = some (.int .i64 m.fr) ∧ w3.drew.cell? ⟨mb, 2, none⟩ = some (.int .i64 m.dst) ∧ w3.drew.cell? ⟨mb, 3, none⟩ = some (.int .i64 m.term) from ⟨c0, m0, m1, m2, m3⟩))) ?_
  rotate_left
  · (intro W; go_simp; try with_reducible rfl)
  try simp only [Act.put, List.setIfInBounds_toArray, List.set_cons_zero, List.set_cons_succ]
  refine wpAnyT_take 6 23 (i := 15) (oi := { dst := some 25, op := Op.load 3 (Operand.tmp 24), type := 3, pos := "replica.go:96", after := #[{ on := 14, ground := Ground.data }, { on := 13, ground := Ground.guard }], guard := some (13, false) }) (v := ?_) (.tail _ (.tail _ (.head _))) rfl (by kernel_rfl) (by kernel_rfl) (by kernel_rfl) (by kernel_rfl) (by kernel_rfl) (by kernel_rfl) (by rfl) (fun _ _ _ h => h) (by rfl) ?_ (holds6 (late_no (by kernel_rfl)) (late_no (by kernel_rfl)) (fun _ => (show w3.drew.cell? ⟨g, 0, none⟩ = some (.int .i64 n.id) ∧ w3.drew.cell? ⟨mb, 0, none⟩ = some (.int .i64 m.kind) ∧ w3.drew.cell? ⟨mb, 1, none⟩ = some (.int .i64 m.fr) ∧ w3.drew.cell? ⟨mb, 2, none⟩ = some (.int .i64 m.dst) ∧ w3.drew.cell? ⟨mb, 3, none⟩ = some (.int .i64 m.term) from ⟨c0, m0, m1, m2, m3⟩)) (fun _ => (show w3.drew.cell? ⟨g, 0, none⟩ = some (.int .i64 n.id) ∧ w3.drew.cell? ⟨mb, 0, none⟩ = some (.int .i64 m.kind) ∧ w3.drew.cell? ⟨mb, 1, none⟩ = some (.int .i64 m.fr) ∧ w3.drew.cell? ⟨mb, 2, none⟩ = some (.int .i64 m.dst) ∧ w3.drew.cell? ⟨mb, 3, none⟩ = some (.int .i64 m.term) from ⟨c0, m0, m1, m2, m3⟩)) (fun _ => (show w3.drew.cell? ⟨g, 0, none⟩ = some (.int .i64 n.id) ∧ w3.drew.cell? ⟨mb, 0, none⟩ = some (.int .i64 m.kind) ∧ w3.drew.cell? ⟨mb, 1, none⟩ = some (.int .i64 m.fr) ∧ w3.drew.cell? ⟨mb, 2, none⟩ = some (.int .i64 m.dst) ∧ w3.drew.cell? ⟨mb, 3, none⟩ = some (.int .i64 m.term) from ⟨c0, m0, m1, m2, m3⟩)) (fun _ => (show w3.drew.cell? ⟨g, 0, none⟩ = some (.int .i64 n.id) ∧ w3.drew.cell? ⟨mb, 0, none⟩ = some (.int .i64 m.kind) ∧ w3.drew.cell? ⟨mb, 1, none⟩ = some (.int .i64 m.fr) ∧ w3.drew.cell? ⟨mb, 2, none⟩ = some (.int .i64 m.dst) ∧ w3.drew.cell? ⟨mb, 3, none⟩ = some (.int .i64 m.term) from ⟨c0, m0, m1, m2, m3⟩))) ?_
  rotate_left
  · (intro W hSw; (try dsimp only at hSw); go_simp; try with_reducible rfl)
  try simp only [Act.put, List.setIfInBounds_toArray, List.set_cons_zero, List.set_cons_succ]
  refine wpAnyT_pure (i := 16) (oi := { dst := some 26, op := Op.move (Operand.tmp 6), type := 83, pos := "replica.go:96", after := #[{ on := 13, ground := Ground.guard }], guard := some (13, false) }) (v := ?_) rfl (by kernel_rfl) (by kernel_rfl) (by kernel_rfl) (by kernel_rfl) (fun _ _ _ h => h) (Or.inl ⟨by rfl, ?_⟩) (holds6 (late_no (by kernel_rfl)) (late_no (by kernel_rfl)) (fun _ => (show w3.drew.cell? ⟨g, 0, none⟩ = some (.int .i64 n.id) ∧ w3.drew.cell? ⟨mb, 0, none⟩ = some (.int .i64 m.kind) ∧ w3.drew.cell? ⟨mb, 1, none⟩ = some (.int .i64 m.fr) ∧ w3.drew.cell? ⟨mb, 2, none⟩ = some (.int .i64 m.dst) ∧ w3.drew.cell? ⟨mb, 3, none⟩ = some (.int .i64 m.term) from ⟨c0, m0, m1, m2, m3⟩)) (fun _ => (show w3.drew.cell? ⟨g, 0, none⟩ = some (.int .i64 n.id) ∧ w3.drew.cell? ⟨mb, 0, none⟩ = some (.int .i64 m.kind) ∧ w3.drew.cell? ⟨mb, 1, none⟩ = some (.int .i64 m.fr) ∧ w3.drew.cell? ⟨mb, 2, none⟩ = some (.int .i64 m.dst) ∧ w3.drew.cell? ⟨mb, 3, none⟩ = some (.int .i64 m.term) from ⟨c0, m0, m1, m2, m3⟩)) (fun _ => (show w3.drew.cell? ⟨g, 0, none⟩ = some (.int .i64 n.id) ∧ w3.drew.cell? ⟨mb, 0, none⟩ = some (.int .i64 m.kind) ∧ w3.drew.cell? ⟨mb, 1, none⟩ = some (.int .i64 m.fr) ∧ w3.drew.cell? ⟨mb, 2, none⟩ = some (.int .i64 m.dst) ∧ w3.drew.cell? ⟨mb, 3, none⟩ = some (.int .i64 m.term) from ⟨c0, m0, m1, m2, m3⟩)) (fun _ => (show w3.drew.cell? ⟨g, 0, none⟩ = some (.int .i64 n.id) ∧ w3.drew.cell? ⟨mb, 0, none⟩ = some (.int .i64 m.kind) ∧ w3.drew.cell? ⟨mb, 1, none⟩ = some (.int .i64 m.fr) ∧ w3.drew.cell? ⟨mb, 2, none⟩ = some (.int .i64 m.dst) ∧ w3.drew.cell? ⟨mb, 3, none⟩ = some (.int .i64 m.term) from ⟨c0, m0, m1, m2, m3⟩))) ?_
  rotate_left
  · (intro W; go_simp; try with_reducible rfl)
  try simp only [Act.put, List.setIfInBounds_toArray, List.set_cons_zero, List.set_cons_succ]
  refine wpAnyT_pure (i := 17) (oi := { dst := some 27, op := Op.nilCheck (Operand.tmp 26), type := 0, pos := "replica.go:96", after := #[{ on := 16, ground := Ground.data }, { on := 13, ground := Ground.guard }], guard := some (13, false) }) (v := ?_) rfl (by kernel_rfl) (by kernel_rfl) (by kernel_rfl) (by kernel_rfl) (fun _ _ _ h => h) (Or.inl ⟨by rfl, ?_⟩) (holds6 (late_no (by kernel_rfl)) (late_no (by kernel_rfl)) (fun _ => (show w3.drew.cell? ⟨g, 0, none⟩ = some (.int .i64 n.id) ∧ w3.drew.cell? ⟨mb, 0, none⟩ = some (.int .i64 m.kind) ∧ w3.drew.cell? ⟨mb, 1, none⟩ = some (.int .i64 m.fr) ∧ w3.drew.cell? ⟨mb, 2, none⟩ = some (.int .i64 m.dst) ∧ w3.drew.cell? ⟨mb, 3, none⟩ = some (.int .i64 m.term) from ⟨c0, m0, m1, m2, m3⟩)) (fun _ => (show w3.drew.cell? ⟨g, 0, none⟩ = some (.int .i64 n.id) ∧ w3.drew.cell? ⟨mb, 0, none⟩ = some (.int .i64 m.kind) ∧ w3.drew.cell? ⟨mb, 1, none⟩ = some (.int .i64 m.fr) ∧ w3.drew.cell? ⟨mb, 2, none⟩ = some (.int .i64 m.dst) ∧ w3.drew.cell? ⟨mb, 3, none⟩ = some (.int .i64 m.term) from ⟨c0, m0, m1, m2, m3⟩)) (fun _ => (show w3.drew.cell? ⟨g, 0, none⟩ = some (.int .i64 n.id) ∧ w3.drew.cell? ⟨mb, 0, none⟩ = some (.int .i64 m.kind) ∧ w3.drew.cell? ⟨mb, 1, none⟩ = some (.int .i64 m.fr) ∧ w3.drew.cell? ⟨mb, 2, none⟩ = some (.int .i64 m.dst) ∧ w3.drew.cell? ⟨mb, 3, none⟩ = some (.int .i64 m.term) from ⟨c0, m0, m1, m2, m3⟩)) (fun _ => (show w3.drew.cell? ⟨g, 0, none⟩ = some (.int .i64 n.id) ∧ w3.drew.cell? ⟨mb, 0, none⟩ = some (.int .i64 m.kind) ∧ w3.drew.cell? ⟨mb, 1, none⟩ = some (.int .i64 m.fr) ∧ w3.drew.cell? ⟨mb, 2, none⟩ = some (.int .i64 m.dst) ∧ w3.drew.cell? ⟨mb, 3, none⟩ = some (.int .i64 m.term) from ⟨c0, m0, m1, m2, m3⟩))) ?_
  rotate_left
  · (intro W; go_simp; try with_reducible rfl)
  try simp only [Act.put, List.setIfInBounds_toArray, List.set_cons_zero, List.set_cons_succ]
  refine wpAnyT_pure (i := 18) (oi := { dst := some 28, op := Op.fieldAddr 87 (Operand.tmp 27) 0, type := 0, pos := "replica.go:96", after := #[{ on := 17, ground := Ground.data }, { on := 13, ground := Ground.guard }], guard := some (13, false) }) (v := ?_) rfl (by kernel_rfl) (by kernel_rfl) (by kernel_rfl) (by kernel_rfl) (fun _ _ _ h => h) (Or.inl ⟨by rfl, ?_⟩) (holds6 (late_no (by kernel_rfl)) (late_no (by kernel_rfl)) (fun _ => (show w3.drew.cell? ⟨g, 0, none⟩ = some (.int .i64 n.id) ∧ w3.drew.cell? ⟨mb, 0, none⟩ = some (.int .i64 m.kind) ∧ w3.drew.cell? ⟨mb, 1, none⟩ = some (.int .i64 m.fr) ∧ w3.drew.cell? ⟨mb, 2, none⟩ = some (.int .i64 m.dst) ∧ w3.drew.cell? ⟨mb, 3, none⟩ = some (.int .i64 m.term) from ⟨c0, m0, m1, m2, m3⟩)) (fun _ => (show w3.drew.cell? ⟨g, 0, none⟩ = some (.int .i64 n.id) ∧ w3.drew.cell? ⟨mb, 0, none⟩ = some (.int .i64 m.kind) ∧ w3.drew.cell? ⟨mb, 1, none⟩ = some (.int .i64 m.fr) ∧ w3.drew.cell? ⟨mb, 2, none⟩ = some (.int .i64 m.dst) ∧ w3.drew.cell? ⟨mb, 3, none⟩ = some (.int .i64 m.term) from ⟨c0, m0, m1, m2, m3⟩)) (fun _ => (show w3.drew.cell? ⟨g, 0, none⟩ = some (.int .i64 n.id) ∧ w3.drew.cell? ⟨mb, 0, none⟩ = some (.int .i64 m.kind) ∧ w3.drew.cell? ⟨mb, 1, none⟩ = some (.int .i64 m.fr) ∧ w3.drew.cell? ⟨mb, 2, none⟩ = some (.int .i64 m.dst) ∧ w3.drew.cell? ⟨mb, 3, none⟩ = some (.int .i64 m.term) from ⟨c0, m0, m1, m2, m3⟩)) (fun _ => (show w3.drew.cell? ⟨g, 0, none⟩ = some (.int .i64 n.id) ∧ w3.drew.cell? ⟨mb, 0, none⟩ = some (.int .i64 m.kind) ∧ w3.drew.cell? ⟨mb, 1, none⟩ = some (.int .i64 m.fr) ∧ w3.drew.cell? ⟨mb, 2, none⟩ = some (.int .i64 m.dst) ∧ w3.drew.cell? ⟨mb, 3, none⟩ = some (.int .i64 m.term) from ⟨c0, m0, m1, m2, m3⟩))) ?_
  rotate_left
  · (intro W; go_simp; try with_reducible rfl)
  try simp only [Act.put, List.setIfInBounds_toArray, List.set_cons_zero, List.set_cons_succ]
  refine wpAnyT_pure (i := 19) (oi := { dst := some 29, op := Op.fieldAddr 37 (Operand.tmp 28) 0, type := 0, pos := "replica.go:96", after := #[{ on := 18, ground := Ground.data }, { on := 13, ground := Ground.guard }], guard := some (13, false) }) (v := ?_) rfl (by kernel_rfl) (by kernel_rfl) (by kernel_rfl) (by kernel_rfl) (fun _ _ _ h => h) (Or.inl ⟨by rfl, ?_⟩) (holds6 (late_no (by kernel_rfl)) (late_no (by kernel_rfl)) (fun _ => (show w3.drew.cell? ⟨g, 0, none⟩ = some (.int .i64 n.id) ∧ w3.drew.cell? ⟨mb, 0, none⟩ = some (.int .i64 m.kind) ∧ w3.drew.cell? ⟨mb, 1, none⟩ = some (.int .i64 m.fr) ∧ w3.drew.cell? ⟨mb, 2, none⟩ = some (.int .i64 m.dst) ∧ w3.drew.cell? ⟨mb, 3, none⟩ = some (.int .i64 m.term) from ⟨c0, m0, m1, m2, m3⟩)) (fun _ => (show w3.drew.cell? ⟨g, 0, none⟩ = some (.int .i64 n.id) ∧ w3.drew.cell? ⟨mb, 0, none⟩ = some (.int .i64 m.kind) ∧ w3.drew.cell? ⟨mb, 1, none⟩ = some (.int .i64 m.fr) ∧ w3.drew.cell? ⟨mb, 2, none⟩ = some (.int .i64 m.dst) ∧ w3.drew.cell? ⟨mb, 3, none⟩ = some (.int .i64 m.term) from ⟨c0, m0, m1, m2, m3⟩)) (fun _ => (show w3.drew.cell? ⟨g, 0, none⟩ = some (.int .i64 n.id) ∧ w3.drew.cell? ⟨mb, 0, none⟩ = some (.int .i64 m.kind) ∧ w3.drew.cell? ⟨mb, 1, none⟩ = some (.int .i64 m.fr) ∧ w3.drew.cell? ⟨mb, 2, none⟩ = some (.int .i64 m.dst) ∧ w3.drew.cell? ⟨mb, 3, none⟩ = some (.int .i64 m.term) from ⟨c0, m0, m1, m2, m3⟩)) (fun _ => (show w3.drew.cell? ⟨g, 0, none⟩ = some (.int .i64 n.id) ∧ w3.drew.cell? ⟨mb, 0, none⟩ = some (.int .i64 m.kind) ∧ w3.drew.cell? ⟨mb, 1, none⟩ = some (.int .i64 m.fr) ∧ w3.drew.cell? ⟨mb, 2, none⟩ = some (.int .i64 m.dst) ∧ w3.drew.cell? ⟨mb, 3, none⟩ = some (.int .i64 m.term) from ⟨c0, m0, m1, m2, m3⟩))) ?_
  rotate_left
  · (intro W; go_simp; try with_reducible rfl)
  try simp only [Act.put, List.setIfInBounds_toArray, List.set_cons_zero, List.set_cons_succ]
  refine wpAnyT_take 6 23 (i := 20) (oi := { dst := some 30, op := Op.load 3 (Operand.tmp 29), type := 3, pos := "replica.go:96", after := #[{ on := 19, ground := Ground.data }, { on := 13, ground := Ground.guard }], guard := some (13, false) }) (v := ?_) (.tail _ (.tail _ (.head _))) rfl (by kernel_rfl) (by kernel_rfl) (by kernel_rfl) (by kernel_rfl) (by kernel_rfl) (by kernel_rfl) (by rfl) (fun _ _ _ h => h) (by rfl) ?_ (holds6 (late_no (by kernel_rfl)) (late_no (by kernel_rfl)) (fun _ => (show w3.drew.cell? ⟨g, 0, none⟩ = some (.int .i64 n.id) ∧ w3.drew.cell? ⟨mb, 0, none⟩ = some (.int .i64 m.kind) ∧ w3.drew.cell? ⟨mb, 1, none⟩ = some (.int .i64 m.fr) ∧ w3.drew.cell? ⟨mb, 2, none⟩ = some (.int .i64 m.dst) ∧ w3.drew.cell? ⟨mb, 3, none⟩ = some (.int .i64 m.term) from ⟨c0, m0, m1, m2, m3⟩)) (fun _ => (show w3.drew.cell? ⟨g, 0, none⟩ = some (.int .i64 n.id) ∧ w3.drew.cell? ⟨mb, 0, none⟩ = some (.int .i64 m.kind) ∧ w3.drew.cell? ⟨mb, 1, none⟩ = some (.int .i64 m.fr) ∧ w3.drew.cell? ⟨mb, 2, none⟩ = some (.int .i64 m.dst) ∧ w3.drew.cell? ⟨mb, 3, none⟩ = some (.int .i64 m.term) from ⟨c0, m0, m1, m2, m3⟩)) (fun _ => (show w3.drew.cell? ⟨g, 0, none⟩ = some (.int .i64 n.id) ∧ w3.drew.cell? ⟨mb, 0, none⟩ = some (.int .i64 m.kind) ∧ w3.drew.cell? ⟨mb, 1, none⟩ = some (.int .i64 m.fr) ∧ w3.drew.cell? ⟨mb, 2, none⟩ = some (.int .i64 m.dst) ∧ w3.drew.cell? ⟨mb, 3, none⟩ = some (.int .i64 m.term) from ⟨c0, m0, m1, m2, m3⟩)) (fun _ => (show w3.drew.cell? ⟨g, 0, none⟩ = some (.int .i64 n.id) ∧ w3.drew.cell? ⟨mb, 0, none⟩ = some (.int .i64 m.kind) ∧ w3.drew.cell? ⟨mb, 1, none⟩ = some (.int .i64 m.fr) ∧ w3.drew.cell? ⟨mb, 2, none⟩ = some (.int .i64 m.dst) ∧ w3.drew.cell? ⟨mb, 3, none⟩ = some (.int .i64 m.term) from ⟨c0, m0, m1, m2, m3⟩))) ?_
  rotate_left
  · (intro W hSw; (try dsimp only at hSw); go_simp; try with_reducible rfl)
  try simp only [Act.put, List.setIfInBounds_toArray, List.set_cons_zero, List.set_cons_succ]
  refine wpAnyT_pure (i := 21) (oi := { dst := some 31, op := Op.binOp BinOp.eql 3 (Operand.tmp 25) (Operand.tmp 30) 3, type := 4, pos := "replica.go:96", after := #[{ on := 15, ground := Ground.data }, { on := 20, ground := Ground.data }, { on := 13, ground := Ground.guard }], guard := some (13, false) }) (v := ?_) rfl (by kernel_rfl) (by kernel_rfl) (by kernel_rfl) (by kernel_rfl) (fun _ _ _ h => h) (Or.inl ⟨by rfl, ?_⟩) (holds6 (late_no (by kernel_rfl)) (late_no (by kernel_rfl)) (fun _ => (show w3.drew.cell? ⟨g, 0, none⟩ = some (.int .i64 n.id) ∧ w3.drew.cell? ⟨mb, 0, none⟩ = some (.int .i64 m.kind) ∧ w3.drew.cell? ⟨mb, 1, none⟩ = some (.int .i64 m.fr) ∧ w3.drew.cell? ⟨mb, 2, none⟩ = some (.int .i64 m.dst) ∧ w3.drew.cell? ⟨mb, 3, none⟩ = some (.int .i64 m.term) from ⟨c0, m0, m1, m2, m3⟩)) (fun _ => (show w3.drew.cell? ⟨g, 0, none⟩ = some (.int .i64 n.id) ∧ w3.drew.cell? ⟨mb, 0, none⟩ = some (.int .i64 m.kind) ∧ w3.drew.cell? ⟨mb, 1, none⟩ = some (.int .i64 m.fr) ∧ w3.drew.cell? ⟨mb, 2, none⟩ = some (.int .i64 m.dst) ∧ w3.drew.cell? ⟨mb, 3, none⟩ = some (.int .i64 m.term) from ⟨c0, m0, m1, m2, m3⟩)) (fun _ => (show w3.drew.cell? ⟨g, 0, none⟩ = some (.int .i64 n.id) ∧ w3.drew.cell? ⟨mb, 0, none⟩ = some (.int .i64 m.kind) ∧ w3.drew.cell? ⟨mb, 1, none⟩ = some (.int .i64 m.fr) ∧ w3.drew.cell? ⟨mb, 2, none⟩ = some (.int .i64 m.dst) ∧ w3.drew.cell? ⟨mb, 3, none⟩ = some (.int .i64 m.term) from ⟨c0, m0, m1, m2, m3⟩)) (fun _ => (show w3.drew.cell? ⟨g, 0, none⟩ = some (.int .i64 n.id) ∧ w3.drew.cell? ⟨mb, 0, none⟩ = some (.int .i64 m.kind) ∧ w3.drew.cell? ⟨mb, 1, none⟩ = some (.int .i64 m.fr) ∧ w3.drew.cell? ⟨mb, 2, none⟩ = some (.int .i64 m.dst) ∧ w3.drew.cell? ⟨mb, 3, none⟩ = some (.int .i64 m.term) from ⟨c0, m0, m1, m2, m3⟩))) ?_
  rotate_left
  · (intro W; go_simp; try with_reducible rfl)
  try simp only [Act.put, List.setIfInBounds_toArray, List.set_cons_zero, List.set_cons_succ]
  refine wpAnyT_pure (i := 22) (oi := { dst := some 32, op := Op.pick (Operand.tmp 23) (Operand.const (Value.bool true)) (Operand.tmp 31), type := 4, pos := "replica.go:96", after := #[{ on := 13, ground := Ground.data }, { on := 21, ground := Ground.data }], guard := none }) (v := ?_) rfl (by kernel_rfl) (by kernel_rfl) (by kernel_rfl) (by kernel_rfl) (fun _ _ _ h => h) (Or.inl ⟨by rfl, ?_⟩) (holds6 (late_no (by kernel_rfl)) (late_no (by kernel_rfl)) (fun _ => (show w3.drew.cell? ⟨g, 0, none⟩ = some (.int .i64 n.id) ∧ w3.drew.cell? ⟨mb, 0, none⟩ = some (.int .i64 m.kind) ∧ w3.drew.cell? ⟨mb, 1, none⟩ = some (.int .i64 m.fr) ∧ w3.drew.cell? ⟨mb, 2, none⟩ = some (.int .i64 m.dst) ∧ w3.drew.cell? ⟨mb, 3, none⟩ = some (.int .i64 m.term) from ⟨c0, m0, m1, m2, m3⟩)) (fun _ => (show w3.drew.cell? ⟨g, 0, none⟩ = some (.int .i64 n.id) ∧ w3.drew.cell? ⟨mb, 0, none⟩ = some (.int .i64 m.kind) ∧ w3.drew.cell? ⟨mb, 1, none⟩ = some (.int .i64 m.fr) ∧ w3.drew.cell? ⟨mb, 2, none⟩ = some (.int .i64 m.dst) ∧ w3.drew.cell? ⟨mb, 3, none⟩ = some (.int .i64 m.term) from ⟨c0, m0, m1, m2, m3⟩)) (fun _ => (show w3.drew.cell? ⟨g, 0, none⟩ = some (.int .i64 n.id) ∧ w3.drew.cell? ⟨mb, 0, none⟩ = some (.int .i64 m.kind) ∧ w3.drew.cell? ⟨mb, 1, none⟩ = some (.int .i64 m.fr) ∧ w3.drew.cell? ⟨mb, 2, none⟩ = some (.int .i64 m.dst) ∧ w3.drew.cell? ⟨mb, 3, none⟩ = some (.int .i64 m.term) from ⟨c0, m0, m1, m2, m3⟩)) (fun _ => (show w3.drew.cell? ⟨g, 0, none⟩ = some (.int .i64 n.id) ∧ w3.drew.cell? ⟨mb, 0, none⟩ = some (.int .i64 m.kind) ∧ w3.drew.cell? ⟨mb, 1, none⟩ = some (.int .i64 m.fr) ∧ w3.drew.cell? ⟨mb, 2, none⟩ = some (.int .i64 m.dst) ∧ w3.drew.cell? ⟨mb, 3, none⟩ = some (.int .i64 m.term) from ⟨c0, m0, m1, m2, m3⟩))) ?_
  rotate_left
  · (intro W; go_simp; try with_reducible rfl)
  try simp only [Act.put, List.setIfInBounds_toArray, List.set_cons_zero, List.set_cons_succ]
  refine wpAnyT_ready (rs := [23]) (by kernel_rfl) (by simp) (AllT.cons (o := { dst := some 33, op := Op.move (Operand.tmp 32), type := 4, pos := "replica.go:96", after := #[{ on := 22, ground := Ground.data }, { on := 13, ground := Ground.chain }], guard := none }) rfl (fun K hK => ?_) AllT.nil)
  go_simp
  refine hK.out _ _ (holds6 (late_no (by kernel_rfl)) (late_no (by kernel_rfl)) (late_no (by kernel_rfl)) (fun _ => (show w3.drew.cell? ⟨g, 0, none⟩ = some (.int .i64 n.id) ∧ w3.drew.cell? ⟨mb, 0, none⟩ = some (.int .i64 m.kind) ∧ w3.drew.cell? ⟨mb, 1, none⟩ = some (.int .i64 m.fr) ∧ w3.drew.cell? ⟨mb, 2, none⟩ = some (.int .i64 m.dst) ∧ w3.drew.cell? ⟨mb, 3, none⟩ = some (.int .i64 m.term) from ⟨c0, m0, m1, m2, m3⟩)) (fun _ => (show w3.drew.cell? ⟨g, 0, none⟩ = some (.int .i64 n.id) ∧ w3.drew.cell? ⟨mb, 0, none⟩ = some (.int .i64 m.kind) ∧ w3.drew.cell? ⟨mb, 1, none⟩ = some (.int .i64 m.fr) ∧ w3.drew.cell? ⟨mb, 2, none⟩ = some (.int .i64 m.dst) ∧ w3.drew.cell? ⟨mb, 3, none⟩ = some (.int .i64 m.term) from ⟨c0, m0, m1, m2, m3⟩)) (fun _ => (show w3.drew.cell? ⟨g, 0, none⟩ = some (.int .i64 n.id) ∧ w3.drew.cell? ⟨mb, 0, none⟩ = some (.int .i64 m.kind) ∧ w3.drew.cell? ⟨mb, 1, none⟩ = some (.int .i64 m.fr) ∧ w3.drew.cell? ⟨mb, 2, none⟩ = some (.int .i64 m.dst) ∧ w3.drew.cell? ⟨mb, 3, none⟩ = some (.int .i64 m.term) from ⟨c0, m0, m1, m2, m3⟩))) ?_
  clear hK K
  try simp only [Act.put, List.setIfInBounds_toArray, List.set_cons_zero, List.set_cons_succ]
  refine wpAnyT_pure (i := 24) (oi := { dst := some 34, op := Op.fieldAddr 25 (Operand.tmp 3) 2, type := 0, pos := "replica.go:96", after := #[{ on := 23, ground := Ground.guard }], guard := some (23, false) }) (v := ?_) rfl (by kernel_rfl) (by kernel_rfl) (by kernel_rfl) (by kernel_rfl) (fun _ _ _ h => h) (Or.inl ⟨by rfl, ?_⟩) (holds6 (late_no (by kernel_rfl)) (late_no (by kernel_rfl)) (late_no (by kernel_rfl)) (fun _ => (show w3.drew.cell? ⟨g, 0, none⟩ = some (.int .i64 n.id) ∧ w3.drew.cell? ⟨mb, 0, none⟩ = some (.int .i64 m.kind) ∧ w3.drew.cell? ⟨mb, 1, none⟩ = some (.int .i64 m.fr) ∧ w3.drew.cell? ⟨mb, 2, none⟩ = some (.int .i64 m.dst) ∧ w3.drew.cell? ⟨mb, 3, none⟩ = some (.int .i64 m.term) from ⟨c0, m0, m1, m2, m3⟩)) (fun _ => (show w3.drew.cell? ⟨g, 0, none⟩ = some (.int .i64 n.id) ∧ w3.drew.cell? ⟨mb, 0, none⟩ = some (.int .i64 m.kind) ∧ w3.drew.cell? ⟨mb, 1, none⟩ = some (.int .i64 m.fr) ∧ w3.drew.cell? ⟨mb, 2, none⟩ = some (.int .i64 m.dst) ∧ w3.drew.cell? ⟨mb, 3, none⟩ = some (.int .i64 m.term) from ⟨c0, m0, m1, m2, m3⟩)) (fun _ => (show w3.drew.cell? ⟨g, 0, none⟩ = some (.int .i64 n.id) ∧ w3.drew.cell? ⟨mb, 0, none⟩ = some (.int .i64 m.kind) ∧ w3.drew.cell? ⟨mb, 1, none⟩ = some (.int .i64 m.fr) ∧ w3.drew.cell? ⟨mb, 2, none⟩ = some (.int .i64 m.dst) ∧ w3.drew.cell? ⟨mb, 3, none⟩ = some (.int .i64 m.term) from ⟨c0, m0, m1, m2, m3⟩))) ?_
  rotate_left
  · (intro W; go_simp; try with_reducible rfl)
  try simp only [Act.put, List.setIfInBounds_toArray, List.set_cons_zero, List.set_cons_succ]
  refine wpAnyT_take 6 33 (i := 25) (oi := { dst := some 35, op := Op.load 3 (Operand.tmp 34), type := 3, pos := "replica.go:96", after := #[{ on := 24, ground := Ground.data }, { on := 23, ground := Ground.guard }], guard := some (23, false) }) (v := ?_) (.tail _ (.tail _ (.tail _ (.head _)))) rfl (by kernel_rfl) (by kernel_rfl) (by kernel_rfl) (by kernel_rfl) (by kernel_rfl) (by kernel_rfl) (by rfl) (fun _ _ _ h => h) (by rfl) ?_ (holds6 (late_no (by kernel_rfl)) (late_no (by kernel_rfl)) (late_no (by kernel_rfl)) (fun _ => (show w3.drew.cell? ⟨g, 0, none⟩ = some (.int .i64 n.id) ∧ w3.drew.cell? ⟨mb, 0, none⟩ = some (.int .i64 m.kind) ∧ w3.drew.cell? ⟨mb, 1, none⟩ = some (.int .i64 m.fr) ∧ w3.drew.cell? ⟨mb, 2, none⟩ = some (.int .i64 m.dst) ∧ w3.drew.cell? ⟨mb, 3, none⟩ = some (.int .i64 m.term) from ⟨c0, m0, m1, m2, m3⟩)) (fun _ => (show w3.drew.cell? ⟨g, 0, none⟩ = some (.int .i64 n.id) ∧ w3.drew.cell? ⟨mb, 0, none⟩ = some (.int .i64 m.kind) ∧ w3.drew.cell? ⟨mb, 1, none⟩ = some (.int .i64 m.fr) ∧ w3.drew.cell? ⟨mb, 2, none⟩ = some (.int .i64 m.dst) ∧ w3.drew.cell? ⟨mb, 3, none⟩ = some (.int .i64 m.term) from ⟨c0, m0, m1, m2, m3⟩)) (fun _ => (show w3.drew.cell? ⟨g, 0, none⟩ = some (.int .i64 n.id) ∧ w3.drew.cell? ⟨mb, 0, none⟩ = some (.int .i64 m.kind) ∧ w3.drew.cell? ⟨mb, 1, none⟩ = some (.int .i64 m.fr) ∧ w3.drew.cell? ⟨mb, 2, none⟩ = some (.int .i64 m.dst) ∧ w3.drew.cell? ⟨mb, 3, none⟩ = some (.int .i64 m.term) from ⟨c0, m0, m1, m2, m3⟩))) ?_
  rotate_left
  · (intro W hSw; (try dsimp only at hSw); go_simp; try with_reducible rfl)
  try simp only [Act.put, List.setIfInBounds_toArray, List.set_cons_zero, List.set_cons_succ]
  refine wpAnyT_pure (i := 26) (oi := { dst := some 36, op := Op.move (Operand.tmp 6), type := 83, pos := "replica.go:96", after := #[{ on := 23, ground := Ground.guard }], guard := some (23, false) }) (v := ?_) rfl (by kernel_rfl) (by kernel_rfl) (by kernel_rfl) (by kernel_rfl) (fun _ _ _ h => h) (Or.inl ⟨by rfl, ?_⟩) (holds6 (late_no (by kernel_rfl)) (late_no (by kernel_rfl)) (late_no (by kernel_rfl)) (fun _ => (show w3.drew.cell? ⟨g, 0, none⟩ = some (.int .i64 n.id) ∧ w3.drew.cell? ⟨mb, 0, none⟩ = some (.int .i64 m.kind) ∧ w3.drew.cell? ⟨mb, 1, none⟩ = some (.int .i64 m.fr) ∧ w3.drew.cell? ⟨mb, 2, none⟩ = some (.int .i64 m.dst) ∧ w3.drew.cell? ⟨mb, 3, none⟩ = some (.int .i64 m.term) from ⟨c0, m0, m1, m2, m3⟩)) (fun _ => (show w3.drew.cell? ⟨g, 0, none⟩ = some (.int .i64 n.id) ∧ w3.drew.cell? ⟨mb, 0, none⟩ = some (.int .i64 m.kind) ∧ w3.drew.cell? ⟨mb, 1, none⟩ = some (.int .i64 m.fr) ∧ w3.drew.cell? ⟨mb, 2, none⟩ = some (.int .i64 m.dst) ∧ w3.drew.cell? ⟨mb, 3, none⟩ = some (.int .i64 m.term) from ⟨c0, m0, m1, m2, m3⟩)) (fun _ => (show w3.drew.cell? ⟨g, 0, none⟩ = some (.int .i64 n.id) ∧ w3.drew.cell? ⟨mb, 0, none⟩ = some (.int .i64 m.kind) ∧ w3.drew.cell? ⟨mb, 1, none⟩ = some (.int .i64 m.fr) ∧ w3.drew.cell? ⟨mb, 2, none⟩ = some (.int .i64 m.dst) ∧ w3.drew.cell? ⟨mb, 3, none⟩ = some (.int .i64 m.term) from ⟨c0, m0, m1, m2, m3⟩))) ?_
  rotate_left
  · (intro W; go_simp; try with_reducible rfl)
  try simp only [Act.put, List.setIfInBounds_toArray, List.set_cons_zero, List.set_cons_succ]
  refine wpAnyT_pure (i := 27) (oi := { dst := some 37, op := Op.nilCheck (Operand.tmp 36), type := 0, pos := "replica.go:96", after := #[{ on := 26, ground := Ground.data }, { on := 23, ground := Ground.guard }], guard := some (23, false) }) (v := ?_) rfl (by kernel_rfl) (by kernel_rfl) (by kernel_rfl) (by kernel_rfl) (fun _ _ _ h => h) (Or.inl ⟨by rfl, ?_⟩) (holds6 (late_no (by kernel_rfl)) (late_no (by kernel_rfl)) (late_no (by kernel_rfl)) (fun _ => (show w3.drew.cell? ⟨g, 0, none⟩ = some (.int .i64 n.id) ∧ w3.drew.cell? ⟨mb, 0, none⟩ = some (.int .i64 m.kind) ∧ w3.drew.cell? ⟨mb, 1, none⟩ = some (.int .i64 m.fr) ∧ w3.drew.cell? ⟨mb, 2, none⟩ = some (.int .i64 m.dst) ∧ w3.drew.cell? ⟨mb, 3, none⟩ = some (.int .i64 m.term) from ⟨c0, m0, m1, m2, m3⟩)) (fun _ => (show w3.drew.cell? ⟨g, 0, none⟩ = some (.int .i64 n.id) ∧ w3.drew.cell? ⟨mb, 0, none⟩ = some (.int .i64 m.kind) ∧ w3.drew.cell? ⟨mb, 1, none⟩ = some (.int .i64 m.fr) ∧ w3.drew.cell? ⟨mb, 2, none⟩ = some (.int .i64 m.dst) ∧ w3.drew.cell? ⟨mb, 3, none⟩ = some (.int .i64 m.term) from ⟨c0, m0, m1, m2, m3⟩)) (fun _ => (show w3.drew.cell? ⟨g, 0, none⟩ = some (.int .i64 n.id) ∧ w3.drew.cell? ⟨mb, 0, none⟩ = some (.int .i64 m.kind) ∧ w3.drew.cell? ⟨mb, 1, none⟩ = some (.int .i64 m.fr) ∧ w3.drew.cell? ⟨mb, 2, none⟩ = some (.int .i64 m.dst) ∧ w3.drew.cell? ⟨mb, 3, none⟩ = some (.int .i64 m.term) from ⟨c0, m0, m1, m2, m3⟩))) ?_
  rotate_left
  · (intro W; go_simp; try with_reducible rfl)
  try simp only [Act.put, List.setIfInBounds_toArray, List.set_cons_zero, List.set_cons_succ]
  refine wpAnyT_pure (i := 28) (oi := { dst := some 38, op := Op.fieldAddr 87 (Operand.tmp 37) 0, type := 0, pos := "replica.go:96", after := #[{ on := 27, ground := Ground.data }, { on := 23, ground := Ground.guard }], guard := some (23, false) }) (v := ?_) rfl (by kernel_rfl) (by kernel_rfl) (by kernel_rfl) (by kernel_rfl) (fun _ _ _ h => h) (Or.inl ⟨by rfl, ?_⟩) (holds6 (late_no (by kernel_rfl)) (late_no (by kernel_rfl)) (late_no (by kernel_rfl)) (fun _ => (show w3.drew.cell? ⟨g, 0, none⟩ = some (.int .i64 n.id) ∧ w3.drew.cell? ⟨mb, 0, none⟩ = some (.int .i64 m.kind) ∧ w3.drew.cell? ⟨mb, 1, none⟩ = some (.int .i64 m.fr) ∧ w3.drew.cell? ⟨mb, 2, none⟩ = some (.int .i64 m.dst) ∧ w3.drew.cell? ⟨mb, 3, none⟩ = some (.int .i64 m.term) from ⟨c0, m0, m1, m2, m3⟩)) (fun _ => (show w3.drew.cell? ⟨g, 0, none⟩ = some (.int .i64 n.id) ∧ w3.drew.cell? ⟨mb, 0, none⟩ = some (.int .i64 m.kind) ∧ w3.drew.cell? ⟨mb, 1, none⟩ = some (.int .i64 m.fr) ∧ w3.drew.cell? ⟨mb, 2, none⟩ = some (.int .i64 m.dst) ∧ w3.drew.cell? ⟨mb, 3, none⟩ = some (.int .i64 m.term) from ⟨c0, m0, m1, m2, m3⟩)) (fun _ => (show w3.drew.cell? ⟨g, 0, none⟩ = some (.int .i64 n.id) ∧ w3.drew.cell? ⟨mb, 0, none⟩ = some (.int .i64 m.kind) ∧ w3.drew.cell? ⟨mb, 1, none⟩ = some (.int .i64 m.fr) ∧ w3.drew.cell? ⟨mb, 2, none⟩ = some (.int .i64 m.dst) ∧ w3.drew.cell? ⟨mb, 3, none⟩ = some (.int .i64 m.term) from ⟨c0, m0, m1, m2, m3⟩))) ?_
  rotate_left
  · (intro W; go_simp; try with_reducible rfl)
  try simp only [Act.put, List.setIfInBounds_toArray, List.set_cons_zero, List.set_cons_succ]
  refine wpAnyT_pure (i := 29) (oi := { dst := some 39, op := Op.fieldAddr 37 (Operand.tmp 38) 0, type := 0, pos := "replica.go:96", after := #[{ on := 28, ground := Ground.data }, { on := 23, ground := Ground.guard }], guard := some (23, false) }) (v := ?_) rfl (by kernel_rfl) (by kernel_rfl) (by kernel_rfl) (by kernel_rfl) (fun _ _ _ h => h) (Or.inl ⟨by rfl, ?_⟩) (holds6 (late_no (by kernel_rfl)) (late_no (by kernel_rfl)) (late_no (by kernel_rfl)) (fun _ => (show w3.drew.cell? ⟨g, 0, none⟩ = some (.int .i64 n.id) ∧ w3.drew.cell? ⟨mb, 0, none⟩ = some (.int .i64 m.kind) ∧ w3.drew.cell? ⟨mb, 1, none⟩ = some (.int .i64 m.fr) ∧ w3.drew.cell? ⟨mb, 2, none⟩ = some (.int .i64 m.dst) ∧ w3.drew.cell? ⟨mb, 3, none⟩ = some (.int .i64 m.term) from ⟨c0, m0, m1, m2, m3⟩)) (fun _ => (show w3.drew.cell? ⟨g, 0, none⟩ = some (.int .i64 n.id) ∧ w3.drew.cell? ⟨mb, 0, none⟩ = some (.int .i64 m.kind) ∧ w3.drew.cell? ⟨mb, 1, none⟩ = some (.int .i64 m.fr) ∧ w3.drew.cell? ⟨mb, 2, none⟩ = some (.int .i64 m.dst) ∧ w3.drew.cell? ⟨mb, 3, none⟩ = some (.int .i64 m.term) from ⟨c0, m0, m1, m2, m3⟩)) (fun _ => (show w3.drew.cell? ⟨g, 0, none⟩ = some (.int .i64 n.id) ∧ w3.drew.cell? ⟨mb, 0, none⟩ = some (.int .i64 m.kind) ∧ w3.drew.cell? ⟨mb, 1, none⟩ = some (.int .i64 m.fr) ∧ w3.drew.cell? ⟨mb, 2, none⟩ = some (.int .i64 m.dst) ∧ w3.drew.cell? ⟨mb, 3, none⟩ = some (.int .i64 m.term) from ⟨c0, m0, m1, m2, m3⟩))) ?_
  rotate_left
  · (intro W; go_simp; try with_reducible rfl)
  try simp only [Act.put, List.setIfInBounds_toArray, List.set_cons_zero, List.set_cons_succ]
  refine wpAnyT_take 6 33 (i := 30) (oi := { dst := some 40, op := Op.load 3 (Operand.tmp 39), type := 3, pos := "replica.go:96", after := #[{ on := 29, ground := Ground.data }, { on := 23, ground := Ground.guard }], guard := some (23, false) }) (v := ?_) (.tail _ (.tail _ (.tail _ (.head _)))) rfl (by kernel_rfl) (by kernel_rfl) (by kernel_rfl) (by kernel_rfl) (by kernel_rfl) (by kernel_rfl) (by rfl) (fun _ _ _ h => h) (by rfl) ?_ (holds6 (late_no (by kernel_rfl)) (late_no (by kernel_rfl)) (late_no (by kernel_rfl)) (fun _ => (show w3.drew.cell? ⟨g, 0, none⟩ = some (.int .i64 n.id) ∧ w3.drew.cell? ⟨mb, 0, none⟩ = some (.int .i64 m.kind) ∧ w3.drew.cell? ⟨mb, 1, none⟩ = some (.int .i64 m.fr) ∧ w3.drew.cell? ⟨mb, 2, none⟩ = some (.int .i64 m.dst) ∧ w3.drew.cell? ⟨mb, 3, none⟩ = some (.int .i64 m.term) from ⟨c0, m0, m1, m2, m3⟩)) (fun _ => (show w3.drew.cell? ⟨g, 0, none⟩ = some (.int .i64 n.id) ∧ w3.drew.cell? ⟨mb, 0, none⟩ = some (.int .i64 m.kind) ∧ w3.drew.cell? ⟨mb, 1, none⟩ = some (.int .i64 m.fr) ∧ w3.drew.cell? ⟨mb, 2, none⟩ = some (.int .i64 m.dst) ∧ w3.drew.cell? ⟨mb, 3, none⟩ = some (.int .i64 m.term) from ⟨c0, m0, m1, m2, m3⟩)) (fun _ => (show w3.drew.cell? ⟨g, 0, none⟩ = some (.int .i64 n.id) ∧ w3.drew.cell? ⟨mb, 0, none⟩ = some (.int .i64 m.kind) ∧ w3.drew.cell? ⟨mb, 1, none⟩ = some (.int .i64 m.fr) ∧ w3.drew.cell? ⟨mb, 2, none⟩ = some (.int .i64 m.dst) ∧ w3.drew.cell? ⟨mb, 3, none⟩ = some (.int .i64 m.term) from ⟨c0, m0, m1, m2, m3⟩))) ?_
  rotate_left
  · (intro W hSw; (try dsimp only at hSw); go_simp; try with_reducible rfl)
  try simp only [Act.put, List.setIfInBounds_toArray, List.set_cons_zero, List.set_cons_succ]
  refine wpAnyT_pure (i := 31) (oi := { dst := some 41, op := Op.binOp BinOp.neq 3 (Operand.tmp 35) (Operand.tmp 40) 3, type := 4, pos := "replica.go:96", after := #[{ on := 25, ground := Ground.data }, { on := 30, ground := Ground.data }, { on := 23, ground := Ground.guard }], guard := some (23, false) }) (v := ?_) rfl (by kernel_rfl) (by kernel_rfl) (by kernel_rfl) (by kernel_rfl) (fun _ _ _ h => h) (Or.inl ⟨by rfl, ?_⟩) (holds6 (late_no (by kernel_rfl)) (late_no (by kernel_rfl)) (late_no (by kernel_rfl)) (fun _ => (show w3.drew.cell? ⟨g, 0, none⟩ = some (.int .i64 n.id) ∧ w3.drew.cell? ⟨mb, 0, none⟩ = some (.int .i64 m.kind) ∧ w3.drew.cell? ⟨mb, 1, none⟩ = some (.int .i64 m.fr) ∧ w3.drew.cell? ⟨mb, 2, none⟩ = some (.int .i64 m.dst) ∧ w3.drew.cell? ⟨mb, 3, none⟩ = some (.int .i64 m.term) from ⟨c0, m0, m1, m2, m3⟩)) (fun _ => (show w3.drew.cell? ⟨g, 0, none⟩ = some (.int .i64 n.id) ∧ w3.drew.cell? ⟨mb, 0, none⟩ = some (.int .i64 m.kind) ∧ w3.drew.cell? ⟨mb, 1, none⟩ = some (.int .i64 m.fr) ∧ w3.drew.cell? ⟨mb, 2, none⟩ = some (.int .i64 m.dst) ∧ w3.drew.cell? ⟨mb, 3, none⟩ = some (.int .i64 m.term) from ⟨c0, m0, m1, m2, m3⟩)) (fun _ => (show w3.drew.cell? ⟨g, 0, none⟩ = some (.int .i64 n.id) ∧ w3.drew.cell? ⟨mb, 0, none⟩ = some (.int .i64 m.kind) ∧ w3.drew.cell? ⟨mb, 1, none⟩ = some (.int .i64 m.fr) ∧ w3.drew.cell? ⟨mb, 2, none⟩ = some (.int .i64 m.dst) ∧ w3.drew.cell? ⟨mb, 3, none⟩ = some (.int .i64 m.term) from ⟨c0, m0, m1, m2, m3⟩))) ?_
  rotate_left
  · (intro W; go_simp; try with_reducible rfl)
  try simp only [Act.put, List.setIfInBounds_toArray, List.set_cons_zero, List.set_cons_succ]
  refine wpAnyT_pure (i := 32) (oi := { dst := some 42, op := Op.pick (Operand.tmp 33) (Operand.const (Value.bool true)) (Operand.tmp 41), type := 4, pos := "replica.go:96", after := #[{ on := 23, ground := Ground.data }, { on := 31, ground := Ground.data }], guard := none }) (v := ?_) rfl (by kernel_rfl) (by kernel_rfl) (by kernel_rfl) (by kernel_rfl) (fun _ _ _ h => h) (Or.inl ⟨by rfl, ?_⟩) (holds6 (late_no (by kernel_rfl)) (late_no (by kernel_rfl)) (late_no (by kernel_rfl)) (fun _ => (show w3.drew.cell? ⟨g, 0, none⟩ = some (.int .i64 n.id) ∧ w3.drew.cell? ⟨mb, 0, none⟩ = some (.int .i64 m.kind) ∧ w3.drew.cell? ⟨mb, 1, none⟩ = some (.int .i64 m.fr) ∧ w3.drew.cell? ⟨mb, 2, none⟩ = some (.int .i64 m.dst) ∧ w3.drew.cell? ⟨mb, 3, none⟩ = some (.int .i64 m.term) from ⟨c0, m0, m1, m2, m3⟩)) (fun _ => (show w3.drew.cell? ⟨g, 0, none⟩ = some (.int .i64 n.id) ∧ w3.drew.cell? ⟨mb, 0, none⟩ = some (.int .i64 m.kind) ∧ w3.drew.cell? ⟨mb, 1, none⟩ = some (.int .i64 m.fr) ∧ w3.drew.cell? ⟨mb, 2, none⟩ = some (.int .i64 m.dst) ∧ w3.drew.cell? ⟨mb, 3, none⟩ = some (.int .i64 m.term) from ⟨c0, m0, m1, m2, m3⟩)) (fun _ => (show w3.drew.cell? ⟨g, 0, none⟩ = some (.int .i64 n.id) ∧ w3.drew.cell? ⟨mb, 0, none⟩ = some (.int .i64 m.kind) ∧ w3.drew.cell? ⟨mb, 1, none⟩ = some (.int .i64 m.fr) ∧ w3.drew.cell? ⟨mb, 2, none⟩ = some (.int .i64 m.dst) ∧ w3.drew.cell? ⟨mb, 3, none⟩ = some (.int .i64 m.term) from ⟨c0, m0, m1, m2, m3⟩))) ?_
  rotate_left
  · (intro W; go_simp; try with_reducible rfl)
  try simp only [Act.put, List.setIfInBounds_toArray, List.set_cons_zero, List.set_cons_succ]
  refine wpAnyT_ready (rs := [33]) (by kernel_rfl) (by simp) (AllT.cons (o := { dst := some 43, op := Op.move (Operand.tmp 42), type := 4, pos := "replica.go:96", after := #[{ on := 32, ground := Ground.data }, { on := 23, ground := Ground.chain }], guard := none }) rfl (fun K hK => ?_) AllT.nil)
  go_simp
  refine hK.out _ _ (holds6 (late_no (by kernel_rfl)) (late_no (by kernel_rfl)) (late_no (by kernel_rfl)) (late_no (by kernel_rfl)) (fun _ => (show w3.drew.cell? ⟨g, 0, none⟩ = some (.int .i64 n.id) ∧ w3.drew.cell? ⟨mb, 0, none⟩ = some (.int .i64 m.kind) ∧ w3.drew.cell? ⟨mb, 1, none⟩ = some (.int .i64 m.fr) ∧ w3.drew.cell? ⟨mb, 2, none⟩ = some (.int .i64 m.dst) ∧ w3.drew.cell? ⟨mb, 3, none⟩ = some (.int .i64 m.term) from ⟨c0, m0, m1, m2, m3⟩)) (fun _ => (show w3.drew.cell? ⟨g, 0, none⟩ = some (.int .i64 n.id) ∧ w3.drew.cell? ⟨mb, 0, none⟩ = some (.int .i64 m.kind) ∧ w3.drew.cell? ⟨mb, 1, none⟩ = some (.int .i64 m.fr) ∧ w3.drew.cell? ⟨mb, 2, none⟩ = some (.int .i64 m.dst) ∧ w3.drew.cell? ⟨mb, 3, none⟩ = some (.int .i64 m.term) from ⟨c0, m0, m1, m2, m3⟩))) ?_
  clear hK K
  try simp only [Act.put, List.setIfInBounds_toArray, List.set_cons_zero, List.set_cons_succ]
  refine wpAnyT_pure (i := 34) (oi := { dst := some 44, op := Op.fieldAddr 25 (Operand.tmp 3) 0, type := 0, pos := "replica.go:96", after := #[{ on := 33, ground := Ground.guard }], guard := some (33, false) }) (v := ?_) rfl (by kernel_rfl) (by kernel_rfl) (by kernel_rfl) (by kernel_rfl) (fun _ _ _ h => h) (Or.inl ⟨by rfl, ?_⟩) (holds6 (late_no (by kernel_rfl)) (late_no (by kernel_rfl)) (late_no (by kernel_rfl)) (late_no (by kernel_rfl)) (fun _ => (show w3.drew.cell? ⟨g, 0, none⟩ = some (.int .i64 n.id) ∧ w3.drew.cell? ⟨mb, 0, none⟩ = some (.int .i64 m.kind) ∧ w3.drew.cell? ⟨mb, 1, none⟩ = some (.int .i64 m.fr) ∧ w3.drew.cell? ⟨mb, 2, none⟩ = some (.int .i64 m.dst) ∧ w3.drew.cell? ⟨mb, 3, none⟩ = some (.int .i64 m.term) from ⟨c0, m0, m1, m2, m3⟩)) (fun _ => (show w3.drew.cell? ⟨g, 0, none⟩ = some (.int .i64 n.id) ∧ w3.drew.cell? ⟨mb, 0, none⟩ = some (.int .i64 m.kind) ∧ w3.drew.cell? ⟨mb, 1, none⟩ = some (.int .i64 m.fr) ∧ w3.drew.cell? ⟨mb, 2, none⟩ = some (.int .i64 m.dst) ∧ w3.drew.cell? ⟨mb, 3, none⟩ = some (.int .i64 m.term) from ⟨c0, m0, m1, m2, m3⟩))) ?_
  rotate_left
  · (intro W; go_simp; try with_reducible rfl)
  try simp only [Act.put, List.setIfInBounds_toArray, List.set_cons_zero, List.set_cons_succ]
  refine wpAnyT_take 6 39 (i := 35) (oi := { dst := some 45, op := Op.load 3 (Operand.tmp 44), type := 3, pos := "replica.go:96", after := #[{ on := 34, ground := Ground.data }, { on := 33, ground := Ground.guard }], guard := some (33, false) }) (v := ?_) (.tail _ (.tail _ (.tail _ (.tail _ (.head _))))) rfl (by kernel_rfl) (by kernel_rfl) (by kernel_rfl) (by kernel_rfl) (by kernel_rfl) (by kernel_rfl) (by rfl) (fun _ _ _ h => h) (by rfl) ?_ (holds6 (late_no (by kernel_rfl)) (late_no (by kernel_rfl)) (late_no (by kernel_rfl)) (late_no (by kernel_rfl)) (fun _ => (show w3.drew.cell? ⟨g, 0, none⟩ = some (.int .i64 n.id) ∧ w3.drew.cell? ⟨mb, 0, none⟩ = some (.int .i64 m.kind) ∧ w3.drew.cell? ⟨mb, 1, none⟩ = some (.int .i64 m.fr) ∧ w3.drew.cell? ⟨mb, 2, none⟩ = some (.int .i64 m.dst) ∧ w3.drew.cell? ⟨mb, 3, none⟩ = some (.int .i64 m.term) from ⟨c0, m0, m1, m2, m3⟩)) (fun _ => (show w3.drew.cell? ⟨g, 0, none⟩ = some (.int .i64 n.id) ∧ w3.drew.cell? ⟨mb, 0, none⟩ = some (.int .i64 m.kind) ∧ w3.drew.cell? ⟨mb, 1, none⟩ = some (.int .i64 m.fr) ∧ w3.drew.cell? ⟨mb, 2, none⟩ = some (.int .i64 m.dst) ∧ w3.drew.cell? ⟨mb, 3, none⟩ = some (.int .i64 m.term) from ⟨c0, m0, m1, m2, m3⟩))) ?_
  rotate_left
  · (intro W hSw; (try dsimp only at hSw); go_simp; try with_reducible rfl)
  try simp only [Act.put, List.setIfInBounds_toArray, List.set_cons_zero, List.set_cons_succ]
  refine wpAnyT_call 6 39 (i := 36) (oi := { dst := some 46, op := Op.call { callee := Callee.value (Operand.func 35), args := #[Operand.tmp 45, Operand.const (Value.int IntKind.i64 1), Operand.const (Value.int IntKind.i64 5)], argTypes := #[3, 3, 3] }, type := 4, pos := "replica.go:96", after := #[{ on := 35, ground := Ground.data }, { on := 33, ground := Ground.chain }, { on := 33, ground := Ground.guard }], guard := some (33, false) }) (v := ?_) (g := 35) (args := ?_) (.tail _ (.tail _ (.tail _ (.tail _ (.head _))))) rfl (by kernel_rfl) (by kernel_rfl) (by kernel_rfl) (by kernel_rfl) (by kernel_rfl) (by kernel_rfl) (by rfl) (fun _ _ _ h => h) (by rfl) ?_ ?_ (holds6 (late_no (by kernel_rfl)) (late_no (by kernel_rfl)) (late_no (by kernel_rfl)) (late_no (by kernel_rfl)) (fun _ => (show w3.drew.cell? ⟨g, 0, none⟩ = some (.int .i64 n.id) ∧ w3.drew.cell? ⟨mb, 0, none⟩ = some (.int .i64 m.kind) ∧ w3.drew.cell? ⟨mb, 1, none⟩ = some (.int .i64 m.fr) ∧ w3.drew.cell? ⟨mb, 2, none⟩ = some (.int .i64 m.dst) ∧ w3.drew.cell? ⟨mb, 3, none⟩ = some (.int .i64 m.term) from ⟨c0, m0, m1, m2, m3⟩)) (fun _ => (show w3.drew.cell? ⟨g, 0, none⟩ = some (.int .i64 n.id) ∧ w3.drew.cell? ⟨mb, 0, none⟩ = some (.int .i64 m.kind) ∧ w3.drew.cell? ⟨mb, 1, none⟩ = some (.int .i64 m.fr) ∧ w3.drew.cell? ⟨mb, 2, none⟩ = some (.int .i64 m.dst) ∧ w3.drew.cell? ⟨mb, 3, none⟩ = some (.int .i64 m.term) from ⟨c0, m0, m1, m2, m3⟩))) ?_
  rotate_left 2
  · (intro W hSw; (try dsimp only at hSw); go_simp; with_reducible rfl)
  · (intro W hSw; (try dsimp only at hSw); exact (WA W).out)
  try simp only [Act.put, List.setIfInBounds_toArray, List.set_cons_zero, List.set_cons_succ]
  refine wpAnyT_pure (i := 37) (oi := { dst := some 47, op := Op.unOp UnOp.not 4 (Operand.tmp 46), type := 4, pos := "replica.go:96", after := #[{ on := 36, ground := Ground.data }, { on := 33, ground := Ground.guard }], guard := some (33, false) }) (v := ?_) rfl (by kernel_rfl) (by kernel_rfl) (by kernel_rfl) (by kernel_rfl) (fun _ _ _ h => h) (Or.inl ⟨by rfl, ?_⟩) (holds6 (late_no (by kernel_rfl)) (late_no (by kernel_rfl)) (late_no (by kernel_rfl)) (late_no (by kernel_rfl)) (fun _ => (show w3.drew.cell? ⟨g, 0, none⟩ = some (.int .i64 n.id) ∧ w3.drew.cell? ⟨mb, 0, none⟩ = some (.int .i64 m.kind) ∧ w3.drew.cell? ⟨mb, 1, none⟩ = some (.int .i64 m.fr) ∧ w3.drew.cell? ⟨mb, 2, none⟩ = some (.int .i64 m.dst) ∧ w3.drew.cell? ⟨mb, 3, none⟩ = some (.int .i64 m.term) from ⟨c0, m0, m1, m2, m3⟩)) (fun _ => (show w3.drew.cell? ⟨g, 0, none⟩ = some (.int .i64 n.id) ∧ w3.drew.cell? ⟨mb, 0, none⟩ = some (.int .i64 m.kind) ∧ w3.drew.cell? ⟨mb, 1, none⟩ = some (.int .i64 m.fr) ∧ w3.drew.cell? ⟨mb, 2, none⟩ = some (.int .i64 m.dst) ∧ w3.drew.cell? ⟨mb, 3, none⟩ = some (.int .i64 m.term) from ⟨c0, m0, m1, m2, m3⟩))) ?_
  rotate_left
  · (intro W; go_simp; try with_reducible rfl)
  try simp only [Act.put, List.setIfInBounds_toArray, List.set_cons_zero, List.set_cons_succ]
  refine wpAnyT_pure (i := 38) (oi := { dst := some 48, op := Op.pick (Operand.tmp 43) (Operand.const (Value.bool true)) (Operand.tmp 47), type := 4, pos := "replica.go:96", after := #[{ on := 33, ground := Ground.data }, { on := 37, ground := Ground.data }], guard := none }) (v := ?_) rfl (by kernel_rfl) (by kernel_rfl) (by kernel_rfl) (by kernel_rfl) (fun _ _ _ h => h) (Or.inl ⟨by rfl, ?_⟩) (holds6 (late_no (by kernel_rfl)) (late_no (by kernel_rfl)) (late_no (by kernel_rfl)) (late_no (by kernel_rfl)) (fun _ => (show w3.drew.cell? ⟨g, 0, none⟩ = some (.int .i64 n.id) ∧ w3.drew.cell? ⟨mb, 0, none⟩ = some (.int .i64 m.kind) ∧ w3.drew.cell? ⟨mb, 1, none⟩ = some (.int .i64 m.fr) ∧ w3.drew.cell? ⟨mb, 2, none⟩ = some (.int .i64 m.dst) ∧ w3.drew.cell? ⟨mb, 3, none⟩ = some (.int .i64 m.term) from ⟨c0, m0, m1, m2, m3⟩)) (fun _ => (show w3.drew.cell? ⟨g, 0, none⟩ = some (.int .i64 n.id) ∧ w3.drew.cell? ⟨mb, 0, none⟩ = some (.int .i64 m.kind) ∧ w3.drew.cell? ⟨mb, 1, none⟩ = some (.int .i64 m.fr) ∧ w3.drew.cell? ⟨mb, 2, none⟩ = some (.int .i64 m.dst) ∧ w3.drew.cell? ⟨mb, 3, none⟩ = some (.int .i64 m.term) from ⟨c0, m0, m1, m2, m3⟩))) ?_
  rotate_left
  · (intro W; go_simp; try with_reducible rfl)
  try simp only [Act.put, List.setIfInBounds_toArray, List.set_cons_zero, List.set_cons_succ]
  refine wpAnyT_ready (rs := [39]) (by kernel_rfl) (by simp) (AllT.cons (o := { dst := some 49, op := Op.move (Operand.tmp 48), type := 4, pos := "replica.go:96", after := #[{ on := 38, ground := Ground.data }, { on := 36, ground := Ground.chain }], guard := none }) rfl (fun K hK => ?_) AllT.nil)
  go_simp
  refine hK.out _ _ (holds6 (late_no (by kernel_rfl)) (late_no (by kernel_rfl)) (late_no (by kernel_rfl)) (late_no (by kernel_rfl)) (late_no (by kernel_rfl)) (fun _ => (show w3.drew.cell? ⟨g, 0, none⟩ = some (.int .i64 n.id) ∧ w3.drew.cell? ⟨mb, 0, none⟩ = some (.int .i64 m.kind) ∧ w3.drew.cell? ⟨mb, 1, none⟩ = some (.int .i64 m.fr) ∧ w3.drew.cell? ⟨mb, 2, none⟩ = some (.int .i64 m.dst) ∧ w3.drew.cell? ⟨mb, 3, none⟩ = some (.int .i64 m.term) from ⟨c0, m0, m1, m2, m3⟩))) ?_
  clear hK K
  try simp only [Act.put, List.setIfInBounds_toArray, List.set_cons_zero, List.set_cons_succ]
  refine wpAnyT_pure (i := 40) (oi := { dst := some 50, op := Op.fieldAddr 25 (Operand.tmp 3) 3, type := 0, pos := "replica.go:96", after := #[{ on := 39, ground := Ground.guard }], guard := some (39, false) }) (v := ?_) rfl (by kernel_rfl) (by kernel_rfl) (by kernel_rfl) (by kernel_rfl) (fun _ _ _ h => h) (Or.inl ⟨by rfl, ?_⟩) (holds6 (late_no (by kernel_rfl)) (late_no (by kernel_rfl)) (late_no (by kernel_rfl)) (late_no (by kernel_rfl)) (late_no (by kernel_rfl)) (fun _ => (show w3.drew.cell? ⟨g, 0, none⟩ = some (.int .i64 n.id) ∧ w3.drew.cell? ⟨mb, 0, none⟩ = some (.int .i64 m.kind) ∧ w3.drew.cell? ⟨mb, 1, none⟩ = some (.int .i64 m.fr) ∧ w3.drew.cell? ⟨mb, 2, none⟩ = some (.int .i64 m.dst) ∧ w3.drew.cell? ⟨mb, 3, none⟩ = some (.int .i64 m.term) from ⟨c0, m0, m1, m2, m3⟩))) ?_
  rotate_left
  · (intro W; go_simp; try with_reducible rfl)
  try simp only [Act.put, List.setIfInBounds_toArray, List.set_cons_zero, List.set_cons_succ]
  refine wpAnyT_take 6 44 (i := 41) (oi := { dst := some 51, op := Op.load 3 (Operand.tmp 50), type := 3, pos := "replica.go:96", after := #[{ on := 40, ground := Ground.data }, { on := 39, ground := Ground.guard }], guard := some (39, false) }) (v := ?_) (.tail _ (.tail _ (.tail _ (.tail _ (.tail _ (.head _)))))) rfl (by kernel_rfl) (by kernel_rfl) (by kernel_rfl) (by kernel_rfl) (by kernel_rfl) (by kernel_rfl) (by rfl) (fun _ _ _ h => h) (by rfl) ?_ (holds6 (late_no (by kernel_rfl)) (late_no (by kernel_rfl)) (late_no (by kernel_rfl)) (late_no (by kernel_rfl)) (late_no (by kernel_rfl)) (fun _ => (show w3.drew.cell? ⟨g, 0, none⟩ = some (.int .i64 n.id) ∧ w3.drew.cell? ⟨mb, 0, none⟩ = some (.int .i64 m.kind) ∧ w3.drew.cell? ⟨mb, 1, none⟩ = some (.int .i64 m.fr) ∧ w3.drew.cell? ⟨mb, 2, none⟩ = some (.int .i64 m.dst) ∧ w3.drew.cell? ⟨mb, 3, none⟩ = some (.int .i64 m.term) from ⟨c0, m0, m1, m2, m3⟩))) ?_
  rotate_left
  · (intro W hSw; (try dsimp only at hSw); go_simp; try with_reducible rfl)
  try simp only [Act.put, List.setIfInBounds_toArray, List.set_cons_zero, List.set_cons_succ]
  refine wpAnyT_call 6 44 (i := 42) (oi := { dst := some 52, op := Op.call { callee := Callee.value (Operand.func 35), args := #[Operand.tmp 51, Operand.const (Value.int IntKind.i64 0), Operand.const (Value.int IntKind.i64 1073741824)], argTypes := #[3, 3, 3] }, type := 4, pos := "replica.go:96", after := #[{ on := 41, ground := Ground.data }, { on := 39, ground := Ground.chain }, { on := 39, ground := Ground.guard }], guard := some (39, false) }) (v := ?_) (g := 35) (args := ?_) (.tail _ (.tail _ (.tail _ (.tail _ (.tail _ (.head _)))))) rfl (by kernel_rfl) (by kernel_rfl) (by kernel_rfl) (by kernel_rfl) (by kernel_rfl) (by kernel_rfl) (by rfl) (fun _ _ _ h => h) (by rfl) ?_ ?_ (holds6 (late_no (by kernel_rfl)) (late_no (by kernel_rfl)) (late_no (by kernel_rfl)) (late_no (by kernel_rfl)) (late_no (by kernel_rfl)) (fun _ => (show w3.drew.cell? ⟨g, 0, none⟩ = some (.int .i64 n.id) ∧ w3.drew.cell? ⟨mb, 0, none⟩ = some (.int .i64 m.kind) ∧ w3.drew.cell? ⟨mb, 1, none⟩ = some (.int .i64 m.fr) ∧ w3.drew.cell? ⟨mb, 2, none⟩ = some (.int .i64 m.dst) ∧ w3.drew.cell? ⟨mb, 3, none⟩ = some (.int .i64 m.term) from ⟨c0, m0, m1, m2, m3⟩))) ?_
  rotate_left 2
  · (intro W hSw; (try dsimp only at hSw); go_simp; with_reducible rfl)
  · (intro W hSw; (try dsimp only at hSw); exact (WB W).out)
  try simp only [Act.put, List.setIfInBounds_toArray, List.set_cons_zero, List.set_cons_succ]
  refine wpAnyT_pure (i := 43) (oi := { dst := some 53, op := Op.unOp UnOp.not 4 (Operand.tmp 52), type := 4, pos := "replica.go:96", after := #[{ on := 42, ground := Ground.data }, { on := 39, ground := Ground.guard }], guard := some (39, false) }) (v := ?_) rfl (by kernel_rfl) (by kernel_rfl) (by kernel_rfl) (by kernel_rfl) (fun _ _ _ h => h) (Or.inl ⟨by rfl, ?_⟩) (holds6 (late_no (by kernel_rfl)) (late_no (by kernel_rfl)) (late_no (by kernel_rfl)) (late_no (by kernel_rfl)) (late_no (by kernel_rfl)) (fun _ => (show w3.drew.cell? ⟨g, 0, none⟩ = some (.int .i64 n.id) ∧ w3.drew.cell? ⟨mb, 0, none⟩ = some (.int .i64 m.kind) ∧ w3.drew.cell? ⟨mb, 1, none⟩ = some (.int .i64 m.fr) ∧ w3.drew.cell? ⟨mb, 2, none⟩ = some (.int .i64 m.dst) ∧ w3.drew.cell? ⟨mb, 3, none⟩ = some (.int .i64 m.term) from ⟨c0, m0, m1, m2, m3⟩))) ?_
  rotate_left
  · (intro W; go_simp; try with_reducible rfl)
  try simp only [Act.put, List.setIfInBounds_toArray, List.set_cons_zero, List.set_cons_succ]
  refine wpAnyT_ready (rs := [44]) (by kernel_rfl) (by simp) (AllT.cons (o := { dst := some 54, op := Op.pick (Operand.tmp 49) (Operand.const (Value.bool true)) (Operand.tmp 53), type := 4, pos := "replica.go:96", after := #[{ on := 39, ground := Ground.data }, { on := 43, ground := Ground.data }], guard := none }) rfl (fun K hK => ?_) AllT.nil)
  go_simp
  refine hK.out _ _ (holds6 (late_no (by kernel_rfl)) (late_no (by kernel_rfl)) (late_no (by kernel_rfl)) (late_no (by kernel_rfl)) (late_no (by kernel_rfl)) (late_no (by kernel_rfl))) ?_
  clear hK K
  try simp only [Act.put, List.setIfInBounds_toArray, List.set_cons_zero, List.set_cons_succ]
  refine wpAnyT_done (by kernel_rfl) ?_ _
  have D4 := D3.drew
  have mb4 := mb3.grow (only_drew (only_refl w3 none))
  have K4 := Lib.hid (D3.kept (only_drew (only_refl w3 none)))
  obtain ⟨w4, hw4⟩ : ∃ w4, w3.drew = w4 := ⟨_, rfl⟩
  rw [hw4] at D4 mb4 K4
  rw [hw4]
  clear hw4 D3 mb3 c0 c1 c2 c3 c4 c5 c6 c7 c8 c9 c10 c11 c12 m0 m1 m2 m3 m4 m5 m6 m7 m8 m9 k1 k2
  go_upto_region 4 with fail
  obtain ⟨c0, c1, c2, c3, c4, c5, c6, c7, c8, c9, c10, c11, c12, _⟩ := D4.all
  obtain ⟨m0, m1, m2, m3, _⟩ := mb4.all
  by_cases hlt : n.term < m.term
  · as_aux_lemma =>
      go_quiet (fail)
      have gq : w4.grownBy (w4.drewN nq) none := only_drewN (only_refl w4 none) nq
      obtain ⟨wq, hwq⟩ : ∃ x, w4.drewN nq = x := ⟨_, rfl⟩
      rw [hwq] at gq
      rw [hwq]
      clear hwq
      have Dq := D4.grow gq
      have Kq := Lib.hid (K4.out.trans (D4.kept gq))
      have mbq := mb4.grow gq
      have HMB3 := Lib.hid (show MB w3 mb m from ⟨(K4.out.blk mb HPMB.out) ▸ mb4.at_⟩)
      clear D4 mb4 K4 gq c0 c1 c2 c3 c4 c5 c6 c7 c8 c9 c10 c11 c12 m0 m1 m2 m3
      have q1 := Dq.cell 1 _ rfl
      have q2 := Dq.cell 2 _ rfl
      have q7 := Dq.cell 7 _ rfl
      have q10 := Dq.cell 10 _ rfl
      have q11 := Dq.cell 11 _ rfl
      have q12 := Dq.cell 12 _ rfl
      have f1 := Dq.fr 1
      have f2 := Dq.fr 2
      have f7 := Dq.fr 7
      have f10 := Dq.fr 10
      have f11 := Dq.fr 11
      have f12 := Dq.fr 12
      have m3 := mbq.all.2.2.2.1
      clear mbq
      go_upto_region 6 with fail
      obtain ⟨wa0, hwa0⟩ : ∃ Z, wq.setCell ⟨g, 1, none⟩ (.int .i64 m.term) = Z := ⟨_, rfl⟩
      have swa0 := Dq.set 1 (.int .i64 m.term) { n with term := m.term } rfl rfl
      rw [hwa0] at swa0
      have Da0 := swa0.1
      have Ka0 := Lib.hid (Kq.out.trans swa0.2)
      rw [hwa0]
      clear hwa0 swa0
      obtain ⟨wa1, hwa1⟩ : ∃ Z, wa0.setCell ⟨g, 2, none⟩ (.int .i64 (-1)) = Z := ⟨_, rfl⟩
      have swa1 := Da0.set 2 (.int .i64 (-1)) { n with term := m.term, vote := -1 } rfl rfl
      rw [hwa1] at swa1
      have Da1 := swa1.1
      have Ka1 := Lib.hid (Ka0.out.trans swa1.2)
      rw [hwa1]
      clear hwa1 swa1
      obtain ⟨wa2, hwa2⟩ : ∃ Z, wa1.setCell ⟨g, 7, none⟩ (.int .i64 0) = Z := ⟨_, rfl⟩
      have swa2 := Da1.set 7 (.int .i64 0) { n with term := m.term, vote := -1, role := 0 } rfl rfl
      rw [hwa2] at swa2
      have Da2 := swa2.1
      have Ka2 := Lib.hid (Ka1.out.trans swa2.2)
      rw [hwa2]
      clear hwa2 swa2
      obtain ⟨wa3, hwa3⟩ : ∃ Z, wa2.setCell ⟨g, 10, none⟩ (.bool false) = Z := ⟨_, rfl⟩
      have swa3 := Da2.set 10 (.bool false) { n with term := m.term, vote := -1, role := 0, v0 := false } rfl rfl
      rw [hwa3] at swa3
      have Da3 := swa3.1
      have Ka3 := Lib.hid (Ka2.out.trans swa3.2)
      rw [hwa3]
      clear hwa3 swa3
      obtain ⟨wa4, hwa4⟩ : ∃ Z, wa3.setCell ⟨g, 11, none⟩ (.bool false) = Z := ⟨_, rfl⟩
      have swa4 := Da3.set 11 (.bool false) { n with term := m.term, vote := -1, role := 0, v0 := false, v1 := false } rfl rfl
      rw [hwa4] at swa4
      have Da4 := swa4.1
      have Ka4 := Lib.hid (Ka3.out.trans swa4.2)
      rw [hwa4]
      clear hwa4 swa4
      obtain ⟨w5, hw5⟩ : ∃ Z, wa4.setCell ⟨g, 12, none⟩ (.bool false) = Z := ⟨_, rfl⟩
      have sw5 := Da4.set 12 (.bool false) { n with term := m.term, vote := -1, role := 0, v0 := false, v1 := false, v2 := false } rfl rfl
      rw [hw5] at sw5
      have D5 := sw5.1
      have K5 := Lib.hid (Ka4.out.trans sw5.2)
      rw [hw5]
      clear hw5 sw5
      clear q1 f1 q2 f2 q7 f7 q10 f10 q11 f11 q12 f12 m3 Dq Da0 Da1 Da2 Da3 Da4 Kq Ka0 Ka1 Ka2 Ka3 Ka4
      have HNS := Lib.hid (show n.seen m = { n with term := m.term, vote := -1, role := 0, v0 := false, v1 := false, v2 := false } by unfold Nd.seen; rw [if_pos hlt])
      clear hlt
      have mb5 := MB.kept HMB3.out HPMB.out K5.out
      have m0 := mb5.all.1
      rw [HKD.out] at m0
      have LM := mb5.load
      simp only [Mg.val] at LM
      rw [HENT.out] at LM
      have HLM := Lib.hid LM
      clear LM mb5
      have VC := Lib.hid (vote_any w5 P g ({ n with term := m.term, vote := -1, role := 0, v0 := false, v1 := false, v2 := false }) [] m ⟨_, _, D5⟩ ⟨HN.out.base, HN.out.len⟩ (by simp))
      rw [← HNS.out] at VC
      have VC := VC.out
      simp only [Mg.val] at VC
      rw [HENT.out] at VC
      have VCH := Lib.hid VC
      clear VC D5
      go_wp2_with (refine wpList_load_at rfl 25 (Operand.tmp 3) rfl _ _ HLM.out rfl ?_)
      refine VCH.out.mono ?_
      rintro _ w6 ⟨rfl, ⟨L, M, D6⟩, hK6⟩
      have K6 := K5.out.trans hK6
      rw [List.nil_append] at D6
      obtain ⟨nn, hnn⟩ : ∃ x, (n.seen m).voted m = x := ⟨_, rfl⟩
      rw [hnn] at D6
      have HNN := Lib.hid hnn
      clear hnn
      obtain ⟨A', c', rfl⟩ := own_slice_w D6.log
      obtain ⟨B', cb', rfl⟩ := own_slice_w D6.sent
      obtain ⟨S', hS'⟩ : ∃ S', [(n.seen m).ansM m] = S' := ⟨_, rfl⟩
      rw [hS'] at D6
      have HSS := Lib.hid hS'.symm
      clear hS'
      have G6 : w.grownBy w6 none := ⟨K6.os.trans HG3.out.os, K6.tape.trans HG3.out.tape, K6.output.trans HG3.out.output, Nat.le_trans HG3.out.size K6.size, fun j hj _ => (K6.blk j (HPP.out j hj)).trans (HG3.out.block j hj (by simp))⟩
      have R6 : Hid (w6.heap[rb]? = some (.cells zeroN 37 (0, 0))) := (K6.blk rb HPRB.out).trans HR3.out
      have HG6 := Lib.hid G6
      clear K6 G6 hK6 VCH HLM m0 HMB3 K5
      go_upto_region 18 with fail
      have Dz := D6.drew
      have Gz := Lib.hid (only_drew HG6.out)
      have Rz : Hid (w6.drew.heap[rb]? = some (.cells zeroN 37 (0, 0))) := R6.out
      obtain ⟨wz, hwz⟩ : ∃ wz, w6.drew = wz := ⟨_, rfl⟩
      rw [hwz] at Dz Gz Rz
      have HWZ := Lib.hid hwz
      clear hwz
      have LZ := Dz.node
      have MZ := Dz.all.2.2.2.2.2.2.2.2.2.2.2.2.2.2.2.2.2.2.2
      have STZ := Lib.hid (store_node (nn) A' (nn).log.length c' Rz.out rfl)
      have FZ := Lib.hid (fin_got (R := fun S => S = [(n.seen m).ansM m]) Dz Gz.out HPRB.out (by have := HRB.out; omega) HSS.out Rz.out)
      simp only [Nd.val] at LZ
      have HLZ := Lib.hid LZ
      clear LZ
      refine wp_region_late [(8, fun V => (Instr.loadAt 37 (.pointer (some ⟨g, 0, none⟩))).run Try.prog V = .ok ((nn).val (.slice A' (nn).log.length c')) V), (9, fun V => V.cell? ⟨g, 19, none⟩ = some (.slice B' S'.length cb'))] (by kernel_rfl) ?_
      refine wpAnyT_pure (i := 0) (oi := { dst := some 115, op := Op.move (Operand.tmp 6), type := 83, pos := "replica.go:116", after := #[], guard := none }) (v := ?_) rfl (by kernel_rfl) (by kernel_rfl) (by kernel_rfl) (by kernel_rfl) (fun _ _ _ h => h) (Or.inl ⟨by rfl, ?_⟩) (holds2 (fun _ => (by rw [HWZ.out]; exact HLZ.out)) (fun _ => (by rw [HWZ.out]; exact MZ))) ?_
      rotate_left
      · (intro W; go_simp; try with_reducible rfl)
      try simp only [Act.put, List.setIfInBounds_toArray, List.set_cons_zero, List.set_cons_succ]
      refine wpAnyT_pure (i := 1) (oi := { dst := some 116, op := Op.nilCheck (Operand.tmp 115), type := 0, pos := "replica.go:116", after := #[{ on := 0, ground := Ground.data }], guard := none }) (v := ?_) rfl (by kernel_rfl) (by kernel_rfl) (by kernel_rfl) (by kernel_rfl) (fun _ _ _ h => h) (Or.inl ⟨by rfl, ?_⟩) (holds2 (fun _ => (by rw [HWZ.out]; exact HLZ.out)) (fun _ => (by rw [HWZ.out]; exact MZ))) ?_
      rotate_left
      · (intro W; go_simp; try with_reducible rfl)
      try simp only [Act.put, List.setIfInBounds_toArray, List.set_cons_zero, List.set_cons_succ]
      refine wpAnyT_pure (i := 2) (oi := { dst := some 117, op := Op.fieldAddr 87 (Operand.tmp 116) 0, type := 0, pos := "replica.go:116", after := #[{ on := 1, ground := Ground.data }], guard := none }) (v := ?_) rfl (by kernel_rfl) (by kernel_rfl) (by kernel_rfl) (by kernel_rfl) (fun _ _ _ h => h) (Or.inl ⟨by rfl, ?_⟩) (holds2 (fun _ => (by rw [HWZ.out]; exact HLZ.out)) (fun _ => (by rw [HWZ.out]; exact MZ))) ?_
      rotate_left
      · (intro W; go_simp; try with_reducible rfl)
      try simp only [Act.put, List.setIfInBounds_toArray, List.set_cons_zero, List.set_cons_succ]
      refine wpAnyT_take 4 8 (i := 3) (oi := { dst := some 118, op := Op.load 37 (Operand.tmp 117), type := 37, pos := "replica.go:116", after := #[{ on := 2, ground := Ground.data }], guard := none }) (v := (nn).val (.slice A' (nn).log.length c')) (.head _) rfl (by kernel_rfl) (by kernel_rfl) (by kernel_rfl) (by kernel_rfl) (by kernel_rfl) (by kernel_rfl) (by rfl) (fun _ _ _ h => h) (by rfl) (fun W hSw => exec_load_at _ _ rfl (.pointer (some ⟨g, 0, none⟩)) _ hSw rfl) (holds2 (fun _ => (by rw [HWZ.out]; exact HLZ.out)) (fun _ => (by rw [HWZ.out]; exact MZ))) ?_
      try simp only [Act.put, List.setIfInBounds_toArray, List.set_cons_zero, List.set_cons_succ]
      refine wpAnyT_pure (i := 4) (oi := { dst := some 119, op := Op.move (Operand.tmp 6), type := 83, pos := "replica.go:116", after := #[{ on := 8, ground := Ground.gcOnly Departure.lateStores }], guard := none }) (v := ?_) rfl (by kernel_rfl) (by kernel_rfl) (by kernel_rfl) (by kernel_rfl) (fun _ _ _ h => h) (Or.inl ⟨by rfl, ?_⟩) (holds2 (fun _ => (by rw [HWZ.out]; exact HLZ.out)) (fun _ => (by rw [HWZ.out]; exact MZ))) ?_
      rotate_left
      · (intro W; go_simp; try with_reducible rfl)
      try simp only [Act.put, List.setIfInBounds_toArray, List.set_cons_zero, List.set_cons_succ]
      refine wpAnyT_pure (i := 5) (oi := { dst := some 120, op := Op.nilCheck (Operand.tmp 119), type := 0, pos := "replica.go:116", after := #[{ on := 4, ground := Ground.data }, { on := 8, ground := Ground.gcOnly Departure.lateStores }], guard := none }) (v := ?_) rfl (by kernel_rfl) (by kernel_rfl) (by kernel_rfl) (by kernel_rfl) (fun _ _ _ h => h) (Or.inl ⟨by rfl, ?_⟩) (holds2 (fun _ => (by rw [HWZ.out]; exact HLZ.out)) (fun _ => (by rw [HWZ.out]; exact MZ))) ?_
      rotate_left
      · (intro W; go_simp; try with_reducible rfl)
      try simp only [Act.put, List.setIfInBounds_toArray, List.set_cons_zero, List.set_cons_succ]
      refine wpAnyT_pure (i := 6) (oi := { dst := some 121, op := Op.fieldAddr 87 (Operand.tmp 120) 1, type := 0, pos := "replica.go:116", after := #[{ on := 5, ground := Ground.data }, { on := 8, ground := Ground.gcOnly Departure.lateStores }], guard := none }) (v := ?_) rfl (by kernel_rfl) (by kernel_rfl) (by kernel_rfl) (by kernel_rfl) (fun _ _ _ h => h) (Or.inl ⟨by rfl, ?_⟩) (holds2 (fun _ => (by rw [HWZ.out]; exact HLZ.out)) (fun _ => (by rw [HWZ.out]; exact MZ))) ?_
      rotate_left
      · (intro W; go_simp; try with_reducible rfl)
      try simp only [Act.put, List.setIfInBounds_toArray, List.set_cons_zero, List.set_cons_succ]
      refine wpAnyT_take 4 9 (i := 7) (oi := { dst := some 122, op := Op.load 38 (Operand.tmp 121), type := 38, pos := "replica.go:116", after := #[{ on := 6, ground := Ground.data }, { on := 8, ground := Ground.gcOnly Departure.lateStores }], guard := none }) (v := ?_) (.tail _ (.head _)) rfl (by kernel_rfl) (by kernel_rfl) (by kernel_rfl) (by kernel_rfl) (by kernel_rfl) (by kernel_rfl) (by rfl) (fun _ _ _ h => h) (by rfl) ?_ (holds2 (fun _ => (by rw [HWZ.out]; exact HLZ.out)) (fun _ => (by rw [HWZ.out]; exact MZ))) ?_
      rotate_left
      · (intro W hSw; (try dsimp only at hSw); go_simp; try with_reducible rfl)
      try simp only [Act.put, List.setIfInBounds_toArray, List.set_cons_zero, List.set_cons_succ]
      rw [HWZ.out]
      refine wpAnyT_ready (rs := [8]) (by kernel_rfl) (by simp) (AllT.cons (o := { dst := none, op := Op.store 37 (Operand.tmp 4) (Operand.tmp 118), type := 0, pos := "replica.go:116", after := #[{ on := 3, ground := Ground.data }, { on := 0, ground := Ground.phase }, { on := 1, ground := Ground.phase }, { on := 2, ground := Ground.phase }, { on := 3, ground := Ground.phase }, { on := 4, ground := Ground.textOnly Departure.lateStores }, { on := 5, ground := Ground.textOnly Departure.lateStores }, { on := 6, ground := Ground.textOnly Departure.lateStores }, { on := 7, ground := Ground.textOnly Departure.lateStores }], guard := none }) rfl (fun K hK => ?_) AllT.nil)
      refine wpT_store rfl 37 _ _ rfl _ _ _ STZ.out rfl rfl ?_
      obtain ⟨wy, hwy⟩ : ∃ wy, wz.setRow rb ((nn).cells (.slice A' (nn).log.length c')) = wy := ⟨_, rfl⟩
      rw [hwy] at FZ
      rw [hwy]
      have MY : wy.cell? ⟨g, 19, none⟩ = some (.slice B' S'.length cb') := by rw [← hwy]; exact (Dz.off HPRB.out (only_row _)).all.2.2.2.2.2.2.2.2.2.2.2.2.2.2.2.2.2.2.2
      clear hwy STZ HLZ MZ Dz Gz Rz
      refine hK.out _ _ (holds2 (late_no (by kernel_rfl)) (fun _ => MY)) ?_
      clear hK K
      try simp only [Act.put, List.setIfInBounds_toArray, List.set_cons_zero, List.set_cons_succ]
      refine wpAnyT_ready (rs := [9]) (by kernel_rfl) (by simp) (AllT.cons (o := { dst := some 5, op := Op.assign (Operand.tmp 122), type := 38, pos := "replica.go:116", after := #[{ on := 7, ground := Ground.data }, { on := 8, ground := Ground.chain }, { on := 0, ground := Ground.phase }, { on := 1, ground := Ground.phase }, { on := 2, ground := Ground.phase }, { on := 3, ground := Ground.phase }, { on := 4, ground := Ground.phase }, { on := 5, ground := Ground.phase }, { on := 6, ground := Ground.phase }, { on := 7, ground := Ground.phase }, { on := 8, ground := Ground.phase }], guard := none }) rfl (fun K hK => ?_) AllT.nil)
      go_simp
      refine hK.out _ _ (holds2 (late_no (by kernel_rfl)) (late_no (by kernel_rfl))) ?_
      clear hK K
      try simp only [Act.put, List.setIfInBounds_toArray, List.set_cons_zero, List.set_cons_succ]
      refine wpAnyT_done (by kernel_rfl) ?_ _
      go_wp2_with fail
      refine bodyPost_ret (results_node_tmp rfl _ _ rb (nn) (.slice A' (nn).log.length c') rfl FZ.out.2) rfl ?_
      exact HNN.out ▸ FZ.out.1
  · as_aux_lemma =>
      go_quiet (fail)
      have gq : w4.grownBy (w4.drewN nq) none := only_drewN (only_refl w4 none) nq
      obtain ⟨wq, hwq⟩ : ∃ x, w4.drewN nq = x := ⟨_, rfl⟩
      rw [hwq] at gq
      rw [hwq]
      clear hwq
      have Dq := D4.grow gq
      have Kq := Lib.hid (K4.out.trans (D4.kept gq))
      have mbq := mb4.grow gq
      have HMB3 := Lib.hid (show MB w3 mb m from ⟨(K4.out.blk mb HPMB.out) ▸ mb4.at_⟩)
      clear D4 mb4 K4 gq c0 c1 c2 c3 c4 c5 c6 c7 c8 c9 c10 c11 c12 m0 m1 m2 m3
      clear mbq
      obtain ⟨w5, rfl⟩ : ∃ x : World, x = wq := ⟨_, rfl⟩
      have D5 := Dq
      have K5 := Kq
      clear Dq Kq
      have HNS := Lib.hid (show n.seen m = n by unfold Nd.seen; rw [if_neg hlt])
      clear hlt
      have mb5 := MB.kept HMB3.out HPMB.out K5.out
      have m0 := mb5.all.1
      rw [HKD.out] at m0
      have LM := mb5.load
      simp only [Mg.val] at LM
      rw [HENT.out] at LM
      have HLM := Lib.hid LM
      clear LM mb5
      have VC := Lib.hid (vote_any w5 P g (n) [] m ⟨_, _, D5⟩ ⟨HN.out.base, HN.out.len⟩ (by simp))
      rw [← HNS.out] at VC
      have VC := VC.out
      simp only [Mg.val] at VC
      rw [HENT.out] at VC
      have VCH := Lib.hid VC
      clear VC D5
      go_wp2_with (refine wpList_load_at rfl 25 (Operand.tmp 3) rfl _ _ HLM.out rfl ?_)
      refine VCH.out.mono ?_
      rintro _ w6 ⟨rfl, ⟨L, M, D6⟩, hK6⟩
      have K6 := K5.out.trans hK6
      rw [List.nil_append] at D6
      obtain ⟨nn, hnn⟩ : ∃ x, (n.seen m).voted m = x := ⟨_, rfl⟩
      rw [hnn] at D6
      have HNN := Lib.hid hnn
      clear hnn
      obtain ⟨A', c', rfl⟩ := own_slice_w D6.log
      obtain ⟨B', cb', rfl⟩ := own_slice_w D6.sent
      obtain ⟨S', hS'⟩ : ∃ S', [(n.seen m).ansM m] = S' := ⟨_, rfl⟩
      rw [hS'] at D6
      have HSS := Lib.hid hS'.symm
      clear hS'
      have G6 : w.grownBy w6 none := ⟨K6.os.trans HG3.out.os, K6.tape.trans HG3.out.tape, K6.output.trans HG3.out.output, Nat.le_trans HG3.out.size K6.size, fun j hj _ => (K6.blk j (HPP.out j hj)).trans (HG3.out.block j hj (by simp))⟩
      have R6 : Hid (w6.heap[rb]? = some (.cells zeroN 37 (0, 0))) := (K6.blk rb HPRB.out).trans HR3.out
      have HG6 := Lib.hid G6
      clear K6 G6 hK6 VCH HLM m0 HMB3 K5
      go_upto_region 18 with fail
      have Dz := D6.drew
      have Gz := Lib.hid (only_drew HG6.out)
      have Rz : Hid (w6.drew.heap[rb]? = some (.cells zeroN 37 (0, 0))) := R6.out
      obtain ⟨wz, hwz⟩ : ∃ wz, w6.drew = wz := ⟨_, rfl⟩
      rw [hwz] at Dz Gz Rz
      have HWZ := Lib.hid hwz
      clear hwz
      have LZ := Dz.node
      have MZ := Dz.all.2.2.2.2.2.2.2.2.2.2.2.2.2.2.2.2.2.2.2
      have STZ := Lib.hid (store_node (nn) A' (nn).log.length c' Rz.out rfl)
      have FZ := Lib.hid (fin_got (R := fun S => S = [(n.seen m).ansM m]) Dz Gz.out HPRB.out (by have := HRB.out; omega) HSS.out Rz.out)
      simp only [Nd.val] at LZ
      have HLZ := Lib.hid LZ
      clear LZ
      refine wp_region_late [(8, fun V => (Instr.loadAt 37 (.pointer (some ⟨g, 0, none⟩))).run Try.prog V = .ok ((nn).val (.slice A' (nn).log.length c')) V), (9, fun V => V.cell? ⟨g, 19, none⟩ = some (.slice B' S'.length cb'))] (by kernel_rfl) ?_
      refine wpAnyT_pure (i := 0) (oi := { dst := some 115, op := Op.move (Operand.tmp 6), type := 83, pos := "replica.go:116", after := #[], guard := none }) (v := ?_) rfl (by kernel_rfl) (by kernel_rfl) (by kernel_rfl) (by kernel_rfl) (fun _ _ _ h => h) (Or.inl ⟨by rfl, ?_⟩) (holds2 (fun _ => (by rw [HWZ.out]; exact HLZ.out)) (fun _ => (by rw [HWZ.out]; exact MZ))) ?_
      rotate_left
      · (intro W; go_simp; try with_reducible rfl)
      try simp only [Act.put, List.setIfInBounds_toArray, List.set_cons_zero, List.set_cons_succ]
      refine wpAnyT_pure (i := 1) (oi := { dst := some 116, op := Op.nilCheck (Operand.tmp 115), type := 0, pos := "replica.go:116", after := #[{ on := 0, ground := Ground.data }], guard := none }) (v := ?_) rfl (by kernel_rfl) (by kernel_rfl) (by kernel_rfl) (by kernel_rfl) (fun _ _ _ h => h) (Or.inl ⟨by rfl, ?_⟩) (holds2 (fun _ => (by rw [HWZ.out]; exact HLZ.out)) (fun _ => (by rw [HWZ.out]; exact MZ))) ?_
      rotate_left
      · (intro W; go_simp; try with_reducible rfl)
      try simp only [Act.put, List.setIfInBounds_toArray, List.set_cons_zero, List.set_cons_succ]
      refine wpAnyT_pure (i := 2) (oi := { dst := some 117, op := Op.fieldAddr 87 (Operand.tmp 116) 0, type := 0, pos := "replica.go:116", after := #[{ on := 1, ground := Ground.data }], guard := none }) (v := ?_) rfl (by kernel_rfl) (by kernel_rfl) (by kernel_rfl) (by kernel_rfl) (fun _ _ _ h => h) (Or.inl ⟨by rfl, ?_⟩) (holds2 (fun _ => (by rw [HWZ.out]; exact HLZ.out)) (fun _ => (by rw [HWZ.out]; exact MZ))) ?_
      rotate_left
      · (intro W; go_simp; try with_reducible rfl)
      try simp only [Act.put, List.setIfInBounds_toArray, List.set_cons_zero, List.set_cons_succ]
      refine wpAnyT_take 4 8 (i := 3) (oi := { dst := some 118, op := Op.load 37 (Operand.tmp 117), type := 37, pos := "replica.go:116", after := #[{ on := 2, ground := Ground.data }], guard := none }) (v := (nn).val (.slice A' (nn).log.length c')) (.head _) rfl (by kernel_rfl) (by kernel_rfl) (by kernel_rfl) (by kernel_rfl) (by kernel_rfl) (by kernel_rfl) (by rfl) (fun _ _ _ h => h) (by rfl) (fun W hSw => exec_load_at _ _ rfl (.pointer (some ⟨g, 0, none⟩)) _ hSw rfl) (holds2 (fun _ => (by rw [HWZ.out]; exact HLZ.out)) (fun _ => (by rw [HWZ.out]; exact MZ))) ?_
      try simp only [Act.put, List.setIfInBounds_toArray, List.set_cons_zero, List.set_cons_succ]
      refine wpAnyT_pure (i := 4) (oi := { dst := some 119, op := Op.move (Operand.tmp 6), type := 83, pos := "replica.go:116", after := #[{ on := 8, ground := Ground.gcOnly Departure.lateStores }], guard := none }) (v := ?_) rfl (by kernel_rfl) (by kernel_rfl) (by kernel_rfl) (by kernel_rfl) (fun _ _ _ h => h) (Or.inl ⟨by rfl, ?_⟩) (holds2 (fun _ => (by rw [HWZ.out]; exact HLZ.out)) (fun _ => (by rw [HWZ.out]; exact MZ))) ?_
      rotate_left
      · (intro W; go_simp; try with_reducible rfl)
      try simp only [Act.put, List.setIfInBounds_toArray, List.set_cons_zero, List.set_cons_succ]
      refine wpAnyT_pure (i := 5) (oi := { dst := some 120, op := Op.nilCheck (Operand.tmp 119), type := 0, pos := "replica.go:116", after := #[{ on := 4, ground := Ground.data }, { on := 8, ground := Ground.gcOnly Departure.lateStores }], guard := none }) (v := ?_) rfl (by kernel_rfl) (by kernel_rfl) (by kernel_rfl) (by kernel_rfl) (fun _ _ _ h => h) (Or.inl ⟨by rfl, ?_⟩) (holds2 (fun _ => (by rw [HWZ.out]; exact HLZ.out)) (fun _ => (by rw [HWZ.out]; exact MZ))) ?_
      rotate_left
      · (intro W; go_simp; try with_reducible rfl)
      try simp only [Act.put, List.setIfInBounds_toArray, List.set_cons_zero, List.set_cons_succ]
      refine wpAnyT_pure (i := 6) (oi := { dst := some 121, op := Op.fieldAddr 87 (Operand.tmp 120) 1, type := 0, pos := "replica.go:116", after := #[{ on := 5, ground := Ground.data }, { on := 8, ground := Ground.gcOnly Departure.lateStores }], guard := none }) (v := ?_) rfl (by kernel_rfl) (by kernel_rfl) (by kernel_rfl) (by kernel_rfl) (fun _ _ _ h => h) (Or.inl ⟨by rfl, ?_⟩) (holds2 (fun _ => (by rw [HWZ.out]; exact HLZ.out)) (fun _ => (by rw [HWZ.out]; exact MZ))) ?_
      rotate_left
      · (intro W; go_simp; try with_reducible rfl)
      try simp only [Act.put, List.setIfInBounds_toArray, List.set_cons_zero, List.set_cons_succ]
      refine wpAnyT_take 4 9 (i := 7) (oi := { dst := some 122, op := Op.load 38 (Operand.tmp 121), type := 38, pos := "replica.go:116", after := #[{ on := 6, ground := Ground.data }, { on := 8, ground := Ground.gcOnly Departure.lateStores }], guard := none }) (v := ?_) (.tail _ (.head _)) rfl (by kernel_rfl) (by kernel_rfl) (by kernel_rfl) (by kernel_rfl) (by kernel_rfl) (by kernel_rfl) (by rfl) (fun _ _ _ h => h) (by rfl) ?_ (holds2 (fun _ => (by rw [HWZ.out]; exact HLZ.out)) (fun _ => (by rw [HWZ.out]; exact MZ))) ?_
      rotate_left
      · (intro W hSw; (try dsimp only at hSw); go_simp; try with_reducible rfl)
      try simp only [Act.put, List.setIfInBounds_toArray, List.set_cons_zero, List.set_cons_succ]
      rw [HWZ.out]
      refine wpAnyT_ready (rs := [8]) (by kernel_rfl) (by simp) (AllT.cons (o := { dst := none, op := Op.store 37 (Operand.tmp 4) (Operand.tmp 118), type := 0, pos := "replica.go:116", after := #[{ on := 3, ground := Ground.data }, { on := 0, ground := Ground.phase }, { on := 1, ground := Ground.phase }, { on := 2, ground := Ground.phase }, { on := 3, ground := Ground.phase }, { on := 4, ground := Ground.textOnly Departure.lateStores }, { on := 5, ground := Ground.textOnly Departure.lateStores }, { on := 6, ground := Ground.textOnly Departure.lateStores }, { on := 7, ground := Ground.textOnly Departure.lateStores }], guard := none }) rfl (fun K hK => ?_) AllT.nil)
      refine wpT_store rfl 37 _ _ rfl _ _ _ STZ.out rfl rfl ?_
      obtain ⟨wy, hwy⟩ : ∃ wy, wz.setRow rb ((nn).cells (.slice A' (nn).log.length c')) = wy := ⟨_, rfl⟩
      rw [hwy] at FZ
      rw [hwy]
      have MY : wy.cell? ⟨g, 19, none⟩ = some (.slice B' S'.length cb') := by rw [← hwy]; exact (Dz.off HPRB.out (only_row _)).all.2.2.2.2.2.2.2.2.2.2.2.2.2.2.2.2.2.2.2
      clear hwy STZ HLZ MZ Dz Gz Rz
      refine hK.out _ _ (holds2 (late_no (by kernel_rfl)) (fun _ => MY)) ?_
      clear hK K
      try simp only [Act.put, List.setIfInBounds_toArray, List.set_cons_zero, List.set_cons_succ]
      refine wpAnyT_ready (rs := [9]) (by kernel_rfl) (by simp) (AllT.cons (o := { dst := some 5, op := Op.assign (Operand.tmp 122), type := 38, pos := "replica.go:116", after := #[{ on := 7, ground := Ground.data }, { on := 8, ground := Ground.chain }, { on := 0, ground := Ground.phase }, { on := 1, ground := Ground.phase }, { on := 2, ground := Ground.phase }, { on := 3, ground := Ground.phase }, { on := 4, ground := Ground.phase }, { on := 5, ground := Ground.phase }, { on := 6, ground := Ground.phase }, { on := 7, ground := Ground.phase }, { on := 8, ground := Ground.phase }], guard := none }) rfl (fun K hK => ?_) AllT.nil)
      go_simp
      refine hK.out _ _ (holds2 (late_no (by kernel_rfl)) (late_no (by kernel_rfl))) ?_
      clear hK K
      try simp only [Act.put, List.setIfInBounds_toArray, List.set_cons_zero, List.set_cons_succ]
      refine wpAnyT_done (by kernel_rfl) ?_ _
      go_wp2_with fail
      refine bodyPost_ret (results_node_tmp rfl _ _ rb (nn) (.slice A' (nn).log.length c') rfl FZ.out.2) rfl ?_
      exact HNN.out ▸ FZ.out.1
end Go.Proofs.Ytjhnipnocjoelaa
