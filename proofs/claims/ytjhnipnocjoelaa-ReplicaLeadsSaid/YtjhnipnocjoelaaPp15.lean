/- replica.Propose. Conditions: numbers below 2^40. -/
import Derived.Test.YtjhnipnocjoelaaTk15
namespace Go.Proofs.Ytjhnipnocjoelaa
open Go.RowKit Go.Deep
/-- A node, a number and an errno are handed back. -/
def GotP (w : World) (n : Nd) (k r : Int) (e : Ending) (w' : World) : Prop := ∃ A c, e = .returned (.tuple #[n.val (.slice A n.log.length c), .int .i64 k, .int .i64 r]) ∧ Has w' w'.heap.size A (es n.log) ∧ n.log.length ≤ c ∧ w.grownBy w' none
theorem results_cell_tmps {fn : Func} {p u v : Tmp} {ty : TypeId} (h : fn.results = #[.cell p ty, .tmp u, .tmp v]) (tmps : Array Value) (P : Program) (w : World) :
    (results fn tmps).run P w = ((asAddr (tmps.getD p undef)).run P w).andThen fun a w₁ => ((loadVar ty a).run P w₁).andThen fun x w₂ => .ok (.tuple #[x, tmps.getD u undef, tmps.getD v undef]) w₂ := by
  simp only [results, h]
  simp [Sem.run_bind, Result.andThen]
theorem results_node_tmps {fn : Func} {p u v : Tmp} (h : fn.results = #[.cell p 37, .tmp u, .tmp v]) (tmps : Array Value) (w : World) (b : Nat) (n : Nd) (L : Value) (hp : tmps.getD p undef = .pointer (some ⟨b, 0, none⟩)) (hb : w.heap[b]? = some (.cells (n.cells L) 37 (0, 0))) :
    (results fn tmps).run Try.prog w = .ok (.tuple #[n.val L, tmps.getD u undef, tmps.getD v undef]) w := by
  rw [results_cell_tmps h, hp]
  have hl := run_loadVar_row (P := Try.prog) w b _ 37 (n.cells L) (0, 0) _ hb Try.underlying37 rfl (by kernel_rfl)
  simp only [asAddr, Sem.run_pure, Result.andThen_ok, hl]
  rfl
theorem fin_p {w w5 : World} {P : Nat → Prop} {g rb c : Nat} {n : Nd} {A : Option Addr} {M : Value} {S : List Mg} {cur : Array Value} (k r : Int) (D : DrV w5 P g n (.slice A n.log.length c) S M) (hG : w.grownBy w5 none) (hrb : P rb) (hb : w.heap.size ≤ rb)
    (hh : w5.heap[rb]? = some (.cells cur 37 (0, 0))) : GotP w n k r (.returned (.tuple #[n.val (.slice A n.log.length c), .int .i64 k, .int .i64 r])) (w5.setRow rb (n.cells (.slice A n.log.length c))) ∧ (w5.setRow rb (n.cells (.slice A n.log.length c))).heap[rb]? = some (.cells (n.cells (.slice A n.log.length c)) 37 (0, 0)) := by
  have hg := only_row (w := w5) (b := rb) (n.cells (.slice A n.log.length c))
  have D6 := D.off hrb hg
  exact ⟨⟨A, c, rfl, Has.own_w D6.log, own_cap_w D6.log, only_step hG hg (fun k hk => by cases hk; exact .inr hb)⟩, row_at hh⟩
set_option maxRecDepth 100000 in
set_option maxHeartbeats 8000000 in
theorem propose_no (n : Nd) (A : Option Addr) (c : Nat) (cmd : ByteArray) (w : World) (hr : n.role ≠ 2) (hn : n.ok) (hA : Has w w.heap.size A (es n.log)) :
    Calls Try.prog 18 #[n.val (.slice A n.log.length c), .string cmd] w (GotP w n 0 21) := by
  have hasA := hA.up (only_alloc (World.grownBy_alloc w (.cells (n.cells (.slice A n.log.length c)) 37) none) (.cells zeroN 37))
  obtain ⟨w1, hw1⟩ : ∃ w1, w.alloc (.cells (n.cells (.slice A n.log.length c)) 37) = w1 := ⟨_, rfl⟩
  obtain ⟨w2, hw2⟩ : ∃ w2, w1.alloc (.cells zeroN 37) = w2 := ⟨_, rfl⟩
  rw [hw1, hw2] at hasA
  have g2 : w.grownBy w2 none := by subst hw2; subst hw1; exact only_alloc (World.grownBy_alloc w _ none) _
  have z1 : w1.heap.size = w.heap.size + 1 := by subst hw1; simp
  have z2 : w2.heap.size = w.heap.size + 2 := by subst hw2; simp [z1]
  have n2 : NB w2 w.heap.size n (.slice A n.log.length c) := by
    subst hw2
    exact ⟨((World.grownBy_alloc w1 (.cells zeroN 37) none).block _ (by omega) (by simp)).trans (by subst hw1; exact heap_alloc_new w _)⟩
  have r2 : w2.heap[w.heap.size + 1]? = some (.cells zeroN 37 (0, 0)) := by subst hw2; rw [← z1]; exact heap_alloc_new w1 _
  have LD := n2.load
  have BG := begin_any n A c w2 hasA (by have := hn.len; omega)
  simp only [Nd.val] at LD BG
  have LDH := Lib.hid LD
  have BGH := Lib.hid BG
  have HR2 := Lib.hid r2
  have HG2 := Lib.hid g2
  have HZ2 := Lib.hid z2
  have HN := Lib.hid hn
  have hro : (n.role != 2) = true := by rw [bne_iff_ne]; exact hr
  clear hr
  clear hasA LD BG n2 r2 g2 z2 hn hA
  unfold Nd.cells at hw1
  unfold zeroN at hw2
  unfold Nd.val
  obtain ⟨rb, hrb⟩ : ∃ rb, w.heap.size + 1 = rb := ⟨_, rfl⟩
  rw [hrb] at HR2 z1
  have HRB := Lib.hid hrb
  go_enter Try.func18, Try.ntmps18
  go_wp2_with (first | (refine wpList_load_at rfl 37 (Operand.tmp 2) rfl _ _ LDH.out rfl ?_) | (go_at_call 33; refine BGH.out.mono ?_))
  rintro _ w3 ⟨g, rfl, hD3, g3⟩
  have HP := Lib.hid (show ∀ k, k < w.heap.size → k < w2.heap.size from fun k hk => by have := HZ2.out; omega)
  have HPR := Lib.hid (show rb < w2.heap.size by have := HZ2.out; have := HRB.out; omega)
  have HG3 := Lib.hid (only_step HG2.out g3 (fun _ h => .inl h))
  have HR3 := Lib.hid ((g3.block rb HPR.out (by simp)).trans HR2.out)
  obtain ⟨P, hP⟩ : ∃ P : Nat → Prop, P = fun k => k < w2.heap.size := ⟨_, rfl⟩
  rw [← hP] at hD3
  have HPP := Lib.hid (show ∀ k, k < w.heap.size → P k from fun k hk => by rw [hP]; exact HP.out k hk)
  have HPRB := Lib.hid (show P rb by rw [hP]; exact HPR.out)
  have HD3 := Lib.hid hD3
  clear hP hD3 g3 hw1 hw2 LDH BGH HP HPR z1 HR2 HG2 hrb
  obtain ⟨L, M, D3⟩ := HD3.out
  obtain ⟨A', c', rfl⟩ := own_slice_w D3.log
  obtain ⟨c0, c1, c2, c3, c4, c5, c6, c7, c8, c9, _⟩ := D3.all
  go_upto_region 4 with fail
  clear hro c0 c1 c2 c3 c4 c5 c6 c7 c8 c9
  have LZ := D3.node
  have STZ := Lib.hid (store_node (n) A' (n).log.length c' HR3.out rfl)
  have FZ := Lib.hid (fin_p (0) (21) D3 HG3.out HPRB.out (by have := HRB.out; omega) HR3.out)
  simp only [Nd.val] at LZ STZ
  have HLZ := Lib.hid LZ
  have HSTZ := Lib.hid STZ.out
  clear LZ STZ D3
  go_wp2_with (first | (refine wpList_load_at rfl 37 (Operand.tmp 27) rfl _ _ HLZ.out rfl ?_) | (refine wpList_store_at rfl 37 (Operand.tmp 4) (Operand.tmp 28) rfl _ _ _ HSTZ.out rfl rfl ?_))
  (try simp only [Exit.inBlock, Exit.then])
  refine bodyPost_ret (results_node_tmps rfl _ _ rb (n) (.slice A' (n).log.length c') rfl FZ.out.2) rfl ?_
  exact FZ.out.1
set_option maxRecDepth 100000 in
set_option maxHeartbeats 8000000 in
theorem propose_arg (n : Nd) (A : Option Addr) (c : Nat) (cmd : ByteArray) (w : World) (i : Nat) (hid : n.id = i) (hi : i < 3) (hr : n.role = 2) (hc : cmd = { data := #[] }) (hn : n.ok) (hA : Has w w.heap.size A (es n.log)) :
    Calls Try.prog 18 #[n.val (.slice A n.log.length c), .string cmd] w (GotP w n 0 1) := by
  have hasA := hA.up (only_alloc (World.grownBy_alloc w (.cells (n.cells (.slice A n.log.length c)) 37) none) (.cells zeroN 37))
  obtain ⟨w1, hw1⟩ : ∃ w1, w.alloc (.cells (n.cells (.slice A n.log.length c)) 37) = w1 := ⟨_, rfl⟩
  obtain ⟨w2, hw2⟩ : ∃ w2, w1.alloc (.cells zeroN 37) = w2 := ⟨_, rfl⟩
  rw [hw1, hw2] at hasA
  have g2 : w.grownBy w2 none := by subst hw2; subst hw1; exact only_alloc (World.grownBy_alloc w _ none) _
  have z1 : w1.heap.size = w.heap.size + 1 := by subst hw1; simp
  have z2 : w2.heap.size = w.heap.size + 2 := by subst hw2; simp [z1]
  have n2 : NB w2 w.heap.size n (.slice A n.log.length c) := by
    subst hw2
    exact ⟨((World.grownBy_alloc w1 (.cells zeroN 37) none).block _ (by omega) (by simp)).trans (by subst hw1; exact heap_alloc_new w _)⟩
  have r2 : w2.heap[w.heap.size + 1]? = some (.cells zeroN 37 (0, 0)) := by subst hw2; rw [← z1]; exact heap_alloc_new w1 _
  have LD := n2.load
  have BG := begin_any n A c w2 hasA (by have := hn.len; omega)
  simp only [Nd.val] at LD BG
  have LDH := Lib.hid LD
  have BGH := Lib.hid BG
  have HR2 := Lib.hid r2
  have HG2 := Lib.hid g2
  have HZ2 := Lib.hid z2
  have HN := Lib.hid hn
  have hro : (n.role != 2) = false := by rw [hr]; simp
  have ISN := fun W => Lib.hid (node_is n.id true (by rw [hid]; exact decide_eq_true (by omega)) W)
  subst hc
  clear hr hid hi
  clear hasA LD BG n2 r2 g2 z2 hn hA
  unfold Nd.cells at hw1
  unfold zeroN at hw2
  unfold Nd.val
  obtain ⟨rb, hrb⟩ : ∃ rb, w.heap.size + 1 = rb := ⟨_, rfl⟩
  rw [hrb] at HR2 z1
  have HRB := Lib.hid hrb
  go_enter Try.func18, Try.ntmps18
  go_wp2_with (first | (refine wpList_load_at rfl 37 (Operand.tmp 2) rfl _ _ LDH.out rfl ?_) | (go_at_call 33; refine BGH.out.mono ?_))
  rintro _ w3 ⟨g, rfl, hD3, g3⟩
  have HP := Lib.hid (show ∀ k, k < w.heap.size → k < w2.heap.size from fun k hk => by have := HZ2.out; omega)
  have HPR := Lib.hid (show rb < w2.heap.size by have := HZ2.out; have := HRB.out; omega)
  have HG3 := Lib.hid (only_step HG2.out g3 (fun _ h => .inl h))
  have HR3 := Lib.hid ((g3.block rb HPR.out (by simp)).trans HR2.out)
  obtain ⟨P, hP⟩ : ∃ P : Nat → Prop, P = fun k => k < w2.heap.size := ⟨_, rfl⟩
  rw [← hP] at hD3
  have HPP := Lib.hid (show ∀ k, k < w.heap.size → P k from fun k hk => by rw [hP]; exact HP.out k hk)
  have HPRB := Lib.hid (show P rb by rw [hP]; exact HPR.out)
  have HD3 := Lib.hid hD3
  clear hP hD3 g3 hw1 hw2 LDH BGH HP HPR z1 HR2 HG2 hrb
  obtain ⟨L, M, D3⟩ := HD3.out
  obtain ⟨A', c', rfl⟩ := own_slice_w D3.log
  obtain ⟨c0, c1, c2, c3, c4, c5, c6, c7, c8, c9, _⟩ := D3.all
  go_upto_region 6 with (go_at_call 34; refine (ISN _).out.mono ?_; rintro _ wx ⟨rfl, rfl⟩)
  clear hro c0 c1 c2 c3 c4 c5 c6 c7 c8 c9
  have LZ := D3.node
  have STZ := Lib.hid (store_node (n) A' (n).log.length c' HR3.out rfl)
  have FZ := Lib.hid (fin_p (0) (1) D3 HG3.out HPRB.out (by have := HRB.out; omega) HR3.out)
  simp only [Nd.val] at LZ STZ
  have HLZ := Lib.hid LZ
  have HSTZ := Lib.hid STZ.out
  clear LZ STZ D3
  go_wp2_with (first | (refine wpList_load_at rfl 37 (Operand.tmp 34) rfl _ _ HLZ.out rfl ?_) | (refine wpList_store_at rfl 37 (Operand.tmp 4) (Operand.tmp 35) rfl _ _ _ HSTZ.out rfl rfl ?_))
  (try simp only [Exit.inBlock, Exit.then])
  refine bodyPost_ret (results_node_tmps rfl _ _ rb (n) (.slice A' (n).log.length c') rfl FZ.out.2) rfl ?_
  exact FZ.out.1
set_option maxRecDepth 100000 in
set_option maxHeartbeats 8000000 in
theorem propose_ok (n : Nd) (A : Option Addr) (c : Nat) (cmd : ByteArray) (w : World) (i : Nat) (hid : n.id = i) (hi : i < 3) (hr : n.role = 2) (hc : cmd.size ≠ 0) (hl : n.log.length ≤ 1000000) (hn : n.ok) (hA : Has w w.heap.size A (es n.log)) :
    Calls Try.prog 18 #[n.val (.slice A n.log.length c), .string cmd] w (GotP w (n.grown i cmd) (n.put cmd).li 0) := by
  have hasA := hA.up (only_alloc (World.grownBy_alloc w (.cells (n.cells (.slice A n.log.length c)) 37) none) (.cells zeroN 37))
  obtain ⟨w1, hw1⟩ : ∃ w1, w.alloc (.cells (n.cells (.slice A n.log.length c)) 37) = w1 := ⟨_, rfl⟩
  obtain ⟨w2, hw2⟩ : ∃ w2, w1.alloc (.cells zeroN 37) = w2 := ⟨_, rfl⟩
  rw [hw1, hw2] at hasA
  have g2 : w.grownBy w2 none := by subst hw2; subst hw1; exact only_alloc (World.grownBy_alloc w _ none) _
  have z1 : w1.heap.size = w.heap.size + 1 := by subst hw1; simp
  have z2 : w2.heap.size = w.heap.size + 2 := by subst hw2; simp [z1]
  have n2 : NB w2 w.heap.size n (.slice A n.log.length c) := by
    subst hw2
    exact ⟨((World.grownBy_alloc w1 (.cells zeroN 37) none).block _ (by omega) (by simp)).trans (by subst hw1; exact heap_alloc_new w _)⟩
  have r2 : w2.heap[w.heap.size + 1]? = some (.cells zeroN 37 (0, 0)) := by subst hw2; rw [← z1]; exact heap_alloc_new w1 _
  have LD := n2.load
  have BG := begin_any n A c w2 hasA (by have := hn.len; omega)
  simp only [Nd.val] at LD BG
  have LDH := Lib.hid LD
  have BGH := Lib.hid BG
  have HR2 := Lib.hid r2
  have HG2 := Lib.hid g2
  have HZ2 := Lib.hid z2
  have HN := Lib.hid hn
  have HID := Lib.hid hid
  have HI := Lib.hid hi
  have HL := Lib.hid hl
  have hro : (n.role != 2) = false := by rw [hr]; simp
  have ISN := fun W => Lib.hid (node_is n.id true (by rw [hid]; exact decide_eq_true (by omega)) W)
  have hcb : (cmd.toList == ([] : List UInt8)) = false := by rw [ByteArray.toList_eq, beq_eq_false_iff_ne]; intro e; have := congrArg List.length e; exact hc (by simpa using this)
  clear hr hid hi hc hl
  clear hasA LD BG n2 r2 g2 z2 hn hA
  unfold Nd.cells at hw1
  unfold zeroN at hw2
  unfold Nd.val
  obtain ⟨rb, hrb⟩ : ∃ rb, w.heap.size + 1 = rb := ⟨_, rfl⟩
  rw [hrb] at HR2 z1
  have HRB := Lib.hid hrb
  go_enter Try.func18, Try.ntmps18
  go_wp2_with (first | (refine wpList_load_at rfl 37 (Operand.tmp 2) rfl _ _ LDH.out rfl ?_) | (go_at_call 33; refine BGH.out.mono ?_))
  rintro _ w3 ⟨g, rfl, hD3, g3⟩
  have HP := Lib.hid (show ∀ k, k < w.heap.size → k < w2.heap.size from fun k hk => by have := HZ2.out; omega)
  have HPR := Lib.hid (show rb < w2.heap.size by have := HZ2.out; have := HRB.out; omega)
  have HG3 := Lib.hid (only_step HG2.out g3 (fun _ h => .inl h))
  have HR3 := Lib.hid ((g3.block rb HPR.out (by simp)).trans HR2.out)
  obtain ⟨P, hP⟩ : ∃ P : Nat → Prop, P = fun k => k < w2.heap.size := ⟨_, rfl⟩
  rw [← hP] at hD3
  have HPP := Lib.hid (show ∀ k, k < w.heap.size → P k from fun k hk => by rw [hP]; exact HP.out k hk)
  have HPRB := Lib.hid (show P rb by rw [hP]; exact HPR.out)
  have HD3 := Lib.hid hD3
  clear hP hD3 g3 hw1 hw2 LDH BGH HP HPR z1 HR2 HG2 hrb
  obtain ⟨L, M, D3⟩ := HD3.out
  obtain ⟨c0, c1, c2, c3, c4, c5, c6, c7, c8, c9, _⟩ := D3.all
  have GA := Lib.hid (grow_any w3 P g n [] i cmd HID.out HI.out HD3.out HN.out HL.out)
  clear D3
  go_upto_region 7 with (go_at_call 34; refine (ISN _).out.mono ?_; rintro _ wx ⟨rfl, rfl⟩)
  clear hro hcb c0 c1 c2 c3 c4 c5 c6 c7 c8 c9
  go_wp2_with fail
  refine GA.out.mono ?_
  rintro _ w6 ⟨rfl, ⟨L', M', D6⟩, K6⟩
  obtain ⟨nn, hnn⟩ : ∃ x, n.grown i cmd = x := ⟨_, rfl⟩
  rw [hnn] at D6
  have HNN := Lib.hid hnn
  clear hnn
  obtain ⟨A', c', rfl⟩ := own_slice_w D6.log
  have G6 : w.grownBy w6 none := ⟨K6.os.trans HG3.out.os, K6.tape.trans HG3.out.tape, K6.output.trans HG3.out.output, Nat.le_trans HG3.out.size K6.size, fun j hj _ => (K6.blk j (HPP.out j hj)).trans (HG3.out.block j hj (by simp))⟩
  have R6 : Hid (w6.heap[rb]? = some (.cells zeroN 37 (0, 0))) := (K6.blk rb HPRB.out).trans HR3.out
  have HG6 := Lib.hid G6
  clear K6 G6 GA
  have LZ := D6.node
  have STZ := Lib.hid (store_node (nn) A' (nn).log.length c' R6.out rfl)
  have FZ := Lib.hid (fin_p ((n.put cmd).li) (0) D6 HG6.out HPRB.out (by have := HRB.out; omega) R6.out)
  simp only [Nd.val] at LZ STZ
  have HLZ := Lib.hid LZ
  have HSTZ := Lib.hid STZ.out
  clear LZ STZ D6
  go_wp2_with (first | (refine wpList_load_at rfl 37 (Operand.tmp 41) rfl _ _ HLZ.out rfl ?_) | (refine wpList_store_at rfl 37 (Operand.tmp 4) (Operand.tmp 42) rfl _ _ _ HSTZ.out rfl rfl ?_))
  (try simp only [Exit.inBlock, Exit.then])
  refine bodyPost_ret (results_node_tmps rfl _ _ rb (nn) (.slice A' (nn).log.length c') rfl FZ.out.2) rfl ?_
  exact HNN.out ▸ FZ.out.1
end Go.Proofs.Ytjhnipnocjoelaa
