/- A message that is being filled in, and (*draft).send. Conditions: no more than 2^32 messages. -/
import Derived.Test.YtjhnipnocjoelaaNf
namespace Go.Proofs.Ytjhnipnocjoelaa
open Go.RowKit Go.Deep
def Mg.arr (m : Mg) : Array Value := #[.int .i64 m.kind, .int .i64 m.fr, .int .i64 m.dst, .int .i64 m.term, .int .i64 m.index, .int .i64 m.lt, .int .i64 m.cm, .bool m.yes, m.ent, .string m.snap]
/-- A message's own block. -/
structure MB (w : World) (b : Nat) (m : Mg) : Prop where
  at_ : w.heap[b]? = some (.cells m.arr 25 (0, 0))
section
variable {w w' : World} {b : Nat} {m : Mg}
theorem MB.lt (h : MB w b m) : b < w.heap.size := (Array.getElem?_eq_some_iff.1 h.at_).1
theorem MB.all (h : MB w b m) : w.cell? ⟨b, 0, none⟩ = some (.int .i64 m.kind) ∧ w.cell? ⟨b, 1, none⟩ = some (.int .i64 m.fr) ∧ w.cell? ⟨b, 2, none⟩ = some (.int .i64 m.dst) ∧ w.cell? ⟨b, 3, none⟩ = some (.int .i64 m.term) ∧ w.cell? ⟨b, 4, none⟩ = some (.int .i64 m.index) ∧
    w.cell? ⟨b, 5, none⟩ = some (.int .i64 m.lt) ∧ w.cell? ⟨b, 6, none⟩ = some (.int .i64 m.cm) ∧ w.cell? ⟨b, 7, none⟩ = some (.bool m.yes) ∧ w.cell? ⟨b, 8, none⟩ = some m.ent ∧ w.cell? ⟨b, 9, none⟩ = some (.string m.snap) := by
  have h := h.at_
  simp [World.cell?, h, Mg.arr]
theorem MB.fr_ (h : MB w b m) (k : Nat) : w.frozen? ⟨b, k, none⟩ = false := by simp [World.frozen?, h.at_]
theorem MB.grow (h : MB w b m) (hg : w.grownBy w' none) : MB w' b m := ⟨(hg.block b h.lt (by simp)).trans h.at_⟩
theorem MB.kept {P : Nat → Prop} (h : MB w b m) (hp : P b) (hk : Kept P w w') : MB w' b m := ⟨(hk.blk b hp).trans h.at_⟩
theorem MB.set (h : MB w b m) (k : Nat) (u : Value) (m' : Mg) (hc : m.arr.setIfInBounds k u = m'.arr) : MB (w.setCell ⟨b, k, none⟩ u) b m' ∧ w.grownBy (w.setCell ⟨b, k, none⟩ u) (some b) := by
  refine ⟨⟨?_⟩, only_set (only_refl w (some b)) (.inl rfl) u⟩
  have : (w.setCell ⟨b, k, none⟩ u).heap[b]? = some (.cells (m.arr.setIfInBounds k u) 25 (0, 0)) := by simp [World.setCell, Array.getElem?_modify, h.at_]
  rw [this, hc]
theorem MB.load (h : MB w b m) : (Instr.loadAt 25 (.pointer (some ⟨b, 0, none⟩))).run Try.prog w = .ok m.val w :=
  load_agg (cs := m.arr) (fun j u hu => by
    rw [Nat.zero_add]
    simp [World.cell?, h.at_, hu]) Try.underlying25 rfl (by kernel_rfl)
end
theorem DrV.kept_off {w w' : World} {P : Nat → Prop} {g : Nat} {n : Nd} {L M : Value} {S : List Mg} (h : DrV w P g n L S M) {b : Nat} (hb : ∀ k, P k → k ≠ b) (hg : w.grownBy w' (some b)) : Kept P w w' := Kept.of hg (fun k hk => ⟨(h.out k hk).1, fun e => by injection e with e; exact hb k hk e.symm⟩)
/-- append, as what may come up. -/
theorem wpT_append {P : Program} {ops : Array Oper} {o : Oper} {a : Act} {K : Act → World → Prop} {Q : Exit → Act → World → Prop} {w : World} {E : Prop} (hwn : Region.wanted o (yielded ops a.tmps) = true) (s x : Operand) (t tx : TypeId)
    (ho : o.op = .call { callee := .builtin .append, args := #[s, x], argTypes := #[t, tx] })
    (base : Nat) (e : TypeId) (i : TypeInfo) (z : Value) (bytes sz : Nat) (ht : P.underlying t = some (.slice e)) (hi : P.info? e = some i) (hz : i.zero = some z)
    (hsize : i.size = sz) (hby : i.bytes = bytes) (hzs : z.cells.size = sz)
    (v : Value) (n : Nat) (xs : List Value) (hown : w.ownsRow base e sz v n xs) (u : Value) (m : Nat) (news : List Value) (hsrc : Src P sz tx u m news w) (hs : a.eval s = v) (hu : a.eval x = u)
    (h63 : n + m ≤ maxLen) (hbytes : (n + m) * bytes ≤ 140737488355328) (hbase : base ≤ w.heap.size)
    (h : ∀ v' w', GrewW w w' base e sz v v' (n + m) (xs ++ news) → K (a.put o.dst v') w') : if Region.wanted o (yielded ops a.tmps) = true then Oper.wp P o a w K Q else E := by
  rw [if_pos hwn]
  obtain ⟨v', w', hrun, hgr⟩ := run_append_wide (P := P) w base t tx o.type e i z bytes sz ht hi hz hsize hby hzs v n xs hown u m news hsrc h63 hbytes hbase
  unfold Oper.wp execOp
  simp only [ho, resolve, invoke, builtin, Sem.run_bind, Sem.run_pure, Result.andThen_ok, List.map_toArray, List.map_cons, List.map_nil, hs, hu, hrun]
  exact h v' w' hgr
def msgT : TypeId := 25
theorem Try.msg_info : (Try.prog.info? 25).map (fun i => (i.zero, i.size, i.bytes)) = some (some (.agg #[.int .i64 0, .int .i64 0, .int .i64 0, .int .i64 0, .int .i64 0, .int .i64 0, .int .i64 0, .bool false, .slice none 0 0, .string { data := #[] }]), 10, 104) := by kernel_rfl
/-- A message fit to be stored. -/
def Mg.ok (m : Mg) : Prop := ∃ A n c, m.ent = .slice A n c
theorem Mg.one {m : Mg} (h : m.ok) : ∀ u ∈ m.cs, u.oneCell' = true := by
  obtain ⟨A, n, c, he⟩ := h
  intro u hu
  unfold Mg.cs at hu
  simp only [List.mem_cons, List.not_mem_nil, or_false] at hu
  rcases hu with rfl | rfl | rfl | rfl | rfl | rfl | rfl | rfl | rfl | rfl <;> first | rfl | (rw [he]; rfl)
theorem src_msg (w : World) (m : Mg) (h : m.ok) : Src Try.prog 10 38 (.slice (some ⟨w.heap.size, 0, none⟩) 1 1) 1 (ms [m]) (w.alloc (.cells m.arr 25)) := by
  have hc : ms [m] = m.cs := by simp [ms]
  rw [hc]
  exact Src.ofSlice _ Try.underlying38 ⟨w.heap.size, 0, none⟩ 1 1 m.cs rfl (fun j u hu => by
    rw [Addr.add_lit, Nat.zero_add]
    have : (w.alloc (.cells m.arr 25)).cell? ⟨w.heap.size, j, none⟩ = m.arr[j]? := cell_of_row _ _ _ _ _ (0, 0) (heap_alloc_new w _)
    rw [this]
    simpa [Mg.arr, Mg.cs] using hu) (Mg.one h)
set_option maxRecDepth 100000 in
set_option maxHeartbeats 4000000 in
theorem send_any (w : World) (P : Nat → Prop) (g : Nat) (n : Nd) (S : List Mg) (k : Int) (m : Mg) (hD : Dr w P g n S) (hm : m.ok) (hS : S.length ≤ 1048576) :
    Calls Try.prog 61 #[.pointer (some ⟨g, 0, none⟩), .int .i64 k, m.val] w fun e w' => e = .returned (.tuple #[]) ∧ Dr w' P g n (S ++ [{ m with fr := n.id, dst := k, term := n.term }]) ∧ Kept P w w' := by
  obtain ⟨L, M, hD⟩ := hD
  obtain ⟨m', hm'⟩ : ∃ m', m' = { m with fr := n.id, dst := k, term := n.term } := ⟨_, rfl⟩
  have ok' : m'.ok := by rw [hm']; exact hm
  have HOK := Lib.hid ok'
  have hout := hD.out
  rw [← hm']
  obtain ⟨w1, hw1⟩ : ∃ w1, w.alloc (.cells m.arr 25) = w1 := ⟨_, rfl⟩
  have g1 : w.grownBy w1 none := by subst hw1; exact World.grownBy_alloc w _ none
  have z1 : w.heap.size < w1.heap.size := by subst hw1; simp
  have mb0 : MB w1 w.heap.size m := by subst hw1; exact ⟨heap_alloc_new w _⟩
  have D1 := hD.add g1 w.heap.size (Nat.le_refl _) z1
  have HK1 := Lib.hid (hD.kept g1)
  have hpb : ∀ j, P j → j ≠ w.heap.size := fun j hj => by have := (hD.out j hj).1; omega
  have HPB := Lib.hid hpb
  have HS := Lib.hid hS
  have HZ := Lib.hid z1
  clear hD g1 hout hm z1 ok' hpb hS
  obtain ⟨mb, hmb⟩ : ∃ mb, w.heap.size = mb := ⟨_, rfl⟩
  rw [hmb] at mb0 D1 HPB HZ
  unfold Mg.arr at hw1
  unfold Mg.val
  go_enter Try.func61, Try.ntmps61
  go_upto_region 1 with fail
  clear hw1
  try rw [hmb]
  clear hmb
  have d1 : w1.grownBy w1.drew none := only_drew (only_refl w1 none)
  have D2 := D1.grow d1
  have mb2 := mb0.grow d1
  have HK2 := Lib.hid (HK1.out.trans ((D1.less (fun j hj => .inl hj) : DrV w1 P g n L S M).kept d1))
  clear D1 mb0 HK1 d1
  obtain ⟨w2, hw2⟩ : ∃ w2, w1.drew = w2 := ⟨_, rfl⟩
  rw [hw2] at D2 mb2 HK2
  have HW2 := Lib.hid hw2
  clear hw2
  obtain ⟨i0, i1, _⟩ := D2.all
  have f1 := mb2.fr_ 1
  have f2 := mb2.fr_ 2
  have f3 := mb2.fr_ 3
  obtain ⟨_, j1, j2, j3, _⟩ := mb2.all
  have HKD2 := HK2
  refine wp_region_late [(16, fun V => V.cell? ⟨g, 0, none⟩ = some (.int .i64 n.id) ∧ V.cell? ⟨g, 1, none⟩ = some (.int .i64 n.term))] (by kernel_rfl) ?_
  refine wpAnyT_pure (i := 0) (oi := { dst := some 6, op := Op.move (Operand.tmp 0), type := 83, pos := "draft.go:24", after := #[], guard := none }) (v := ?_) rfl (by kernel_rfl) (by kernel_rfl) (by kernel_rfl) (by kernel_rfl) (fun _ _ _ h => h) (Or.inl ⟨by rfl, ?_⟩) (holds1 (fun _ => ⟨by rw [HW2.out]; exact i0, by rw [HW2.out]; exact i1⟩)) ?_
  rotate_left
  · (intro W; go_simp; try with_reducible rfl)
  try simp only [Act.put, List.setIfInBounds_toArray, List.set_cons_zero, List.set_cons_succ]
  refine wpAnyT_pure (i := 1) (oi := { dst := some 7, op := Op.nilCheck (Operand.tmp 6), type := 0, pos := "draft.go:24", after := #[{ on := 0, ground := Ground.data }], guard := none }) (v := ?_) rfl (by kernel_rfl) (by kernel_rfl) (by kernel_rfl) (by kernel_rfl) (fun _ _ _ h => h) (Or.inl ⟨by rfl, ?_⟩) (holds1 (fun _ => ⟨by rw [HW2.out]; exact i0, by rw [HW2.out]; exact i1⟩)) ?_
  rotate_left
  · (intro W; go_simp; try with_reducible rfl)
  try simp only [Act.put, List.setIfInBounds_toArray, List.set_cons_zero, List.set_cons_succ]
  refine wpAnyT_pure (i := 2) (oi := { dst := some 8, op := Op.fieldAddr 87 (Operand.tmp 7) 0, type := 0, pos := "draft.go:24", after := #[{ on := 1, ground := Ground.data }], guard := none }) (v := ?_) rfl (by kernel_rfl) (by kernel_rfl) (by kernel_rfl) (by kernel_rfl) (fun _ _ _ h => h) (Or.inl ⟨by rfl, ?_⟩) (holds1 (fun _ => ⟨by rw [HW2.out]; exact i0, by rw [HW2.out]; exact i1⟩)) ?_
  rotate_left
  · (intro W; go_simp; try with_reducible rfl)
  try simp only [Act.put, List.setIfInBounds_toArray, List.set_cons_zero, List.set_cons_succ]
  refine wpAnyT_pure (i := 3) (oi := { dst := some 9, op := Op.fieldAddr 37 (Operand.tmp 8) 0, type := 0, pos := "draft.go:24", after := #[{ on := 2, ground := Ground.data }], guard := none }) (v := ?_) rfl (by kernel_rfl) (by kernel_rfl) (by kernel_rfl) (by kernel_rfl) (fun _ _ _ h => h) (Or.inl ⟨by rfl, ?_⟩) (holds1 (fun _ => ⟨by rw [HW2.out]; exact i0, by rw [HW2.out]; exact i1⟩)) ?_
  rotate_left
  · (intro W; go_simp; try with_reducible rfl)
  try simp only [Act.put, List.setIfInBounds_toArray, List.set_cons_zero, List.set_cons_succ]
  refine wpAnyT_take 4 16 (i := 4) (oi := { dst := some 10, op := Op.load 3 (Operand.tmp 9), type := 3, pos := "draft.go:24", after := #[{ on := 3, ground := Ground.data }], guard := none }) (v := ?_) (.head _) rfl (by kernel_rfl) (by kernel_rfl) (by kernel_rfl) (by kernel_rfl) (by kernel_rfl) (by kernel_rfl) (by rfl) (fun _ _ _ h => h) (by rfl) ?_ (holds1 (fun _ => ⟨by rw [HW2.out]; exact i0, by rw [HW2.out]; exact i1⟩)) ?_
  rotate_left
  · (intro W hSw; (try dsimp only at hSw); go_simp; try with_reducible rfl)
  try simp only [Act.put, List.setIfInBounds_toArray, List.set_cons_zero, List.set_cons_succ]
  refine wpAnyT_pure (i := 5) (oi := { dst := some 11, op := Op.move (Operand.tmp 1), type := 3, pos := "draft.go:24", after := #[{ on := 12, ground := Ground.gcOnly Departure.lateStores }], guard := none }) (v := ?_) rfl (by kernel_rfl) (by kernel_rfl) (by kernel_rfl) (by kernel_rfl) (fun _ _ _ h => h) (Or.inl ⟨by rfl, ?_⟩) (holds1 (fun _ => ⟨by rw [HW2.out]; exact i0, by rw [HW2.out]; exact i1⟩)) ?_
  rotate_left
  · (intro W; go_simp; try with_reducible rfl)
  try simp only [Act.put, List.setIfInBounds_toArray, List.set_cons_zero, List.set_cons_succ]
  refine wpAnyT_pure (i := 6) (oi := { dst := some 12, op := Op.move (Operand.tmp 0), type := 83, pos := "draft.go:24", after := #[{ on := 14, ground := Ground.gcOnly Departure.lateStores }], guard := none }) (v := ?_) rfl (by kernel_rfl) (by kernel_rfl) (by kernel_rfl) (by kernel_rfl) (fun _ _ _ h => h) (Or.inl ⟨by rfl, ?_⟩) (holds1 (fun _ => ⟨by rw [HW2.out]; exact i0, by rw [HW2.out]; exact i1⟩)) ?_
  rotate_left
  · (intro W; go_simp; try with_reducible rfl)
  try simp only [Act.put, List.setIfInBounds_toArray, List.set_cons_zero, List.set_cons_succ]
  refine wpAnyT_pure (i := 7) (oi := { dst := some 13, op := Op.nilCheck (Operand.tmp 12), type := 0, pos := "draft.go:24", after := #[{ on := 6, ground := Ground.data }, { on := 14, ground := Ground.gcOnly Departure.lateStores }], guard := none }) (v := ?_) rfl (by kernel_rfl) (by kernel_rfl) (by kernel_rfl) (by kernel_rfl) (fun _ _ _ h => h) (Or.inl ⟨by rfl, ?_⟩) (holds1 (fun _ => ⟨by rw [HW2.out]; exact i0, by rw [HW2.out]; exact i1⟩)) ?_
  rotate_left
  · (intro W; go_simp; try with_reducible rfl)
  try simp only [Act.put, List.setIfInBounds_toArray, List.set_cons_zero, List.set_cons_succ]
  refine wpAnyT_pure (i := 8) (oi := { dst := some 14, op := Op.fieldAddr 87 (Operand.tmp 13) 0, type := 0, pos := "draft.go:24", after := #[{ on := 7, ground := Ground.data }, { on := 14, ground := Ground.gcOnly Departure.lateStores }], guard := none }) (v := ?_) rfl (by kernel_rfl) (by kernel_rfl) (by kernel_rfl) (by kernel_rfl) (fun _ _ _ h => h) (Or.inl ⟨by rfl, ?_⟩) (holds1 (fun _ => ⟨by rw [HW2.out]; exact i0, by rw [HW2.out]; exact i1⟩)) ?_
  rotate_left
  · (intro W; go_simp; try with_reducible rfl)
  try simp only [Act.put, List.setIfInBounds_toArray, List.set_cons_zero, List.set_cons_succ]
  refine wpAnyT_pure (i := 9) (oi := { dst := some 15, op := Op.fieldAddr 37 (Operand.tmp 14) 1, type := 0, pos := "draft.go:24", after := #[{ on := 8, ground := Ground.data }, { on := 14, ground := Ground.gcOnly Departure.lateStores }], guard := none }) (v := ?_) rfl (by kernel_rfl) (by kernel_rfl) (by kernel_rfl) (by kernel_rfl) (fun _ _ _ h => h) (Or.inl ⟨by rfl, ?_⟩) (holds1 (fun _ => ⟨by rw [HW2.out]; exact i0, by rw [HW2.out]; exact i1⟩)) ?_
  rotate_left
  · (intro W; go_simp; try with_reducible rfl)
  try simp only [Act.put, List.setIfInBounds_toArray, List.set_cons_zero, List.set_cons_succ]
  refine wpAnyT_take 4 16 (i := 10) (oi := { dst := some 16, op := Op.load 3 (Operand.tmp 15), type := 3, pos := "draft.go:24", after := #[{ on := 9, ground := Ground.data }, { on := 14, ground := Ground.gcOnly Departure.lateStores }], guard := none }) (v := ?_) (.head _) rfl (by kernel_rfl) (by kernel_rfl) (by kernel_rfl) (by kernel_rfl) (by kernel_rfl) (by kernel_rfl) (by rfl) (fun _ _ _ h => h) (by rfl) ?_ (holds1 (fun _ => ⟨by rw [HW2.out]; exact i0, by rw [HW2.out]; exact i1⟩)) ?_
  rotate_left
  · (intro W hSw; (try dsimp only at hSw); go_simp; try with_reducible rfl)
  try simp only [Act.put, List.setIfInBounds_toArray, List.set_cons_zero, List.set_cons_succ]
  refine wpAnyT_pure (i := 11) (oi := { dst := some 17, op := Op.fieldAddr 25 (Operand.tmp 5) 1, type := 0, pos := "draft.go:24", after := #[{ on := 0, ground := Ground.phase }, { on := 1, ground := Ground.phase }, { on := 2, ground := Ground.phase }, { on := 3, ground := Ground.phase }, { on := 4, ground := Ground.phase }, { on := 5, ground := Ground.textOnly Departure.lateStores }, { on := 6, ground := Ground.textOnly Departure.lateStores }, { on := 7, ground := Ground.textOnly Departure.lateStores }, { on := 8, ground := Ground.textOnly Departure.lateStores }, { on := 9, ground := Ground.textOnly Departure.lateStores }, { on := 10, ground := Ground.textOnly Departure.lateStores }], guard := none }) (v := ?_) rfl (by kernel_rfl) (by kernel_rfl) (by kernel_rfl) (by kernel_rfl) (fun _ _ _ h => h) (Or.inl ⟨by rfl, ?_⟩) (holds1 (fun _ => ⟨by rw [HW2.out]; exact i0, by rw [HW2.out]; exact i1⟩)) ?_
  rotate_left
  · (intro W; go_simp; try with_reducible rfl)
  try simp only [Act.put, List.setIfInBounds_toArray, List.set_cons_zero, List.set_cons_succ]
  rw [HW2.out]
  refine wpAnyT_ready (rs := [12]) (by kernel_rfl) (by simp) (AllT.cons (o := { dst := none, op := Op.store 3 (Operand.tmp 17) (Operand.tmp 10), type := 0, pos := "draft.go:24", after := #[{ on := 11, ground := Ground.data }, { on := 4, ground := Ground.data }, { on := 0, ground := Ground.phase }, { on := 1, ground := Ground.phase }, { on := 2, ground := Ground.phase }, { on := 3, ground := Ground.phase }, { on := 4, ground := Ground.phase }, { on := 5, ground := Ground.textOnly Departure.lateStores }, { on := 6, ground := Ground.textOnly Departure.lateStores }, { on := 7, ground := Ground.textOnly Departure.lateStores }, { on := 8, ground := Ground.textOnly Departure.lateStores }, { on := 9, ground := Ground.textOnly Departure.lateStores }, { on := 10, ground := Ground.textOnly Departure.lateStores }], guard := none }) rfl (fun K hK => ?_) AllT.nil)
  go_simp
  obtain ⟨wa, hwa⟩ : ∃ Z, w2.setCell ⟨mb, 1, none⟩ (.int .i64 n.id) = Z := ⟨_, rfl⟩
  have t1 := mb2.set 1 (.int .i64 n.id) { m with fr := n.id } rfl
  rw [hwa] at t1
  have mba := t1.1
  have Da := D2.off (.inr rfl) t1.2
  have HKDa := Lib.hid (HKD2.out.trans ((D2.less (fun j hj => .inl hj) : DrV w2 P g n L S M).kept_off HPB.out t1.2))
  rw [hwa]
  clear hwa t1 j1 f1
  obtain ⟨i0Da, i1Da, _⟩ := Da.all
  have f2 := mba.fr_ 2
  have j2 := mba.all.2.2.1
  have f3 := mba.fr_ 3
  have j3 := mba.all.2.2.2.1
  refine hK.out _ _ (holds1 (fun _ => ⟨i0Da, i1Da⟩)) ?_
  clear hK K
  try simp only [Act.put, List.setIfInBounds_toArray, List.set_cons_zero, List.set_cons_succ]
  refine wpAnyT_pure (i := 13) (oi := { dst := some 18, op := Op.fieldAddr 25 (Operand.tmp 5) 2, type := 0, pos := "draft.go:24", after := #[{ on := 0, ground := Ground.phase }, { on := 1, ground := Ground.phase }, { on := 2, ground := Ground.phase }, { on := 3, ground := Ground.phase }, { on := 4, ground := Ground.phase }, { on := 5, ground := Ground.phase }, { on := 6, ground := Ground.textOnly Departure.lateStores }, { on := 7, ground := Ground.textOnly Departure.lateStores }, { on := 8, ground := Ground.textOnly Departure.lateStores }, { on := 9, ground := Ground.textOnly Departure.lateStores }, { on := 10, ground := Ground.textOnly Departure.lateStores }, { on := 11, ground := Ground.phase }, { on := 12, ground := Ground.phase }], guard := none }) (v := ?_) rfl (by kernel_rfl) (by kernel_rfl) (by kernel_rfl) (by kernel_rfl) (fun _ _ _ h => h) (Or.inl ⟨by rfl, ?_⟩) (holds1 (fun _ => ⟨i0Da, i1Da⟩)) ?_
  rotate_left
  · (intro W; go_simp; try with_reducible rfl)
  try simp only [Act.put, List.setIfInBounds_toArray, List.set_cons_zero, List.set_cons_succ]
  refine wpAnyT_ready (rs := [14]) (by kernel_rfl) (by simp) (AllT.cons (o := { dst := none, op := Op.store 3 (Operand.tmp 18) (Operand.tmp 11), type := 0, pos := "draft.go:24", after := #[{ on := 13, ground := Ground.data }, { on := 5, ground := Ground.data }, { on := 12, ground := Ground.chain }, { on := 0, ground := Ground.phase }, { on := 1, ground := Ground.phase }, { on := 2, ground := Ground.phase }, { on := 3, ground := Ground.phase }, { on := 4, ground := Ground.phase }, { on := 5, ground := Ground.phase }, { on := 6, ground := Ground.textOnly Departure.lateStores }, { on := 7, ground := Ground.textOnly Departure.lateStores }, { on := 8, ground := Ground.textOnly Departure.lateStores }, { on := 9, ground := Ground.textOnly Departure.lateStores }, { on := 10, ground := Ground.textOnly Departure.lateStores }, { on := 11, ground := Ground.phase }, { on := 12, ground := Ground.phase }], guard := none }) rfl (fun K hK => ?_) AllT.nil)
  go_simp
  obtain ⟨wb, hwb⟩ : ∃ Z, wa.setCell ⟨mb, 2, none⟩ (.int .i64 k) = Z := ⟨_, rfl⟩
  have t2 := mba.set 2 (.int .i64 k) { m with fr := n.id, dst := k } rfl
  rw [hwb] at t2
  have mbb := t2.1
  have Db := Da.off (.inr rfl) t2.2
  have HKDb := Lib.hid (HKDa.out.trans ((Da.less (fun j hj => .inl hj) : DrV wa P g n L S M).kept_off HPB.out t2.2))
  rw [hwb]
  clear hwb t2 j2 f2
  obtain ⟨i0Db, i1Db, _⟩ := Db.all
  have f3 := mbb.fr_ 3
  have j3 := mbb.all.2.2.2.1
  refine hK.out _ _ (holds1 (fun _ => ⟨i0Db, i1Db⟩)) ?_
  clear hK K
  try simp only [Act.put, List.setIfInBounds_toArray, List.set_cons_zero, List.set_cons_succ]
  refine wpAnyT_pure (i := 15) (oi := { dst := some 19, op := Op.fieldAddr 25 (Operand.tmp 5) 3, type := 0, pos := "draft.go:24", after := #[{ on := 0, ground := Ground.phase }, { on := 1, ground := Ground.phase }, { on := 2, ground := Ground.phase }, { on := 3, ground := Ground.phase }, { on := 4, ground := Ground.phase }, { on := 5, ground := Ground.phase }, { on := 6, ground := Ground.phase }, { on := 7, ground := Ground.phase }, { on := 8, ground := Ground.phase }, { on := 9, ground := Ground.phase }, { on := 10, ground := Ground.phase }, { on := 11, ground := Ground.phase }, { on := 12, ground := Ground.phase }, { on := 13, ground := Ground.phase }, { on := 14, ground := Ground.phase }], guard := none }) (v := ?_) rfl (by kernel_rfl) (by kernel_rfl) (by kernel_rfl) (by kernel_rfl) (fun _ _ _ h => h) (Or.inl ⟨by rfl, ?_⟩) (holds1 (fun _ => ⟨i0Db, i1Db⟩)) ?_
  rotate_left
  · (intro W; go_simp; try with_reducible rfl)
  try simp only [Act.put, List.setIfInBounds_toArray, List.set_cons_zero, List.set_cons_succ]
  refine wpAnyT_ready (rs := [16]) (by kernel_rfl) (by simp) (AllT.cons (o := { dst := none, op := Op.store 3 (Operand.tmp 19) (Operand.tmp 16), type := 0, pos := "draft.go:24", after := #[{ on := 15, ground := Ground.data }, { on := 10, ground := Ground.data }, { on := 14, ground := Ground.chain }, { on := 0, ground := Ground.phase }, { on := 1, ground := Ground.phase }, { on := 2, ground := Ground.phase }, { on := 3, ground := Ground.phase }, { on := 4, ground := Ground.phase }, { on := 5, ground := Ground.phase }, { on := 6, ground := Ground.phase }, { on := 7, ground := Ground.phase }, { on := 8, ground := Ground.phase }, { on := 9, ground := Ground.phase }, { on := 10, ground := Ground.phase }, { on := 11, ground := Ground.phase }, { on := 12, ground := Ground.phase }, { on := 13, ground := Ground.phase }, { on := 14, ground := Ground.phase }], guard := none }) rfl (fun K hK => ?_) AllT.nil)
  go_simp
  obtain ⟨wc, hwc⟩ : ∃ Z, wb.setCell ⟨mb, 3, none⟩ (.int .i64 n.term) = Z := ⟨_, rfl⟩
  have t3 := mbb.set 3 (.int .i64 n.term) { m with fr := n.id, dst := k, term := n.term } rfl
  rw [hwc] at t3
  have mbc := t3.1
  have Dc := Db.off (.inr rfl) t3.2
  have HKDc := Lib.hid (HKDb.out.trans ((Db.less (fun j hj => .inl hj) : DrV wb P g n L S M).kept_off HPB.out t3.2))
  rw [hwc]
  clear hwc t3 j3 f3
  obtain ⟨i0Dc, i1Dc, _⟩ := Dc.all
  refine hK.out _ _ (holds1 (late_no (by kernel_rfl))) ?_
  clear hK K
  try simp only [Act.put, List.setIfInBounds_toArray, List.set_cons_zero, List.set_cons_succ]
  refine wpAnyT_done (by kernel_rfl) ?_ _
  rw [← hm'] at mbc
  clear D2 Da Db mb2 mba mbb HK2 HKD2 HKDa HKDb HW2 i0 i1 i0Da i1Da i0Db i1Db i0Dc i1Dc hm'
  go_upto_region 2 with fail
  have dd : wc.grownBy wc.drew none := only_drew (only_refl wc none)
  have De := Dc.grow dd
  have mbe := mbc.grow dd
  have HKe := Lib.hid (HKDc.out.trans ((Dc.less (fun j hj => .inl hj) : DrV wc P g n L S M).kept dd))
  have hM := De.all.2.2.2.2.2.2.2.2.2.2.2.2.2.2.2.2.2.2.2
  have hLd := mbe.load
  refine wp_region_late [(7, fun V => V.cell? ⟨g, 19, none⟩ = some M ∧ (Instr.loadAt 25 (.pointer (some ⟨mb, 0, none⟩))).run Try.prog V = .ok m'.val V)] (by kernel_rfl) ?_
  refine wpAnyT_pure (i := 0) (oi := { dst := some 20, op := Op.move (Operand.tmp 0), type := 83, pos := "draft.go:25", after := #[], guard := none }) (v := ?_) rfl (by kernel_rfl) (by kernel_rfl) (by kernel_rfl) (by kernel_rfl) (fun _ _ _ h => h) (Or.inl ⟨by rfl, ?_⟩) (holds1 (fun _ => ⟨hM, hLd⟩)) ?_
  rotate_left
  · (intro W; go_simp; try with_reducible rfl)
  try simp only [Act.put, List.setIfInBounds_toArray, List.set_cons_zero, List.set_cons_succ]
  refine wpAnyT_pure (i := 1) (oi := { dst := some 21, op := Op.move (Operand.tmp 0), type := 83, pos := "draft.go:25", after := #[], guard := none }) (v := ?_) rfl (by kernel_rfl) (by kernel_rfl) (by kernel_rfl) (by kernel_rfl) (fun _ _ _ h => h) (Or.inl ⟨by rfl, ?_⟩) (holds1 (fun _ => ⟨hM, hLd⟩)) ?_
  rotate_left
  · (intro W; go_simp; try with_reducible rfl)
  try simp only [Act.put, List.setIfInBounds_toArray, List.set_cons_zero, List.set_cons_succ]
  refine wpAnyT_pure (i := 2) (oi := { dst := some 22, op := Op.nilCheck (Operand.tmp 21), type := 0, pos := "draft.go:25", after := #[{ on := 1, ground := Ground.data }], guard := none }) (v := ?_) rfl (by kernel_rfl) (by kernel_rfl) (by kernel_rfl) (by kernel_rfl) (fun _ _ _ h => h) (Or.inl ⟨by rfl, ?_⟩) (holds1 (fun _ => ⟨hM, hLd⟩)) ?_
  rotate_left
  · (intro W; go_simp; try with_reducible rfl)
  try simp only [Act.put, List.setIfInBounds_toArray, List.set_cons_zero, List.set_cons_succ]
  refine wpAnyT_pure (i := 3) (oi := { dst := some 23, op := Op.fieldAddr 87 (Operand.tmp 22) 1, type := 0, pos := "draft.go:25", after := #[{ on := 2, ground := Ground.data }], guard := none }) (v := ?_) rfl (by kernel_rfl) (by kernel_rfl) (by kernel_rfl) (by kernel_rfl) (fun _ _ _ h => h) (Or.inl ⟨by rfl, ?_⟩) (holds1 (fun _ => ⟨hM, hLd⟩)) ?_
  rotate_left
  · (intro W; go_simp; try with_reducible rfl)
  try simp only [Act.put, List.setIfInBounds_toArray, List.set_cons_zero, List.set_cons_succ]
  refine wpAnyT_take 4 7 (i := 4) (oi := { dst := some 24, op := Op.load 38 (Operand.tmp 23), type := 38, pos := "draft.go:25", after := #[{ on := 3, ground := Ground.data }], guard := none }) (v := ?_) (.head _) rfl (by kernel_rfl) (by kernel_rfl) (by kernel_rfl) (by kernel_rfl) (by kernel_rfl) (by kernel_rfl) (by rfl) (fun _ _ _ h => h) (by rfl) ?_ (holds1 (fun _ => ⟨hM, hLd⟩)) ?_
  rotate_left
  · (intro W hSw; (try dsimp only at hSw); go_simp; try with_reducible rfl)
  try simp only [Act.put, List.setIfInBounds_toArray, List.set_cons_zero, List.set_cons_succ]
  refine wpAnyT_take 4 7 (i := 5) (oi := { dst := some 25, op := Op.load 25 (Operand.tmp 5), type := 25, pos := "draft.go:25", after := #[], guard := none }) (v := m'.val) (.head _) rfl (by kernel_rfl) (by kernel_rfl) (by kernel_rfl) (by kernel_rfl) (by kernel_rfl) (by kernel_rfl) (by rfl) (fun _ _ _ h => h) (by rfl) (fun W hSw => exec_load_at _ _ rfl (.pointer (some ⟨mb, 0, none⟩)) _ hSw.2 rfl) (holds1 (fun _ => ⟨hM, hLd⟩)) ?_
  try simp only [Act.put, List.setIfInBounds_toArray, List.set_cons_zero, List.set_cons_succ]
  try unfold Mg.val
  refine wpAnyT_ready (rs := [6]) (by kernel_rfl) (by simp) (AllT.cons (o := { dst := some 26, op := Op.buildSlice 38 1 #[(0, Operand.tmp 25)], type := 38, pos := "draft.go:25", after := #[{ on := 5, ground := Ground.data }], guard := none }) rfl (fun K hK => ?_) AllT.nil)
  go_simp
  obtain ⟨wf, hwf⟩ : ∃ Z, wc.drew.alloc (.cells m'.arr 25) = Z := ⟨_, rfl⟩
  have sm := src_msg wc.drew m' HOK.out
  have gf := World.grownBy_alloc wc.drew (.cells m'.arr 25) none
  rw [hwf] at sm gf
  have Df := De.grow gf
  have HKf := Lib.hid (HKe.out.trans ((De.less (fun j hj => .inl hj) : DrV wc.drew P g n L S M).kept gf))
  rw [show wc.drew.alloc (.cells m'.arr 25) = (wc.alloc (.cells m'.arr 25)).drew from rfl] at hwf
  unfold Mg.arr at hwf
  rw [hwf]
  have hMf := Df.all.2.2.2.2.2.2.2.2.2.2.2.2.2.2.2.2.2.2.2
  have hLf := (mbe.grow gf).load
  have HWF := Lib.hid hwf
  clear hwf
  refine hK.out _ _ (holds1 (fun _ => ⟨hMf, hLf⟩)) ?_
  clear hK K
  try simp only [Act.put, List.setIfInBounds_toArray, List.set_cons_zero, List.set_cons_succ]
  obtain ⟨i0, hi, hz0, hz1, hz2⟩ := info_parts Try.msg_info
  refine wpAnyT_ready (rs := [7]) (by kernel_rfl) (by simp) (AllT.cons (o := { dst := some 27, op := Op.call { callee := Callee.builtin Builtin.append, args := #[Operand.tmp 24, Operand.tmp 26], argTypes := #[38, 38] }, type := 38, pos := "draft.go:25", after := #[{ on := 4, ground := Ground.data }, { on := 6, ground := Ground.data }], guard := none }) rfl (fun K hK => ?_) AllT.nil)
  refine wpT_append rfl _ _ 38 38 rfl 0 25 i0 _ 104 10 Try.underlying38 hi hz0 hz1 hz2 rfl M S.length (ms S) Df.sent (.slice (some ⟨wc.heap.size, 0, none⟩) 1 1) 1 (ms [m']) sm rfl rfl (by have := HS.out; unfold maxLen; omega) (by have := HS.out; omega) (Nat.zero_le _) ?_
  intro M' wh gh
  rw [← ms_app] at gh
  obtain ⟨A', c', rfl⟩ := own_slice_w gh.own
  have hl1 : S.length + 1 = (S ++ [m']).length := by simp
  rw [hl1] at gh ⊢
  clear hl1
  obtain ⟨S', hS'⟩ : ∃ x, S ++ [m'] = x := ⟨_, rfl⟩
  rw [hS'] at gh ⊢
  have HSS := Lib.hid hS'
  clear hS'
  have DD := (Df.less (fun j hj => .inl hj) : DrV wf P g n L S M).more gh
  have HDD := Lib.hid DD
  have e19 : wh.cell? ⟨g, 19, none⟩ = some M := (World.cell?_of_block (gh.only.block g Df.lt (fun e => Df.sentg e.symm))).trans hMf
  have f19 : wh.frozen? ⟨g, 19, none⟩ = false := by
    have hb := (gh.only.block g Df.lt (fun e => Df.sentg e.symm)).trans Df.at_
    simp [World.frozen?, hb]
  clear DD
  refine hK.out _ _ (holds1 (late_no (by kernel_rfl))) ?_
  clear hK K
  try simp only [Act.put, List.setIfInBounds_toArray, List.set_cons_zero, List.set_cons_succ]
  refine wpAnyT_pure (i := 8) (oi := { dst := some 28, op := Op.nilCheck (Operand.tmp 20), type := 0, pos := "draft.go:25", after := #[{ on := 0, ground := Ground.data }, { on := 0, ground := Ground.phase }, { on := 1, ground := Ground.phase }, { on := 2, ground := Ground.phase }, { on := 3, ground := Ground.phase }, { on := 4, ground := Ground.phase }, { on := 5, ground := Ground.phase }, { on := 6, ground := Ground.phase }, { on := 7, ground := Ground.phase }], guard := none }) (v := ?_) rfl (by kernel_rfl) (by kernel_rfl) (by kernel_rfl) (by kernel_rfl) (fun _ _ _ h => h) (Or.inl ⟨by rfl, ?_⟩) (holds1 (late_no (by kernel_rfl))) ?_
  rotate_left
  · (intro W; go_simp; try with_reducible rfl)
  try simp only [Act.put, List.setIfInBounds_toArray, List.set_cons_zero, List.set_cons_succ]
  refine wpAnyT_pure (i := 9) (oi := { dst := some 29, op := Op.fieldAddr 87 (Operand.tmp 28) 1, type := 0, pos := "draft.go:25", after := #[{ on := 8, ground := Ground.data }, { on := 0, ground := Ground.phase }, { on := 1, ground := Ground.phase }, { on := 2, ground := Ground.phase }, { on := 3, ground := Ground.phase }, { on := 4, ground := Ground.phase }, { on := 5, ground := Ground.phase }, { on := 6, ground := Ground.phase }, { on := 7, ground := Ground.phase }], guard := none }) (v := ?_) rfl (by kernel_rfl) (by kernel_rfl) (by kernel_rfl) (by kernel_rfl) (fun _ _ _ h => h) (Or.inl ⟨by rfl, ?_⟩) (holds1 (late_no (by kernel_rfl))) ?_
  rotate_left
  · (intro W; go_simp; try with_reducible rfl)
  try simp only [Act.put, List.setIfInBounds_toArray, List.set_cons_zero, List.set_cons_succ]
  refine wpAnyT_ready (rs := [10]) (by kernel_rfl) (by simp) (AllT.cons (o := { dst := none, op := Op.store 38 (Operand.tmp 29) (Operand.tmp 27), type := 0, pos := "draft.go:25", after := #[{ on := 9, ground := Ground.data }, { on := 7, ground := Ground.data }, { on := 7, ground := Ground.chain }, { on := 0, ground := Ground.phase }, { on := 1, ground := Ground.phase }, { on := 2, ground := Ground.phase }, { on := 3, ground := Ground.phase }, { on := 4, ground := Ground.phase }, { on := 5, ground := Ground.phase }, { on := 6, ground := Ground.phase }, { on := 7, ground := Ground.phase }], guard := none }) rfl (fun K hK => ?_) AllT.nil)
  go_simp
  obtain ⟨wi, hwi⟩ : ∃ Z, wh.setCell ⟨g, 19, none⟩ (.slice A' S'.length c') = Z := ⟨_, rfl⟩
  rw [hwi] at HDD
  rw [hwi]
  clear hwi e19 f19
  refine hK.out _ _ (holds1 (late_no (by kernel_rfl))) ?_
  clear hK K
  try simp only [Act.put, List.setIfInBounds_toArray, List.set_cons_zero, List.set_cons_succ]
  refine wpAnyT_done (by kernel_rfl) ?_ _
  go_wp2_with fail
  go_end0
  exact ⟨rfl, by rw [HSS.out]; exact ⟨L, _, HDD.out.1⟩, HKf.out.trans HDD.out.2⟩
end Go.Proofs.Ytjhnipnocjoelaa
