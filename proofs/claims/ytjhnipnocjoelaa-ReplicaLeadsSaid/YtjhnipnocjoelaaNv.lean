/- (*draft).append. Conditions: numbers below 2^40. -/
import Derived.Test.YtjhnipnocjoelaaNr
namespace Go.Proofs.Ytjhnipnocjoelaa
open Go.RowKit Go.Deep
def Nd.mset (n : Nd) (k : Nat) (v : Int) : Nd := match k with | 0 => { n with y0 := v } | 1 => { n with y1 := v } | _ => { n with y2 := v }
theorem DrV.setm {w : World} {P : Nat → Prop} {g : Nat} {n : Nd} {L M : Value} {S : List Mg} (h : DrV w P g n L S M) (k : Nat) (hk : k < 3) (v : Int) : DrV (w.setCell ⟨g, 16 + k, none⟩ (.int .i64 v)) P g (n.mset k v) L S M ∧ Kept P w (w.setCell ⟨g, 16 + k, none⟩ (.int .i64 v)) := by
  match k, hk with
  | 0, _ => exact h.set 16 (.int .i64 v) { n with y0 := v } rfl rfl
  | 1, _ => exact h.set 17 (.int .i64 v) { n with y1 := v } rfl rfl
  | 2, _ => exact h.set 18 (.int .i64 v) { n with y2 := v } rfl rfl
def Nd.my (n : Nd) (k : Nat) : Int := match k with | 0 => n.y0 | 1 => n.y1 | _ => n.y2
theorem DrV.cellm {w : World} {P : Nat → Prop} {g : Nat} {n : Nd} {L M : Value} {S : List Mg} (h : DrV w P g n L S M) (k : Nat) (hk : k < 3) : w.cell? ⟨g, 16 + k, none⟩ = some (.int .i64 (n.my k)) := by
  match k, hk with
  | 0, _ => exact h.cell 16 _ rfl
  | 1, _ => exact h.cell 17 _ rfl
  | 2, _ => exact h.cell 18 _ rfl
theorem Nd.mset_same (n : Nd) (k : Nat) (v : Int) : (n.mset k v).id = n.id ∧ (n.mset k v).term = n.term ∧ (n.mset k v).log = n.log ∧ (n.mset k v).base = n.base ∧ (n.mset k v).role = n.role := by
  unfold Nd.mset
  split <;> exact ⟨rfl, rfl, rfl, rfl, rfl⟩
def Nd.put (n : Nd) (cmd : ByteArray) : Nd := { n with log := n.log ++ [(n.term, cmd)] }
def Nd.grown (n : Nd) (k : Nat) (cmd : ByteArray) : Nd := (n.put cmd).mset k (n.put cmd).li
set_option maxRecDepth 100000 in
set_option maxHeartbeats 8000000 in
theorem grow_any (w : World) (P : Nat → Prop) (g : Nat) (n : Nd) (S : List Mg) (k : Nat) (cmd : ByteArray) (hid : n.id = k) (hk3 : k < 3) (hD : Dr w P g n S) (hn : n.ok) (hl : n.log.length ≤ 1000000) :
    Calls Try.prog 43 #[.pointer (some ⟨g, 0, none⟩), .string cmd] w fun e w' => e = .returned (.int .i64 (n.put cmd).li) ∧ Dr w' P g (n.grown k cmd) S ∧ Kept P w w' := by
  obtain ⟨L, M, hD⟩ := hD
  obtain ⟨A, c, rfl⟩ := own_slice_w hD.log
  have HID := Lib.hid hid
  have HK3 := Lib.hid hk3
  have HN := Lib.hid hn
  have HL := Lib.hid hl
  have D2 := hD.drew
  have K2 := Lib.hid (hD.kept (only_drew (only_refl w none)))
  obtain ⟨w2, hw2⟩ : ∃ w2, w.drew = w2 := ⟨_, rfl⟩
  rw [hw2] at D2 K2
  have HW2 := Lib.hid hw2
  clear hid hk3 hn hl hD hw2
  have c1 := D2.all.2.1
  have c6 := D2.all.2.2.2.2.2.2.1
  have s3 := Lib.hid (src_entry w2 (n.term, cmd))
  have g3 := World.grownBy_alloc w2 (.cells #[.int .i64 n.term, .string cmd] 49) none
  have D3 := D2.grow g3
  have K3 := Lib.hid (K2.out.trans (D2.kept g3))
  obtain ⟨w3, hw3⟩ : ∃ w3, w2.alloc (.cells #[.int .i64 n.term, .string cmd] 49) = w3 := ⟨_, rfl⟩
  rw [hw3] at s3 g3 D3 K3
  have HW3 := Lib.hid hw3
  clear hw3
  have e1 := D3.all.2.1
  have e6 := D3.all.2.2.2.2.2.2.1
  obtain ⟨i0, hi, hz0, hz1, hz2⟩ := info_parts Try.info_entry
  have HI := Lib.hid (And.intro hi (And.intro hz0 (And.intro hz1 hz2)))
  clear hi hz0 hz1 hz2
  go_enter Try.func43, Try.ntmps43
  go_upto_region 1 with fail
  refine wp_region_late [(14, fun V => V.cell? ⟨g, 1, none⟩ = some (.int .i64 n.term) ∧ V.cell? ⟨g, 6, none⟩ = some (.slice A n.log.length c))] (by kernel_rfl) ?_
  refine wpAnyT_pure (i := 0) (oi := { dst := some 7, op := Op.move (Operand.tmp 0), type := 83, pos := "draft.go:103", after := #[], guard := none }) (v := ?_) rfl (by kernel_rfl) (by kernel_rfl) (by kernel_rfl) (by kernel_rfl) (fun _ _ _ h => h) (Or.inl ⟨by rfl, ?_⟩) (holds1 (fun _ => ⟨by rw [HW2.out]; exact c1, by rw [HW2.out]; exact c6⟩)) ?_
  rotate_left
  · (intro W; go_simp; try with_reducible rfl)
  try simp only [Act.put, List.setIfInBounds_toArray, List.set_cons_zero, List.set_cons_succ]
  refine wpAnyT_pure (i := 1) (oi := { dst := some 8, op := Op.move (Operand.tmp 0), type := 83, pos := "draft.go:103", after := #[], guard := none }) (v := ?_) rfl (by kernel_rfl) (by kernel_rfl) (by kernel_rfl) (by kernel_rfl) (fun _ _ _ h => h) (Or.inl ⟨by rfl, ?_⟩) (holds1 (fun _ => ⟨by rw [HW2.out]; exact c1, by rw [HW2.out]; exact c6⟩)) ?_
  rotate_left
  · (intro W; go_simp; try with_reducible rfl)
  try simp only [Act.put, List.setIfInBounds_toArray, List.set_cons_zero, List.set_cons_succ]
  refine wpAnyT_pure (i := 2) (oi := { dst := some 9, op := Op.nilCheck (Operand.tmp 8), type := 0, pos := "draft.go:103", after := #[{ on := 1, ground := Ground.data }], guard := none }) (v := ?_) rfl (by kernel_rfl) (by kernel_rfl) (by kernel_rfl) (by kernel_rfl) (fun _ _ _ h => h) (Or.inl ⟨by rfl, ?_⟩) (holds1 (fun _ => ⟨by rw [HW2.out]; exact c1, by rw [HW2.out]; exact c6⟩)) ?_
  rotate_left
  · (intro W; go_simp; try with_reducible rfl)
  try simp only [Act.put, List.setIfInBounds_toArray, List.set_cons_zero, List.set_cons_succ]
  refine wpAnyT_pure (i := 3) (oi := { dst := some 10, op := Op.fieldAddr 87 (Operand.tmp 9) 0, type := 0, pos := "draft.go:103", after := #[{ on := 2, ground := Ground.data }], guard := none }) (v := ?_) rfl (by kernel_rfl) (by kernel_rfl) (by kernel_rfl) (by kernel_rfl) (fun _ _ _ h => h) (Or.inl ⟨by rfl, ?_⟩) (holds1 (fun _ => ⟨by rw [HW2.out]; exact c1, by rw [HW2.out]; exact c6⟩)) ?_
  rotate_left
  · (intro W; go_simp; try with_reducible rfl)
  try simp only [Act.put, List.setIfInBounds_toArray, List.set_cons_zero, List.set_cons_succ]
  refine wpAnyT_pure (i := 4) (oi := { dst := some 11, op := Op.fieldAddr 37 (Operand.tmp 10) 6, type := 0, pos := "draft.go:103", after := #[{ on := 3, ground := Ground.data }], guard := none }) (v := ?_) rfl (by kernel_rfl) (by kernel_rfl) (by kernel_rfl) (by kernel_rfl) (fun _ _ _ h => h) (Or.inl ⟨by rfl, ?_⟩) (holds1 (fun _ => ⟨by rw [HW2.out]; exact c1, by rw [HW2.out]; exact c6⟩)) ?_
  rotate_left
  · (intro W; go_simp; try with_reducible rfl)
  try simp only [Act.put, List.setIfInBounds_toArray, List.set_cons_zero, List.set_cons_succ]
  refine wpAnyT_take 4 14 (i := 5) (oi := { dst := some 12, op := Op.load 23 (Operand.tmp 11), type := 23, pos := "draft.go:103", after := #[{ on := 4, ground := Ground.data }], guard := none }) (v := ?_) (.head _) rfl (by kernel_rfl) (by kernel_rfl) (by kernel_rfl) (by kernel_rfl) (by kernel_rfl) (by kernel_rfl) (by rfl) (fun _ _ _ h => h) (by rfl) ?_ (holds1 (fun _ => ⟨by rw [HW2.out]; exact c1, by rw [HW2.out]; exact c6⟩)) ?_
  rotate_left
  · (intro W hSw; (try dsimp only at hSw); go_simp; try with_reducible rfl)
  try simp only [Act.put, List.setIfInBounds_toArray, List.set_cons_zero, List.set_cons_succ]
  refine wpAnyT_pure (i := 6) (oi := { dst := some 13, op := Op.move (Operand.tmp 0), type := 83, pos := "draft.go:103", after := #[], guard := none }) (v := ?_) rfl (by kernel_rfl) (by kernel_rfl) (by kernel_rfl) (by kernel_rfl) (fun _ _ _ h => h) (Or.inl ⟨by rfl, ?_⟩) (holds1 (fun _ => ⟨by rw [HW2.out]; exact c1, by rw [HW2.out]; exact c6⟩)) ?_
  rotate_left
  · (intro W; go_simp; try with_reducible rfl)
  try simp only [Act.put, List.setIfInBounds_toArray, List.set_cons_zero, List.set_cons_succ]
  refine wpAnyT_pure (i := 7) (oi := { dst := some 14, op := Op.nilCheck (Operand.tmp 13), type := 0, pos := "draft.go:103", after := #[{ on := 6, ground := Ground.data }], guard := none }) (v := ?_) rfl (by kernel_rfl) (by kernel_rfl) (by kernel_rfl) (by kernel_rfl) (fun _ _ _ h => h) (Or.inl ⟨by rfl, ?_⟩) (holds1 (fun _ => ⟨by rw [HW2.out]; exact c1, by rw [HW2.out]; exact c6⟩)) ?_
  rotate_left
  · (intro W; go_simp; try with_reducible rfl)
  try simp only [Act.put, List.setIfInBounds_toArray, List.set_cons_zero, List.set_cons_succ]
  refine wpAnyT_pure (i := 8) (oi := { dst := some 15, op := Op.fieldAddr 87 (Operand.tmp 14) 0, type := 0, pos := "draft.go:103", after := #[{ on := 7, ground := Ground.data }], guard := none }) (v := ?_) rfl (by kernel_rfl) (by kernel_rfl) (by kernel_rfl) (by kernel_rfl) (fun _ _ _ h => h) (Or.inl ⟨by rfl, ?_⟩) (holds1 (fun _ => ⟨by rw [HW2.out]; exact c1, by rw [HW2.out]; exact c6⟩)) ?_
  rotate_left
  · (intro W; go_simp; try with_reducible rfl)
  try simp only [Act.put, List.setIfInBounds_toArray, List.set_cons_zero, List.set_cons_succ]
  refine wpAnyT_pure (i := 9) (oi := { dst := some 16, op := Op.fieldAddr 37 (Operand.tmp 15) 1, type := 0, pos := "draft.go:103", after := #[{ on := 8, ground := Ground.data }], guard := none }) (v := ?_) rfl (by kernel_rfl) (by kernel_rfl) (by kernel_rfl) (by kernel_rfl) (fun _ _ _ h => h) (Or.inl ⟨by rfl, ?_⟩) (holds1 (fun _ => ⟨by rw [HW2.out]; exact c1, by rw [HW2.out]; exact c6⟩)) ?_
  rotate_left
  · (intro W; go_simp; try with_reducible rfl)
  try simp only [Act.put, List.setIfInBounds_toArray, List.set_cons_zero, List.set_cons_succ]
  refine wpAnyT_take 4 14 (i := 10) (oi := { dst := some 17, op := Op.load 3 (Operand.tmp 16), type := 3, pos := "draft.go:103", after := #[{ on := 9, ground := Ground.data }], guard := none }) (v := ?_) (.head _) rfl (by kernel_rfl) (by kernel_rfl) (by kernel_rfl) (by kernel_rfl) (by kernel_rfl) (by kernel_rfl) (by rfl) (fun _ _ _ h => h) (by rfl) ?_ (holds1 (fun _ => ⟨by rw [HW2.out]; exact c1, by rw [HW2.out]; exact c6⟩)) ?_
  rotate_left
  · (intro W hSw; (try dsimp only at hSw); go_simp; try with_reducible rfl)
  try simp only [Act.put, List.setIfInBounds_toArray, List.set_cons_zero, List.set_cons_succ]
  refine wpAnyT_pure (i := 11) (oi := { dst := some 18, op := Op.move (Operand.tmp 1), type := 9, pos := "draft.go:103", after := #[], guard := none }) (v := ?_) rfl (by kernel_rfl) (by kernel_rfl) (by kernel_rfl) (by kernel_rfl) (fun _ _ _ h => h) (Or.inl ⟨by rfl, ?_⟩) (holds1 (fun _ => ⟨by rw [HW2.out]; exact c1, by rw [HW2.out]; exact c6⟩)) ?_
  rotate_left
  · (intro W; go_simp; try with_reducible rfl)
  try simp only [Act.put, List.setIfInBounds_toArray, List.set_cons_zero, List.set_cons_succ]
  refine wpAnyT_pure (i := 12) (oi := { dst := some 19, op := Op.build 49 #[(0, Operand.tmp 17), (1, Operand.tmp 18)], type := 49, pos := "draft.go:103", after := #[{ on := 10, ground := Ground.data }, { on := 11, ground := Ground.data }], guard := none }) (v := ?_) rfl (by kernel_rfl) (by kernel_rfl) (by kernel_rfl) (by kernel_rfl) (fun _ _ _ h => h) (Or.inl ⟨by rfl, ?_⟩) (holds1 (fun _ => ⟨by rw [HW2.out]; exact c1, by rw [HW2.out]; exact c6⟩)) ?_
  rotate_left
  · (intro W; go_simp; try with_reducible rfl)
  try simp only [Act.put, List.setIfInBounds_toArray, List.set_cons_zero, List.set_cons_succ]
  rw [HW2.out]
  refine wpAnyT_ready (rs := [13]) (by kernel_rfl) (by simp) (AllT.cons (o := { dst := some 20, op := Op.buildSlice 23 1 #[(0, Operand.tmp 19)], type := 23, pos := "draft.go:103", after := #[{ on := 12, ground := Ground.data }], guard := none }) rfl (fun K hK => ?_) AllT.nil)
  go_simp
  rw [HW3.out]
  refine hK.out _ _ (holds1 (fun _ => ⟨e1, e6⟩)) ?_
  clear hK K
  try simp only [Act.put, List.setIfInBounds_toArray, List.set_cons_zero, List.set_cons_succ]
  refine wpAnyT_ready (rs := [14]) (by kernel_rfl) (by simp) (AllT.cons (o := { dst := some 21, op := Op.call { callee := Callee.builtin Builtin.append, args := #[Operand.tmp 12, Operand.tmp 20], argTypes := #[23, 23] }, type := 23, pos := "draft.go:103", after := #[{ on := 5, ground := Ground.data }, { on := 13, ground := Ground.data }], guard := none }) rfl (fun K hK => ?_) AllT.nil)
  refine wpT_append rfl _ _ 23 23 rfl 0 49 i0 _ 24 2 Try.underlying23 HI.out.1 HI.out.2.1 HI.out.2.2.1 HI.out.2.2.2 rfl (.slice A n.log.length c) n.log.length (es n.log) D3.log (.slice (some ⟨w2.heap.size, 0, none⟩) 1 1) 1 (es [(n.term, cmd)]) s3.out rfl rfl (by have := HL.out; unfold maxLen; omega) (by have := HL.out; omega) (Nat.zero_le _) ?_
  intro L' w5 g5
  rw [← es_app] at g5
  have hll : n.log.length + 1 = (n.log ++ [(n.term, cmd)]).length := by simp
  rw [hll] at g5
  clear hll
  obtain ⟨l5, hl5⟩ : ∃ l5, n.log ++ [(n.term, cmd)] = l5 := ⟨_, rfl⟩
  rw [hl5] at g5
  obtain ⟨A5, c5, rfl⟩ := own_slice_w g5.own
  have DD := D3.logs g5
  have hb := g5.only.block g D3.lt (fun e => D3.logg e.symm)
  have k6 : w5.cell? ⟨g, 6, none⟩ = some (.slice A n.log.length c) := (World.cell?_of_block (a := ⟨g, 6, none⟩) hb).trans e6
  have f6 : w5.frozen? ⟨g, 6, none⟩ = false := by simp [World.frozen?, hb.trans D3.at_]
  have HL5 := Lib.hid hl5
  have HDD := Lib.hid DD
  clear DD g5 hb hl5 c1 c6 e1 e6 g3
  refine hK.out _ _ (holds1 (late_no (by kernel_rfl))) ?_
  clear hK K
  try simp only [Act.put, List.setIfInBounds_toArray, List.set_cons_zero, List.set_cons_succ]
  refine wpAnyT_pure (i := 15) (oi := { dst := some 22, op := Op.nilCheck (Operand.tmp 7), type := 0, pos := "draft.go:103", after := #[{ on := 0, ground := Ground.data }, { on := 0, ground := Ground.phase }, { on := 1, ground := Ground.phase }, { on := 2, ground := Ground.phase }, { on := 3, ground := Ground.phase }, { on := 4, ground := Ground.phase }, { on := 5, ground := Ground.phase }, { on := 6, ground := Ground.phase }, { on := 7, ground := Ground.phase }, { on := 8, ground := Ground.phase }, { on := 9, ground := Ground.phase }, { on := 10, ground := Ground.phase }, { on := 11, ground := Ground.phase }, { on := 12, ground := Ground.phase }, { on := 13, ground := Ground.phase }, { on := 14, ground := Ground.phase }], guard := none }) (v := ?_) rfl (by kernel_rfl) (by kernel_rfl) (by kernel_rfl) (by kernel_rfl) (fun _ _ _ h => h) (Or.inl ⟨by rfl, ?_⟩) (holds1 (late_no (by kernel_rfl))) ?_
  rotate_left
  · (intro W; go_simp; try with_reducible rfl)
  try simp only [Act.put, List.setIfInBounds_toArray, List.set_cons_zero, List.set_cons_succ]
  refine wpAnyT_pure (i := 16) (oi := { dst := some 23, op := Op.fieldAddr 87 (Operand.tmp 22) 0, type := 0, pos := "draft.go:103", after := #[{ on := 15, ground := Ground.data }, { on := 0, ground := Ground.phase }, { on := 1, ground := Ground.phase }, { on := 2, ground := Ground.phase }, { on := 3, ground := Ground.phase }, { on := 4, ground := Ground.phase }, { on := 5, ground := Ground.phase }, { on := 6, ground := Ground.phase }, { on := 7, ground := Ground.phase }, { on := 8, ground := Ground.phase }, { on := 9, ground := Ground.phase }, { on := 10, ground := Ground.phase }, { on := 11, ground := Ground.phase }, { on := 12, ground := Ground.phase }, { on := 13, ground := Ground.phase }, { on := 14, ground := Ground.phase }], guard := none }) (v := ?_) rfl (by kernel_rfl) (by kernel_rfl) (by kernel_rfl) (by kernel_rfl) (fun _ _ _ h => h) (Or.inl ⟨by rfl, ?_⟩) (holds1 (late_no (by kernel_rfl))) ?_
  rotate_left
  · (intro W; go_simp; try with_reducible rfl)
  try simp only [Act.put, List.setIfInBounds_toArray, List.set_cons_zero, List.set_cons_succ]
  refine wpAnyT_pure (i := 17) (oi := { dst := some 24, op := Op.fieldAddr 37 (Operand.tmp 23) 6, type := 0, pos := "draft.go:103", after := #[{ on := 16, ground := Ground.data }, { on := 0, ground := Ground.phase }, { on := 1, ground := Ground.phase }, { on := 2, ground := Ground.phase }, { on := 3, ground := Ground.phase }, { on := 4, ground := Ground.phase }, { on := 5, ground := Ground.phase }, { on := 6, ground := Ground.phase }, { on := 7, ground := Ground.phase }, { on := 8, ground := Ground.phase }, { on := 9, ground := Ground.phase }, { on := 10, ground := Ground.phase }, { on := 11, ground := Ground.phase }, { on := 12, ground := Ground.phase }, { on := 13, ground := Ground.phase }, { on := 14, ground := Ground.phase }], guard := none }) (v := ?_) rfl (by kernel_rfl) (by kernel_rfl) (by kernel_rfl) (by kernel_rfl) (fun _ _ _ h => h) (Or.inl ⟨by rfl, ?_⟩) (holds1 (late_no (by kernel_rfl))) ?_
  rotate_left
  · (intro W; go_simp; try with_reducible rfl)
  try simp only [Act.put, List.setIfInBounds_toArray, List.set_cons_zero, List.set_cons_succ]
  refine wpAnyT_ready (rs := [18]) (by kernel_rfl) (by simp) (AllT.cons (o := { dst := none, op := Op.store 23 (Operand.tmp 24) (Operand.tmp 21), type := 0, pos := "draft.go:103", after := #[{ on := 17, ground := Ground.data }, { on := 14, ground := Ground.data }, { on := 14, ground := Ground.chain }, { on := 0, ground := Ground.phase }, { on := 1, ground := Ground.phase }, { on := 2, ground := Ground.phase }, { on := 3, ground := Ground.phase }, { on := 4, ground := Ground.phase }, { on := 5, ground := Ground.phase }, { on := 6, ground := Ground.phase }, { on := 7, ground := Ground.phase }, { on := 8, ground := Ground.phase }, { on := 9, ground := Ground.phase }, { on := 10, ground := Ground.phase }, { on := 11, ground := Ground.phase }, { on := 12, ground := Ground.phase }, { on := 13, ground := Ground.phase }, { on := 14, ground := Ground.phase }], guard := none }) rfl (fun K hK => ?_) AllT.nil)
  go_simp
  obtain ⟨w6, hw6⟩ : ∃ Z, w5.setCell ⟨g, 6, none⟩ (.slice A5 l5.length c5) = Z := ⟨_, rfl⟩
  rw [hw6] at HDD
  rw [hw6]
  clear hw6 k6 f6
  refine hK.out _ _ (holds1 (late_no (by kernel_rfl))) ?_
  clear hK K
  try simp only [Act.put, List.setIfInBounds_toArray, List.set_cons_zero, List.set_cons_succ]
  refine wpAnyT_done (by kernel_rfl) ?_ _
  have hput : ({ n with log := l5 } : Nd) = n.put cmd := by rw [← HL5.out]; rfl
  rw [hput] at HDD
  have hl6 : l5 = (n.put cmd).log := by rw [← HL5.out]; rfl
  have D6 := HDD.out.1
  have K6 := Lib.hid (K3.out.trans HDD.out.2)
  obtain ⟨np, hnp⟩ : ∃ x, n.put cmd = x := ⟨_, rfl⟩
  rw [hnp] at D6 hl6
  subst hl6
  have hid2 : np.id = n.id := by rw [← hnp]; rfl
  have hb2 : np.base = n.base := by rw [← hnp]; rfl
  have hlen : np.log.length ≤ 1000001 := by rw [← hnp]; show (n.log ++ [(n.term, cmd)]).length ≤ _; rw [List.length_append, List.length_singleton]; have := HL.out; omega
  have HNP := Lib.hid hnp
  have HID2 := Lib.hid (hid2.trans HID.out)
  clear hput hnp hid2 HDD D2 D3 s3
  have LD := D6.node
  have LC := last_any np A5 c5 w6 (Has.own_w D6.log) (by omega) (by rw [hb2]; exact HN.out.base)
  simp only [Nd.val] at LD LC
  have LDH := Lib.hid LD
  have LCH := Lib.hid LC
  clear LD LC hb2 hlen
  go_wp2_with (refine wpList_load_at rfl 37 (Operand.tmp 28) rfl _ _ LDH.out rfl ?_)
  refine LCH.out.mono ?_
  rintro _ w7 ⟨rfl, g7⟩
  have D7 := D6.grow g7
  have K7 := Lib.hid (K6.out.trans (D6.kept g7))
  clear D6 K6 g7 LDH LCH
  go_upto_region 3 with fail
  have D8 := D7.drew
  have K8 := Lib.hid (K7.out.trans (D7.kept (only_drew (only_refl w7 none))))
  obtain ⟨w8, hw8⟩ : ∃ w8, w7.drew = w8 := ⟨_, rfl⟩
  rw [hw8] at D8 K8
  have HW8 := Lib.hid hw8
  clear hw8 D7 K7
  have i0 : w8.cell? ⟨g, 0, none⟩ = some (.int .i64 (k : Int)) := by rw [← HID2.out]; exact D8.all.1
  have qk := D8.cellm k HK3.out
  have fk := D8.fr (16 + k)
  have t0 : (0 : Int) ≤ (k : Int) := by omega
  have t1 : (k : Int) < 3 := by have := HK3.out; omega
  refine wp_region_late [(11, fun V => V.cell? ⟨g, 0, none⟩ = some (.int .i64 (k : Int)))] (by kernel_rfl) ?_
  refine wpAnyT_pure (i := 0) (oi := { dst := some 33, op := Op.move (Operand.tmp 0), type := 83, pos := "draft.go:105", after := #[], guard := none }) (v := ?_) rfl (by kernel_rfl) (by kernel_rfl) (by kernel_rfl) (by kernel_rfl) (fun _ _ _ h => h) (Or.inl ⟨by rfl, ?_⟩) (holds1 (fun _ => (by rw [HW8.out]; exact i0))) ?_
  rotate_left
  · (intro W; go_simp; try with_reducible rfl)
  try simp only [Act.put, List.setIfInBounds_toArray, List.set_cons_zero, List.set_cons_succ]
  refine wpAnyT_pure (i := 1) (oi := { dst := some 34, op := Op.move (Operand.tmp 0), type := 83, pos := "draft.go:105", after := #[], guard := none }) (v := ?_) rfl (by kernel_rfl) (by kernel_rfl) (by kernel_rfl) (by kernel_rfl) (fun _ _ _ h => h) (Or.inl ⟨by rfl, ?_⟩) (holds1 (fun _ => (by rw [HW8.out]; exact i0))) ?_
  rotate_left
  · (intro W; go_simp; try with_reducible rfl)
  try simp only [Act.put, List.setIfInBounds_toArray, List.set_cons_zero, List.set_cons_succ]
  refine wpAnyT_pure (i := 2) (oi := { dst := some 35, op := Op.nilCheck (Operand.tmp 34), type := 0, pos := "draft.go:105", after := #[{ on := 1, ground := Ground.data }], guard := none }) (v := ?_) rfl (by kernel_rfl) (by kernel_rfl) (by kernel_rfl) (by kernel_rfl) (fun _ _ _ h => h) (Or.inl ⟨by rfl, ?_⟩) (holds1 (fun _ => (by rw [HW8.out]; exact i0))) ?_
  rotate_left
  · (intro W; go_simp; try with_reducible rfl)
  try simp only [Act.put, List.setIfInBounds_toArray, List.set_cons_zero, List.set_cons_succ]
  refine wpAnyT_pure (i := 3) (oi := { dst := some 36, op := Op.fieldAddr 87 (Operand.tmp 35) 0, type := 0, pos := "draft.go:105", after := #[{ on := 2, ground := Ground.data }], guard := none }) (v := ?_) rfl (by kernel_rfl) (by kernel_rfl) (by kernel_rfl) (by kernel_rfl) (fun _ _ _ h => h) (Or.inl ⟨by rfl, ?_⟩) (holds1 (fun _ => (by rw [HW8.out]; exact i0))) ?_
  rotate_left
  · (intro W; go_simp; try with_reducible rfl)
  try simp only [Act.put, List.setIfInBounds_toArray, List.set_cons_zero, List.set_cons_succ]
  refine wpAnyT_pure (i := 4) (oi := { dst := some 37, op := Op.fieldAddr 37 (Operand.tmp 36) 0, type := 0, pos := "draft.go:105", after := #[{ on := 3, ground := Ground.data }], guard := none }) (v := ?_) rfl (by kernel_rfl) (by kernel_rfl) (by kernel_rfl) (by kernel_rfl) (fun _ _ _ h => h) (Or.inl ⟨by rfl, ?_⟩) (holds1 (fun _ => (by rw [HW8.out]; exact i0))) ?_
  rotate_left
  · (intro W; go_simp; try with_reducible rfl)
  try simp only [Act.put, List.setIfInBounds_toArray, List.set_cons_zero, List.set_cons_succ]
  refine wpAnyT_take 5 11 (i := 5) (oi := { dst := some 38, op := Op.load 3 (Operand.tmp 37), type := 3, pos := "draft.go:105", after := #[{ on := 4, ground := Ground.data }], guard := none }) (v := ?_) (.head _) rfl (by kernel_rfl) (by kernel_rfl) (by kernel_rfl) (by kernel_rfl) (by kernel_rfl) (by kernel_rfl) (by rfl) (fun _ _ _ h => h) (by rfl) ?_ (holds1 (fun _ => (by rw [HW8.out]; exact i0))) ?_
  rotate_left
  · (intro W hSw; (try dsimp only at hSw); go_simp; try with_reducible rfl)
  try simp only [Act.put, List.setIfInBounds_toArray, List.set_cons_zero, List.set_cons_succ]
  refine wpAnyT_pure (i := 6) (oi := { dst := some 39, op := Op.move (Operand.tmp 5), type := 3, pos := "draft.go:105", after := #[], guard := none }) (v := ?_) rfl (by kernel_rfl) (by kernel_rfl) (by kernel_rfl) (by kernel_rfl) (fun _ _ _ h => h) (Or.inl ⟨by rfl, ?_⟩) (holds1 (fun _ => (by rw [HW8.out]; exact i0))) ?_
  rotate_left
  · (intro W; go_simp; try with_reducible rfl)
  try simp only [Act.put, List.setIfInBounds_toArray, List.set_cons_zero, List.set_cons_succ]
  refine wpAnyT_pure (i := 7) (oi := { dst := some 40, op := Op.nilCheck (Operand.tmp 33), type := 0, pos := "draft.go:105", after := #[{ on := 0, ground := Ground.data }], guard := none }) (v := ?_) rfl (by kernel_rfl) (by kernel_rfl) (by kernel_rfl) (by kernel_rfl) (fun _ _ _ h => h) (Or.inl ⟨by rfl, ?_⟩) (holds1 (fun _ => (by rw [HW8.out]; exact i0))) ?_
  rotate_left
  · (intro W; go_simp; try with_reducible rfl)
  try simp only [Act.put, List.setIfInBounds_toArray, List.set_cons_zero, List.set_cons_succ]
  refine wpAnyT_pure (i := 8) (oi := { dst := some 41, op := Op.fieldAddr 87 (Operand.tmp 40) 0, type := 0, pos := "draft.go:105", after := #[{ on := 7, ground := Ground.data }], guard := none }) (v := ?_) rfl (by kernel_rfl) (by kernel_rfl) (by kernel_rfl) (by kernel_rfl) (fun _ _ _ h => h) (Or.inl ⟨by rfl, ?_⟩) (holds1 (fun _ => (by rw [HW8.out]; exact i0))) ?_
  rotate_left
  · (intro W; go_simp; try with_reducible rfl)
  try simp only [Act.put, List.setIfInBounds_toArray, List.set_cons_zero, List.set_cons_succ]
  refine wpAnyT_pure (i := 9) (oi := { dst := some 42, op := Op.fieldAddr 37 (Operand.tmp 41) 12, type := 0, pos := "draft.go:105", after := #[{ on := 8, ground := Ground.data }], guard := none }) (v := ?_) rfl (by kernel_rfl) (by kernel_rfl) (by kernel_rfl) (by kernel_rfl) (fun _ _ _ h => h) (Or.inl ⟨by rfl, ?_⟩) (holds1 (fun _ => (by rw [HW8.out]; exact i0))) ?_
  rotate_left
  · (intro W; go_simp; try with_reducible rfl)
  try simp only [Act.put, List.setIfInBounds_toArray, List.set_cons_zero, List.set_cons_succ]
  refine wpAnyT_pure (i := 10) (oi := { dst := some 43, op := Op.indexAddr 35 (Operand.tmp 42) (Operand.tmp 38), type := 0, pos := "draft.go:105", after := #[{ on := 9, ground := Ground.data }, { on := 5, ground := Ground.data }, { on := 0, ground := Ground.phase }, { on := 1, ground := Ground.phase }, { on := 2, ground := Ground.phase }, { on := 3, ground := Ground.phase }, { on := 4, ground := Ground.phase }, { on := 5, ground := Ground.phase }, { on := 6, ground := Ground.phase }], guard := none }) (v := ?_) rfl (by kernel_rfl) (by kernel_rfl) (by kernel_rfl) (by kernel_rfl) (fun _ _ _ h => h) (Or.inl ⟨by rfl, ?_⟩) (holds1 (fun _ => (by rw [HW8.out]; exact i0))) ?_
  rotate_left
  · (intro W; go_simp; try with_reducible rfl)
  try simp only [Act.put, List.setIfInBounds_toArray, List.set_cons_zero, List.set_cons_succ]
  rw [HW8.out]
  refine wpAnyT_ready (rs := [11]) (by kernel_rfl) (by simp) (AllT.cons (o := { dst := none, op := Op.store 3 (Operand.tmp 43) (Operand.tmp 39), type := 0, pos := "draft.go:105", after := #[{ on := 10, ground := Ground.data }, { on := 6, ground := Ground.data }, { on := 0, ground := Ground.phase }, { on := 1, ground := Ground.phase }, { on := 2, ground := Ground.phase }, { on := 3, ground := Ground.phase }, { on := 4, ground := Ground.phase }, { on := 5, ground := Ground.phase }, { on := 6, ground := Ground.phase }], guard := none }) rfl (fun K hK => ?_) AllT.nil)
  go_simp
  obtain ⟨w9, hw9⟩ : ∃ Z, w8.setCell ⟨g, 16 + k, none⟩ (.int .i64 np.li) = Z := ⟨_, rfl⟩
  have s9 := D8.setm k HK3.out np.li
  rw [hw9] at s9
  rw [hw9]
  have HS9 := Lib.hid s9
  clear hw9 s9 qk fk i0
  refine hK.out _ _ (holds1 (late_no (by kernel_rfl))) ?_
  clear hK K
  try simp only [Act.put, List.setIfInBounds_toArray, List.set_cons_zero, List.set_cons_succ]
  refine wpAnyT_done (by kernel_rfl) ?_ _
  go_wp2_with fail
  go_ret
  refine ⟨by rw [HNP.out]; rfl, ?_, K8.out.trans HS9.out.2⟩
  have e : n.grown k cmd = np.mset k np.li := by unfold Nd.grown; rw [HNP.out]
  rw [e]
  exact ⟨_, _, HS9.out.1⟩
end Go.Proofs.Ytjhnipnocjoelaa
