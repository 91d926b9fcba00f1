/- (*draft).campaign. Conditions: a node's number is one of three, its term below 2^30. -/
import Derived.Test.YtjhnipnocjoelaaNk
namespace Go.Proofs.Ytjhnipnocjoelaa
open Go.RowKit Go.Deep
def Nd.camp (n : Nd) : Nd := { n with role := 1, vote := n.id, wait := 0, term := n.term + 1, v0 := n.id == 0, v1 := n.id == 1, v2 := n.id == 2 }
def Nd.vset (n : Nd) (k : Nat) : Nd := match k with | 0 => { n with v0 := true } | 1 => { n with v1 := true } | _ => { n with v2 := true }
theorem DrV.setv {w : World} {P : Nat → Prop} {g : Nat} {n : Nd} {L M : Value} {S : List Mg} (h : DrV w P g n L S M) (k : Nat) (hk : k < 3) : DrV (w.setCell ⟨g, 10 + k, none⟩ (.bool true)) P g (n.vset k) L S M ∧ Kept P w (w.setCell ⟨g, 10 + k, none⟩ (.bool true)) := by
  match k, hk with
  | 0, _ => exact h.set 10 (.bool true) { n with v0 := true } rfl rfl
  | 1, _ => exact h.set 11 (.bool true) { n with v1 := true } rfl rfl
  | 2, _ => exact h.set 12 (.bool true) { n with v2 := true } rfl rfl
theorem DrV.cellv {w : World} {P : Nat → Prop} {g : Nat} {n : Nd} {L M : Value} {S : List Mg} (h : DrV w P g n L S M) (k : Nat) (hk : k < 3) : ∃ b, w.cell? ⟨g, 10 + k, none⟩ = some (.bool b) := by
  match k, hk with
  | 0, _ => exact ⟨_, h.cell 10 _ rfl⟩
  | 1, _ => exact ⟨_, h.cell 11 _ rfl⟩
  | 2, _ => exact ⟨_, h.cell 12 _ rfl⟩
def Nd.camped (n : Nd) (k : Nat) : Nd := ({ n with role := 1, vote := n.id, wait := 0, term := n.term + 1, v0 := false, v1 := false, v2 := false } : Nd).vset k
theorem Nd.vset_same (n : Nd) (k : Nat) : (n.vset k).id = n.id ∧ (n.vset k).term = n.term ∧ (n.vset k).log = n.log ∧ (n.vset k).base = n.base ∧ (n.vset k).li = n.li ∧ (n.vset k).lt = n.lt := by
  unfold Nd.vset
  split <;> exact ⟨rfl, rfl, rfl, rfl, rfl, rfl⟩
set_option maxRecDepth 100000 in
set_option maxHeartbeats 8000000 in
theorem camp_core (w : World) (P : Nat → Prop) (g : Nat) (n : Nd) (S : List Mg) (k : Nat) (hid : n.id = k) (hk3 : k < 3) (hD : Dr w P g n S) (hn : n.ok) (ht : 0 ≤ n.term ∧ n.term ≤ 1073741824) (hS : S.length ≤ 1048570) :
    Calls Try.prog 47 #[.pointer (some ⟨g, 0, none⟩)] w fun e w' => e = .returned (.tuple #[]) ∧ ∃ l, Msgs (fun j m => m = Nd.voteM { n with term := n.term + 1 } n.li n.lt j) n.id 3 l ∧ Dr w' P g (n.camped k) (S ++ l) ∧ Kept P w w' := by
  obtain ⟨L, M, hD⟩ := hD
  obtain ⟨A, c, rfl⟩ := own_slice_w hD.log
  obtain ⟨w1, hw1⟩ : ∃ w1, w.alloc (.cells #[.pointer (some ⟨g, 0, none⟩)] 83) = w1 := ⟨_, rfl⟩
  have g1 : w.grownBy w1 none := by subst hw1; exact World.grownBy_alloc w _ none
  have z1 : w.heap.size < w1.heap.size := by subst hw1; simp
  have b1 : w1.cell? ⟨w.heap.size, 0, none⟩ = some (.pointer (some ⟨g, 0, none⟩)) := by subst hw1; exact (cell_of_row _ _ 0 _ _ (0, 0) (heap_alloc_new w _)).trans rfl
  obtain ⟨P', hP'⟩ : ∃ P' : Nat → Prop, P' = fun k => P k ∨ k = w.heap.size := ⟨_, rfl⟩
  have D1 := hD.add g1 w.heap.size (Nat.le_refl _) z1
  rw [← hP'] at D1
  have HK1 := Lib.hid (hD.kept g1)
  have PP := Lib.hid (show ∀ j, P j → P' j from fun j hj => by rw [hP']; exact .inl hj)
  have PB := Lib.hid (show P' w.heap.size by rw [hP']; exact .inr rfl)
  obtain ⟨tb, htb⟩ : ∃ tb, w.heap.size = tb := ⟨_, rfl⟩
  rw [htb] at b1 PB
  have HN := Lib.hid hn
  have HT := Lib.hid ht
  have HS := Lib.hid hS
  have HID := Lib.hid hid
  have HK3 := Lib.hid hk3
  clear hD g1 z1 hP' hn ht hS hid hk3
  go_enter Try.func47, Try.ntmps47
  go_upto_region 1 with fail
  clear hw1
  try rw [htb]
  clear htb
  have D2 := D1.drew
  have K2 := Lib.hid (D1.kept (only_drew (only_refl w1 none)))
  have b2 : w1.drew.cell? ⟨tb, 0, none⟩ = some (.pointer (some ⟨g, 0, none⟩)) := b1
  clear D1 b1
  obtain ⟨w2, hw2⟩ : ∃ w2, w1.drew = w2 := ⟨_, rfl⟩
  rw [hw2] at D2 b2 K2
  have HW2 := Lib.hid hw2
  clear hw2
  have i0 := D2.all.1
  have q7 := D2.cell 7 _ rfl
  have f7 := D2.fr 7
  have K2x := Lib.hid (Kept.refl P' w2)
  refine wp_region_late [(19, fun V => V.cell? ⟨tb, 0, none⟩ = some (.pointer (some ⟨g, 0, none⟩)) ∧ V.cell? ⟨g, 0, none⟩ = some (.int .i64 n.id))] (by kernel_rfl) ?_
  refine wpAnyT_take 5 19 (i := 0) (oi := { dst := some 4, op := Op.load 83 (Operand.tmp 1), type := 83, pos := "draft.go:63", after := #[], guard := none }) (v := ?_) (.head _) rfl (by kernel_rfl) (by kernel_rfl) (by kernel_rfl) (by kernel_rfl) (by kernel_rfl) (by kernel_rfl) (by rfl) (fun _ _ _ h => h) (by rfl) ?_ (holds1 (fun _ => ⟨by rw [HW2.out]; exact b2, by rw [HW2.out]; exact i0⟩)) ?_
  rotate_left
  · (intro W hSw; (try dsimp only at hSw); go_simp; try with_reducible rfl)
  try simp only [Act.put, List.setIfInBounds_toArray, List.set_cons_zero, List.set_cons_succ]
  refine wpAnyT_take 5 19 (i := 1) (oi := { dst := some 5, op := Op.load 83 (Operand.tmp 1), type := 83, pos := "draft.go:63", after := #[{ on := 11, ground := Ground.gcOnly Departure.lateStores }], guard := none }) (v := ?_) (.head _) rfl (by kernel_rfl) (by kernel_rfl) (by kernel_rfl) (by kernel_rfl) (by kernel_rfl) (by kernel_rfl) (by rfl) (fun _ _ _ h => h) (by rfl) ?_ (holds1 (fun _ => ⟨by rw [HW2.out]; exact b2, by rw [HW2.out]; exact i0⟩)) ?_
  rotate_left
  · (intro W hSw; (try dsimp only at hSw); go_simp; try with_reducible rfl)
  try simp only [Act.put, List.setIfInBounds_toArray, List.set_cons_zero, List.set_cons_succ]
  refine wpAnyT_take 5 19 (i := 2) (oi := { dst := some 6, op := Op.load 83 (Operand.tmp 1), type := 83, pos := "draft.go:63", after := #[{ on := 15, ground := Ground.gcOnly Departure.lateStores }], guard := none }) (v := ?_) (.head _) rfl (by kernel_rfl) (by kernel_rfl) (by kernel_rfl) (by kernel_rfl) (by kernel_rfl) (by kernel_rfl) (by rfl) (fun _ _ _ h => h) (by rfl) ?_ (holds1 (fun _ => ⟨by rw [HW2.out]; exact b2, by rw [HW2.out]; exact i0⟩)) ?_
  rotate_left
  · (intro W hSw; (try dsimp only at hSw); go_simp; try with_reducible rfl)
  try simp only [Act.put, List.setIfInBounds_toArray, List.set_cons_zero, List.set_cons_succ]
  refine wpAnyT_take 5 19 (i := 3) (oi := { dst := some 7, op := Op.load 83 (Operand.tmp 1), type := 83, pos := "draft.go:63", after := #[], guard := none }) (v := ?_) (.head _) rfl (by kernel_rfl) (by kernel_rfl) (by kernel_rfl) (by kernel_rfl) (by kernel_rfl) (by kernel_rfl) (by rfl) (fun _ _ _ h => h) (by rfl) ?_ (holds1 (fun _ => ⟨by rw [HW2.out]; exact b2, by rw [HW2.out]; exact i0⟩)) ?_
  rotate_left
  · (intro W hSw; (try dsimp only at hSw); go_simp; try with_reducible rfl)
  try simp only [Act.put, List.setIfInBounds_toArray, List.set_cons_zero, List.set_cons_succ]
  refine wpAnyT_pure (i := 4) (oi := { dst := some 8, op := Op.nilCheck (Operand.tmp 7), type := 0, pos := "draft.go:63", after := #[{ on := 3, ground := Ground.data }], guard := none }) (v := ?_) rfl (by kernel_rfl) (by kernel_rfl) (by kernel_rfl) (by kernel_rfl) (fun _ _ _ h => h) (Or.inl ⟨by rfl, ?_⟩) (holds1 (fun _ => ⟨by rw [HW2.out]; exact b2, by rw [HW2.out]; exact i0⟩)) ?_
  rotate_left
  · (intro W; go_simp; try with_reducible rfl)
  try simp only [Act.put, List.setIfInBounds_toArray, List.set_cons_zero, List.set_cons_succ]
  refine wpAnyT_pure (i := 5) (oi := { dst := some 9, op := Op.fieldAddr 87 (Operand.tmp 8) 0, type := 0, pos := "draft.go:63", after := #[{ on := 4, ground := Ground.data }], guard := none }) (v := ?_) rfl (by kernel_rfl) (by kernel_rfl) (by kernel_rfl) (by kernel_rfl) (fun _ _ _ h => h) (Or.inl ⟨by rfl, ?_⟩) (holds1 (fun _ => ⟨by rw [HW2.out]; exact b2, by rw [HW2.out]; exact i0⟩)) ?_
  rotate_left
  · (intro W; go_simp; try with_reducible rfl)
  try simp only [Act.put, List.setIfInBounds_toArray, List.set_cons_zero, List.set_cons_succ]
  refine wpAnyT_pure (i := 6) (oi := { dst := some 10, op := Op.fieldAddr 37 (Operand.tmp 9) 0, type := 0, pos := "draft.go:63", after := #[{ on := 5, ground := Ground.data }], guard := none }) (v := ?_) rfl (by kernel_rfl) (by kernel_rfl) (by kernel_rfl) (by kernel_rfl) (fun _ _ _ h => h) (Or.inl ⟨by rfl, ?_⟩) (holds1 (fun _ => ⟨by rw [HW2.out]; exact b2, by rw [HW2.out]; exact i0⟩)) ?_
  rotate_left
  · (intro W; go_simp; try with_reducible rfl)
  try simp only [Act.put, List.setIfInBounds_toArray, List.set_cons_zero, List.set_cons_succ]
  refine wpAnyT_take 5 19 (i := 7) (oi := { dst := some 11, op := Op.load 3 (Operand.tmp 10), type := 3, pos := "draft.go:63", after := #[{ on := 6, ground := Ground.data }], guard := none }) (v := ?_) (.head _) rfl (by kernel_rfl) (by kernel_rfl) (by kernel_rfl) (by kernel_rfl) (by kernel_rfl) (by kernel_rfl) (by rfl) (fun _ _ _ h => h) (by rfl) ?_ (holds1 (fun _ => ⟨by rw [HW2.out]; exact b2, by rw [HW2.out]; exact i0⟩)) ?_
  rotate_left
  · (intro W hSw; (try dsimp only at hSw); go_simp; try with_reducible rfl)
  try simp only [Act.put, List.setIfInBounds_toArray, List.set_cons_zero, List.set_cons_succ]
  refine wpAnyT_pure (i := 8) (oi := { dst := some 12, op := Op.nilCheck (Operand.tmp 4), type := 0, pos := "draft.go:63", after := #[{ on := 0, ground := Ground.data }, { on := 0, ground := Ground.phase }, { on := 1, ground := Ground.textOnly Departure.lateStores }, { on := 2, ground := Ground.textOnly Departure.lateStores }, { on := 3, ground := Ground.textOnly Departure.lateStores }, { on := 4, ground := Ground.textOnly Departure.lateStoresUnsure }, { on := 5, ground := Ground.textOnly Departure.lateStoresUnsure }, { on := 6, ground := Ground.textOnly Departure.lateStoresUnsure }, { on := 7, ground := Ground.phase }], guard := none }) (v := ?_) rfl (by kernel_rfl) (by kernel_rfl) (by kernel_rfl) (by kernel_rfl) (fun _ _ _ h => h) (Or.inl ⟨by rfl, ?_⟩) (holds1 (fun _ => ⟨by rw [HW2.out]; exact b2, by rw [HW2.out]; exact i0⟩)) ?_
  rotate_left
  · (intro W; go_simp; try with_reducible rfl)
  try simp only [Act.put, List.setIfInBounds_toArray, List.set_cons_zero, List.set_cons_succ]
  refine wpAnyT_pure (i := 9) (oi := { dst := some 13, op := Op.fieldAddr 87 (Operand.tmp 12) 0, type := 0, pos := "draft.go:63", after := #[{ on := 8, ground := Ground.data }, { on := 0, ground := Ground.phase }, { on := 1, ground := Ground.textOnly Departure.lateStores }, { on := 2, ground := Ground.textOnly Departure.lateStores }, { on := 3, ground := Ground.textOnly Departure.lateStores }, { on := 4, ground := Ground.textOnly Departure.lateStoresUnsure }, { on := 5, ground := Ground.textOnly Departure.lateStoresUnsure }, { on := 6, ground := Ground.textOnly Departure.lateStoresUnsure }, { on := 7, ground := Ground.phase }], guard := none }) (v := ?_) rfl (by kernel_rfl) (by kernel_rfl) (by kernel_rfl) (by kernel_rfl) (fun _ _ _ h => h) (Or.inl ⟨by rfl, ?_⟩) (holds1 (fun _ => ⟨by rw [HW2.out]; exact b2, by rw [HW2.out]; exact i0⟩)) ?_
  rotate_left
  · (intro W; go_simp; try with_reducible rfl)
  try simp only [Act.put, List.setIfInBounds_toArray, List.set_cons_zero, List.set_cons_succ]
  refine wpAnyT_pure (i := 10) (oi := { dst := some 14, op := Op.fieldAddr 37 (Operand.tmp 13) 7, type := 0, pos := "draft.go:63", after := #[{ on := 9, ground := Ground.data }, { on := 0, ground := Ground.phase }, { on := 1, ground := Ground.textOnly Departure.lateStores }, { on := 2, ground := Ground.textOnly Departure.lateStores }, { on := 3, ground := Ground.textOnly Departure.lateStores }, { on := 4, ground := Ground.textOnly Departure.lateStoresUnsure }, { on := 5, ground := Ground.textOnly Departure.lateStoresUnsure }, { on := 6, ground := Ground.textOnly Departure.lateStoresUnsure }, { on := 7, ground := Ground.phase }], guard := none }) (v := ?_) rfl (by kernel_rfl) (by kernel_rfl) (by kernel_rfl) (by kernel_rfl) (fun _ _ _ h => h) (Or.inl ⟨by rfl, ?_⟩) (holds1 (fun _ => ⟨by rw [HW2.out]; exact b2, by rw [HW2.out]; exact i0⟩)) ?_
  rotate_left
  · (intro W; go_simp; try with_reducible rfl)
  try simp only [Act.put, List.setIfInBounds_toArray, List.set_cons_zero, List.set_cons_succ]
  rw [HW2.out]
  refine wpAnyT_ready (rs := [11]) (by kernel_rfl) (by simp) (AllT.cons (o := { dst := none, op := Op.store 3 (Operand.tmp 14) (Operand.const (Value.int IntKind.i64 1)), type := 0, pos := "draft.go:63", after := #[{ on := 10, ground := Ground.data }, { on := 0, ground := Ground.phase }, { on := 1, ground := Ground.textOnly Departure.lateStores }, { on := 2, ground := Ground.textOnly Departure.lateStores }, { on := 3, ground := Ground.textOnly Departure.lateStores }, { on := 4, ground := Ground.textOnly Departure.lateStoresUnsure }, { on := 5, ground := Ground.textOnly Departure.lateStoresUnsure }, { on := 6, ground := Ground.textOnly Departure.lateStoresUnsure }, { on := 7, ground := Ground.phase }], guard := none }) rfl (fun K hK => ?_) AllT.nil)
  go_simp
  obtain ⟨wa, hwa⟩ : ∃ Z, w2.setCell ⟨g, 7, none⟩ (.int .i64 1) = Z := ⟨_, rfl⟩
  have swa := D2.set 7 (.int .i64 1) { n with role := 1 } rfl rfl
  rw [hwa] at swa
  have Da := swa.1
  have Ka := Lib.hid (K2x.out.trans swa.2)
  rw [hwa]
  clear hwa swa
  have ba := (World.cell?_of_block (a := ⟨tb, 0, none⟩) (Ka.out.blk tb PB.out)).trans b2
  have ia := Da.all.1
  have q2 := Da.cell 2 _ rfl
  have f2 := Da.fr 2
  clear q7 f7
  refine hK.out _ _ (holds1 (fun _ => ⟨ba, ia⟩)) ?_
  clear hK K
  try simp only [Act.put, List.setIfInBounds_toArray, List.set_cons_zero, List.set_cons_succ]
  refine wpAnyT_pure (i := 12) (oi := { dst := some 15, op := Op.nilCheck (Operand.tmp 5), type := 0, pos := "draft.go:63", after := #[{ on := 1, ground := Ground.data }, { on := 0, ground := Ground.phase }, { on := 1, ground := Ground.phase }, { on := 2, ground := Ground.textOnly Departure.lateStores }, { on := 3, ground := Ground.phase }, { on := 4, ground := Ground.phase }, { on := 5, ground := Ground.phase }, { on := 6, ground := Ground.phase }, { on := 7, ground := Ground.phase }, { on := 8, ground := Ground.phase }, { on := 9, ground := Ground.phase }, { on := 10, ground := Ground.phase }, { on := 11, ground := Ground.phase }], guard := none }) (v := ?_) rfl (by kernel_rfl) (by kernel_rfl) (by kernel_rfl) (by kernel_rfl) (fun _ _ _ h => h) (Or.inl ⟨by rfl, ?_⟩) (holds1 (fun _ => ⟨ba, ia⟩)) ?_
  rotate_left
  · (intro W; go_simp; try with_reducible rfl)
  try simp only [Act.put, List.setIfInBounds_toArray, List.set_cons_zero, List.set_cons_succ]
  refine wpAnyT_pure (i := 13) (oi := { dst := some 16, op := Op.fieldAddr 87 (Operand.tmp 15) 0, type := 0, pos := "draft.go:63", after := #[{ on := 12, ground := Ground.data }, { on := 0, ground := Ground.phase }, { on := 1, ground := Ground.phase }, { on := 2, ground := Ground.textOnly Departure.lateStores }, { on := 3, ground := Ground.phase }, { on := 4, ground := Ground.phase }, { on := 5, ground := Ground.phase }, { on := 6, ground := Ground.phase }, { on := 7, ground := Ground.phase }, { on := 8, ground := Ground.phase }, { on := 9, ground := Ground.phase }, { on := 10, ground := Ground.phase }, { on := 11, ground := Ground.phase }], guard := none }) (v := ?_) rfl (by kernel_rfl) (by kernel_rfl) (by kernel_rfl) (by kernel_rfl) (fun _ _ _ h => h) (Or.inl ⟨by rfl, ?_⟩) (holds1 (fun _ => ⟨ba, ia⟩)) ?_
  rotate_left
  · (intro W; go_simp; try with_reducible rfl)
  try simp only [Act.put, List.setIfInBounds_toArray, List.set_cons_zero, List.set_cons_succ]
  refine wpAnyT_pure (i := 14) (oi := { dst := some 17, op := Op.fieldAddr 37 (Operand.tmp 16) 2, type := 0, pos := "draft.go:63", after := #[{ on := 13, ground := Ground.data }, { on := 0, ground := Ground.phase }, { on := 1, ground := Ground.phase }, { on := 2, ground := Ground.textOnly Departure.lateStores }, { on := 3, ground := Ground.phase }, { on := 4, ground := Ground.phase }, { on := 5, ground := Ground.phase }, { on := 6, ground := Ground.phase }, { on := 7, ground := Ground.phase }, { on := 8, ground := Ground.phase }, { on := 9, ground := Ground.phase }, { on := 10, ground := Ground.phase }, { on := 11, ground := Ground.phase }], guard := none }) (v := ?_) rfl (by kernel_rfl) (by kernel_rfl) (by kernel_rfl) (by kernel_rfl) (fun _ _ _ h => h) (Or.inl ⟨by rfl, ?_⟩) (holds1 (fun _ => ⟨ba, ia⟩)) ?_
  rotate_left
  · (intro W; go_simp; try with_reducible rfl)
  try simp only [Act.put, List.setIfInBounds_toArray, List.set_cons_zero, List.set_cons_succ]
  refine wpAnyT_ready (rs := [15]) (by kernel_rfl) (by simp) (AllT.cons (o := { dst := none, op := Op.store 3 (Operand.tmp 17) (Operand.tmp 11), type := 0, pos := "draft.go:63", after := #[{ on := 14, ground := Ground.data }, { on := 7, ground := Ground.data }, { on := 11, ground := Ground.chain }, { on := 0, ground := Ground.phase }, { on := 1, ground := Ground.phase }, { on := 2, ground := Ground.textOnly Departure.lateStores }, { on := 3, ground := Ground.phase }, { on := 4, ground := Ground.phase }, { on := 5, ground := Ground.phase }, { on := 6, ground := Ground.phase }, { on := 7, ground := Ground.phase }, { on := 8, ground := Ground.phase }, { on := 9, ground := Ground.phase }, { on := 10, ground := Ground.phase }, { on := 11, ground := Ground.phase }], guard := none }) rfl (fun K hK => ?_) AllT.nil)
  go_simp
  obtain ⟨wb, hwb⟩ : ∃ Z, wa.setCell ⟨g, 2, none⟩ (.int .i64 n.id) = Z := ⟨_, rfl⟩
  have swb := Da.set 2 (.int .i64 n.id) { n with role := 1, vote := n.id } rfl rfl
  rw [hwb] at swb
  have Db := swb.1
  have Kb := Lib.hid (Ka.out.trans swb.2)
  rw [hwb]
  clear hwb swb
  have bb := (World.cell?_of_block (a := ⟨tb, 0, none⟩) (Kb.out.blk tb PB.out)).trans b2
  have ib := Db.all.1
  have q9 := Db.cell 9 _ rfl
  have f9 := Db.fr 9
  clear q2 f2
  refine hK.out _ _ (holds1 (fun _ => ⟨bb, ib⟩)) ?_
  clear hK K
  try simp only [Act.put, List.setIfInBounds_toArray, List.set_cons_zero, List.set_cons_succ]
  refine wpAnyT_pure (i := 16) (oi := { dst := some 18, op := Op.nilCheck (Operand.tmp 6), type := 0, pos := "draft.go:63", after := #[{ on := 2, ground := Ground.data }, { on := 0, ground := Ground.phase }, { on := 1, ground := Ground.phase }, { on := 2, ground := Ground.phase }, { on := 3, ground := Ground.phase }, { on := 4, ground := Ground.phase }, { on := 5, ground := Ground.phase }, { on := 6, ground := Ground.phase }, { on := 7, ground := Ground.phase }, { on := 8, ground := Ground.phase }, { on := 9, ground := Ground.phase }, { on := 10, ground := Ground.phase }, { on := 11, ground := Ground.phase }, { on := 12, ground := Ground.phase }, { on := 13, ground := Ground.phase }, { on := 14, ground := Ground.phase }, { on := 15, ground := Ground.phase }], guard := none }) (v := ?_) rfl (by kernel_rfl) (by kernel_rfl) (by kernel_rfl) (by kernel_rfl) (fun _ _ _ h => h) (Or.inl ⟨by rfl, ?_⟩) (holds1 (fun _ => ⟨bb, ib⟩)) ?_
  rotate_left
  · (intro W; go_simp; try with_reducible rfl)
  try simp only [Act.put, List.setIfInBounds_toArray, List.set_cons_zero, List.set_cons_succ]
  refine wpAnyT_pure (i := 17) (oi := { dst := some 19, op := Op.fieldAddr 87 (Operand.tmp 18) 0, type := 0, pos := "draft.go:63", after := #[{ on := 16, ground := Ground.data }, { on := 0, ground := Ground.phase }, { on := 1, ground := Ground.phase }, { on := 2, ground := Ground.phase }, { on := 3, ground := Ground.phase }, { on := 4, ground := Ground.phase }, { on := 5, ground := Ground.phase }, { on := 6, ground := Ground.phase }, { on := 7, ground := Ground.phase }, { on := 8, ground := Ground.phase }, { on := 9, ground := Ground.phase }, { on := 10, ground := Ground.phase }, { on := 11, ground := Ground.phase }, { on := 12, ground := Ground.phase }, { on := 13, ground := Ground.phase }, { on := 14, ground := Ground.phase }, { on := 15, ground := Ground.phase }], guard := none }) (v := ?_) rfl (by kernel_rfl) (by kernel_rfl) (by kernel_rfl) (by kernel_rfl) (fun _ _ _ h => h) (Or.inl ⟨by rfl, ?_⟩) (holds1 (fun _ => ⟨bb, ib⟩)) ?_
  rotate_left
  · (intro W; go_simp; try with_reducible rfl)
  try simp only [Act.put, List.setIfInBounds_toArray, List.set_cons_zero, List.set_cons_succ]
  refine wpAnyT_pure (i := 18) (oi := { dst := some 20, op := Op.fieldAddr 37 (Operand.tmp 19) 9, type := 0, pos := "draft.go:63", after := #[{ on := 17, ground := Ground.data }, { on := 0, ground := Ground.phase }, { on := 1, ground := Ground.phase }, { on := 2, ground := Ground.phase }, { on := 3, ground := Ground.phase }, { on := 4, ground := Ground.phase }, { on := 5, ground := Ground.phase }, { on := 6, ground := Ground.phase }, { on := 7, ground := Ground.phase }, { on := 8, ground := Ground.phase }, { on := 9, ground := Ground.phase }, { on := 10, ground := Ground.phase }, { on := 11, ground := Ground.phase }, { on := 12, ground := Ground.phase }, { on := 13, ground := Ground.phase }, { on := 14, ground := Ground.phase }, { on := 15, ground := Ground.phase }], guard := none }) (v := ?_) rfl (by kernel_rfl) (by kernel_rfl) (by kernel_rfl) (by kernel_rfl) (fun _ _ _ h => h) (Or.inl ⟨by rfl, ?_⟩) (holds1 (fun _ => ⟨bb, ib⟩)) ?_
  rotate_left
  · (intro W; go_simp; try with_reducible rfl)
  try simp only [Act.put, List.setIfInBounds_toArray, List.set_cons_zero, List.set_cons_succ]
  refine wpAnyT_ready (rs := [19]) (by kernel_rfl) (by simp) (AllT.cons (o := { dst := none, op := Op.store 3 (Operand.tmp 20) (Operand.const (Value.int IntKind.i64 0)), type := 0, pos := "draft.go:63", after := #[{ on := 18, ground := Ground.data }, { on := 15, ground := Ground.chain }, { on := 0, ground := Ground.phase }, { on := 1, ground := Ground.phase }, { on := 2, ground := Ground.phase }, { on := 3, ground := Ground.phase }, { on := 4, ground := Ground.phase }, { on := 5, ground := Ground.phase }, { on := 6, ground := Ground.phase }, { on := 7, ground := Ground.phase }, { on := 8, ground := Ground.phase }, { on := 9, ground := Ground.phase }, { on := 10, ground := Ground.phase }, { on := 11, ground := Ground.phase }, { on := 12, ground := Ground.phase }, { on := 13, ground := Ground.phase }, { on := 14, ground := Ground.phase }, { on := 15, ground := Ground.phase }], guard := none }) rfl (fun K hK => ?_) AllT.nil)
  go_simp
  obtain ⟨wc, hwc⟩ : ∃ Z, wb.setCell ⟨g, 9, none⟩ (.int .i64 0) = Z := ⟨_, rfl⟩
  have swc := Db.set 9 (.int .i64 0) { n with role := 1, vote := n.id, wait := 0 } rfl rfl
  rw [hwc] at swc
  have Dc := swc.1
  have Kc := Lib.hid (Kb.out.trans swc.2)
  rw [hwc]
  clear hwc swc
  have bc := (World.cell?_of_block (a := ⟨tb, 0, none⟩) (Kc.out.blk tb PB.out)).trans b2
  clear q9 f9
  refine hK.out _ _ (holds1 (late_no (by kernel_rfl))) ?_
  clear hK K
  try simp only [Act.put, List.setIfInBounds_toArray, List.set_cons_zero, List.set_cons_succ]
  refine wpAnyT_done (by kernel_rfl) ?_ _
  clear ia ib ba bb i0 Da Db Ka Kb D2
  have i1 : wc.cell? ⟨g, 1, none⟩ = some (.int .i64 n.term) := Dc.cell 1 _ rfl
  have f1 := Dc.fr 1
  have ht0 := HT.out.1
  have ht1 := HT.out.2
  go_upto_region 3 with fail
  obtain ⟨wd, hwd⟩ : ∃ Z, wc.setCell ⟨g, 1, none⟩ (.int .i64 (n.term + 1)) = Z := ⟨_, rfl⟩
  have swd := Dc.set 1 (.int .i64 (n.term + 1)) { n with role := 1, vote := n.id, wait := 0, term := n.term + 1 } rfl rfl
  rw [hwd] at swd
  have Dd := swd.1
  have Kd := Lib.hid (Kc.out.trans swd.2)
  rw [hwd]
  clear hwd swd
  have bd := (World.cell?_of_block (a := ⟨tb, 0, none⟩) (Kd.out.blk tb PB.out)).trans b2
  clear i1 f1 bc Dc Kc
  have q10 : wd.cell? ⟨g, 10, none⟩ = some (.bool n.v0) := Dd.cell 10 _ rfl
  have q11 : wd.cell? ⟨g, 11, none⟩ = some (.bool n.v1) := Dd.cell 11 _ rfl
  have q12 : wd.cell? ⟨g, 12, none⟩ = some (.bool n.v2) := Dd.cell 12 _ rfl
  have f10 := Dd.fr 10
  have f11 := Dd.fr 11
  have f12 := Dd.fr 12
  go_upto_region 4 with fail
  obtain ⟨we, hwe⟩ : ∃ Z, wd.setCell ⟨g, 10, none⟩ (.bool false) = Z := ⟨_, rfl⟩
  have swe := Dd.set 10 (.bool false) { n with role := 1, vote := n.id, wait := 0, term := n.term + 1, v0 := false } rfl rfl
  rw [hwe] at swe
  have De := swe.1
  have Ke := Lib.hid (Kd.out.trans swe.2)
  rw [hwe]
  clear hwe swe
  obtain ⟨wf, hwf⟩ : ∃ Z, we.setCell ⟨g, 11, none⟩ (.bool false) = Z := ⟨_, rfl⟩
  have swf := De.set 11 (.bool false) { n with role := 1, vote := n.id, wait := 0, term := n.term + 1, v0 := false, v1 := false } rfl rfl
  rw [hwf] at swf
  have Df := swf.1
  have Kf := Lib.hid (Ke.out.trans swf.2)
  rw [hwf]
  clear hwf swf
  obtain ⟨wg, hwg⟩ : ∃ Z, wf.setCell ⟨g, 12, none⟩ (.bool false) = Z := ⟨_, rfl⟩
  have swg := Df.set 12 (.bool false) { n with role := 1, vote := n.id, wait := 0, term := n.term + 1, v0 := false, v1 := false, v2 := false } rfl rfl
  rw [hwg] at swg
  have Dg := swg.1
  have Kg := Lib.hid (Kf.out.trans swg.2)
  rw [hwg]
  clear hwg swg
  clear q10 q11 q12 f10 f11 f12 bd Dd De Df Kd Ke Kf ht0 ht1
  have Dh := Dg.drew
  have Kh := Lib.hid (Kg.out.trans (Dg.kept (only_drew (only_refl wg none))))
  obtain ⟨wh, hwh⟩ : ∃ wh, wg.drew = wh := ⟨_, rfl⟩
  rw [hwh] at Dh Kh
  have HWH := Lib.hid hwh
  clear hwh Dg Kg
  have bh := (World.cell?_of_block (a := ⟨tb, 0, none⟩) (Kh.out.blk tb PB.out)).trans b2
  have ih : wh.cell? ⟨g, 0, none⟩ = some (.int .i64 (k : Int)) := by rw [← HID.out]; exact Dh.cell 0 _ rfl
  obtain ⟨vb, qk⟩ := Dh.cellv k HK3.out
  have fk := Dh.fr (10 + k)
  have t0 : (0 : Int) ≤ (k : Int) := by omega
  have t1 : (k : Int) < 3 := by have := HK3.out; omega
  refine wp_region_late [(10, fun V => V.cell? ⟨tb, 0, none⟩ = some (.pointer (some ⟨g, 0, none⟩)) ∧ V.cell? ⟨g, 0, none⟩ = some (.int .i64 (k : Int)))] (by kernel_rfl) ?_
  refine wpAnyT_take 5 10 (i := 0) (oi := { dst := some 35, op := Op.load 83 (Operand.tmp 1), type := 83, pos := "draft.go:66", after := #[], guard := none }) (v := ?_) (.head _) rfl (by kernel_rfl) (by kernel_rfl) (by kernel_rfl) (by kernel_rfl) (by kernel_rfl) (by kernel_rfl) (by rfl) (fun _ _ _ h => h) (by rfl) ?_ (holds1 (fun _ => ⟨by rw [HWH.out]; exact bh, by rw [HWH.out]; exact ih⟩)) ?_
  rotate_left
  · (intro W hSw; (try dsimp only at hSw); go_simp; try with_reducible rfl)
  try simp only [Act.put, List.setIfInBounds_toArray, List.set_cons_zero, List.set_cons_succ]
  refine wpAnyT_take 5 10 (i := 1) (oi := { dst := some 36, op := Op.load 83 (Operand.tmp 1), type := 83, pos := "draft.go:66", after := #[], guard := none }) (v := ?_) (.head _) rfl (by kernel_rfl) (by kernel_rfl) (by kernel_rfl) (by kernel_rfl) (by kernel_rfl) (by kernel_rfl) (by rfl) (fun _ _ _ h => h) (by rfl) ?_ (holds1 (fun _ => ⟨by rw [HWH.out]; exact bh, by rw [HWH.out]; exact ih⟩)) ?_
  rotate_left
  · (intro W hSw; (try dsimp only at hSw); go_simp; try with_reducible rfl)
  try simp only [Act.put, List.setIfInBounds_toArray, List.set_cons_zero, List.set_cons_succ]
  refine wpAnyT_pure (i := 2) (oi := { dst := some 37, op := Op.nilCheck (Operand.tmp 36), type := 0, pos := "draft.go:66", after := #[{ on := 1, ground := Ground.data }], guard := none }) (v := ?_) rfl (by kernel_rfl) (by kernel_rfl) (by kernel_rfl) (by kernel_rfl) (fun _ _ _ h => h) (Or.inl ⟨by rfl, ?_⟩) (holds1 (fun _ => ⟨by rw [HWH.out]; exact bh, by rw [HWH.out]; exact ih⟩)) ?_
  rotate_left
  · (intro W; go_simp; try with_reducible rfl)
  try simp only [Act.put, List.setIfInBounds_toArray, List.set_cons_zero, List.set_cons_succ]
  refine wpAnyT_pure (i := 3) (oi := { dst := some 38, op := Op.fieldAddr 87 (Operand.tmp 37) 0, type := 0, pos := "draft.go:66", after := #[{ on := 2, ground := Ground.data }], guard := none }) (v := ?_) rfl (by kernel_rfl) (by kernel_rfl) (by kernel_rfl) (by kernel_rfl) (fun _ _ _ h => h) (Or.inl ⟨by rfl, ?_⟩) (holds1 (fun _ => ⟨by rw [HWH.out]; exact bh, by rw [HWH.out]; exact ih⟩)) ?_
  rotate_left
  · (intro W; go_simp; try with_reducible rfl)
  try simp only [Act.put, List.setIfInBounds_toArray, List.set_cons_zero, List.set_cons_succ]
  refine wpAnyT_pure (i := 4) (oi := { dst := some 39, op := Op.fieldAddr 37 (Operand.tmp 38) 0, type := 0, pos := "draft.go:66", after := #[{ on := 3, ground := Ground.data }], guard := none }) (v := ?_) rfl (by kernel_rfl) (by kernel_rfl) (by kernel_rfl) (by kernel_rfl) (fun _ _ _ h => h) (Or.inl ⟨by rfl, ?_⟩) (holds1 (fun _ => ⟨by rw [HWH.out]; exact bh, by rw [HWH.out]; exact ih⟩)) ?_
  rotate_left
  · (intro W; go_simp; try with_reducible rfl)
  try simp only [Act.put, List.setIfInBounds_toArray, List.set_cons_zero, List.set_cons_succ]
  refine wpAnyT_take 5 10 (i := 5) (oi := { dst := some 40, op := Op.load 3 (Operand.tmp 39), type := 3, pos := "draft.go:66", after := #[{ on := 4, ground := Ground.data }], guard := none }) (v := ?_) (.head _) rfl (by kernel_rfl) (by kernel_rfl) (by kernel_rfl) (by kernel_rfl) (by kernel_rfl) (by kernel_rfl) (by rfl) (fun _ _ _ h => h) (by rfl) ?_ (holds1 (fun _ => ⟨by rw [HWH.out]; exact bh, by rw [HWH.out]; exact ih⟩)) ?_
  rotate_left
  · (intro W hSw; (try dsimp only at hSw); go_simp; try with_reducible rfl)
  try simp only [Act.put, List.setIfInBounds_toArray, List.set_cons_zero, List.set_cons_succ]
  refine wpAnyT_pure (i := 6) (oi := { dst := some 41, op := Op.nilCheck (Operand.tmp 35), type := 0, pos := "draft.go:66", after := #[{ on := 0, ground := Ground.data }], guard := none }) (v := ?_) rfl (by kernel_rfl) (by kernel_rfl) (by kernel_rfl) (by kernel_rfl) (fun _ _ _ h => h) (Or.inl ⟨by rfl, ?_⟩) (holds1 (fun _ => ⟨by rw [HWH.out]; exact bh, by rw [HWH.out]; exact ih⟩)) ?_
  rotate_left
  · (intro W; go_simp; try with_reducible rfl)
  try simp only [Act.put, List.setIfInBounds_toArray, List.set_cons_zero, List.set_cons_succ]
  refine wpAnyT_pure (i := 7) (oi := { dst := some 42, op := Op.fieldAddr 87 (Operand.tmp 41) 0, type := 0, pos := "draft.go:66", after := #[{ on := 6, ground := Ground.data }], guard := none }) (v := ?_) rfl (by kernel_rfl) (by kernel_rfl) (by kernel_rfl) (by kernel_rfl) (fun _ _ _ h => h) (Or.inl ⟨by rfl, ?_⟩) (holds1 (fun _ => ⟨by rw [HWH.out]; exact bh, by rw [HWH.out]; exact ih⟩)) ?_
  rotate_left
  · (intro W; go_simp; try with_reducible rfl)
  try simp only [Act.put, List.setIfInBounds_toArray, List.set_cons_zero, List.set_cons_succ]
  refine wpAnyT_pure (i := 8) (oi := { dst := some 43, op := Op.fieldAddr 37 (Operand.tmp 42) 10, type := 0, pos := "draft.go:66", after := #[{ on := 7, ground := Ground.data }], guard := none }) (v := ?_) rfl (by kernel_rfl) (by kernel_rfl) (by kernel_rfl) (by kernel_rfl) (fun _ _ _ h => h) (Or.inl ⟨by rfl, ?_⟩) (holds1 (fun _ => ⟨by rw [HWH.out]; exact bh, by rw [HWH.out]; exact ih⟩)) ?_
  rotate_left
  · (intro W; go_simp; try with_reducible rfl)
  try simp only [Act.put, List.setIfInBounds_toArray, List.set_cons_zero, List.set_cons_succ]
  refine wpAnyT_pure (i := 9) (oi := { dst := some 44, op := Op.indexAddr 34 (Operand.tmp 43) (Operand.tmp 40), type := 0, pos := "draft.go:66", after := #[{ on := 8, ground := Ground.data }, { on := 5, ground := Ground.data }, { on := 0, ground := Ground.phase }, { on := 1, ground := Ground.phase }, { on := 2, ground := Ground.phase }, { on := 3, ground := Ground.phase }, { on := 4, ground := Ground.phase }, { on := 5, ground := Ground.phase }], guard := none }) (v := ?_) rfl (by kernel_rfl) (by kernel_rfl) (by kernel_rfl) (by kernel_rfl) (fun _ _ _ h => h) (Or.inl ⟨by rfl, ?_⟩) (holds1 (fun _ => ⟨by rw [HWH.out]; exact bh, by rw [HWH.out]; exact ih⟩)) ?_
  rotate_left
  · (intro W; go_simp; try with_reducible rfl)
  try simp only [Act.put, List.setIfInBounds_toArray, List.set_cons_zero, List.set_cons_succ]
  rw [HWH.out]
  refine wpAnyT_ready (rs := [10]) (by kernel_rfl) (by simp) (AllT.cons (o := { dst := none, op := Op.store 4 (Operand.tmp 44) (Operand.const (Value.bool true)), type := 0, pos := "draft.go:66", after := #[{ on := 9, ground := Ground.data }, { on := 0, ground := Ground.phase }, { on := 1, ground := Ground.phase }, { on := 2, ground := Ground.phase }, { on := 3, ground := Ground.phase }, { on := 4, ground := Ground.phase }, { on := 5, ground := Ground.phase }], guard := none }) rfl (fun K hK => ?_) AllT.nil)
  go_simp
  obtain ⟨wi, hwi⟩ : ∃ Z, wh.setCell ⟨g, 10 + k, none⟩ (.bool true) = Z := ⟨_, rfl⟩
  have sv := Dh.setv k HK3.out
  rw [hwi] at sv
  rw [hwi]
  have Di := sv.1
  have Ki := Lib.hid (Kh.out.trans sv.2)
  clear hwi sv qk fk bh ih Dh Kh
  refine hK.out _ _ (holds1 (late_no (by kernel_rfl))) ?_
  clear hK K
  try simp only [Act.put, List.setIfInBounds_toArray, List.set_cons_zero, List.set_cons_succ]
  refine wpAnyT_done (by kernel_rfl) ?_ _
  obtain ⟨nc, hnc⟩ : ∃ x, n.camped k = x := ⟨_, rfl⟩
  have hnc2 : ({ n with role := 1, vote := n.id, wait := 0, term := n.term + 1, v0 := false, v1 := false, v2 := false } : Nd).vset k = nc := hnc
  rw [hnc2] at Di
  have HNC := Lib.hid hnc
  have hs := Nd.vset_same { n with role := 1, vote := n.id, wait := 0, term := n.term + 1, v0 := false, v1 := false, v2 := false } k
  rw [hnc2] at hs
  obtain ⟨e1, e2, e3, e4, e5, e6⟩ := hs
  have E3 : nc.log = n.log := e3
  have E12 := Lib.hid (And.intro (show nc.id = n.id from e1) (show nc.term = n.term + 1 from e2))
  have LC := fun W hW => last_any nc A c W hW (by rw [E3]; have := HN.out.len; omega) (by rw [show nc.base = n.base from e4]; exact HN.out.base)
  rw [E3, show nc.li = n.li from e5, show nc.lt = n.lt from e6] at LC
  have LD := Di.node
  have hHas := Has.own_w (show wi.ownsRow 0 49 2 (.slice A n.log.length c) n.log.length (es n.log) by have := Di.log; rw [E3] at this; exact this)
  have LC1 := LC wi hHas
  simp only [Nd.val] at LC1 LD
  have LCH := Lib.hid LC1
  have LDH := Lib.hid LD
  have bi := (World.cell?_of_block (a := ⟨tb, 0, none⟩) (Ki.out.blk tb PB.out)).trans b2
  clear hnc hnc2 e1 e2 e3 e4 e5 e6 LC LC1 LD hHas t0 t1
  go_wp2_with (refine wpList_load_at rfl 37 (Operand.tmp 48) rfl _ _ LDH.out rfl ?_)
  refine LCH.out.mono ?_
  rintro _ wj ⟨rfl, gj⟩
  have Dj := Di.grow gj
  have Kj := Lib.hid (Ki.out.trans (Di.kept gj))
  clear Di Ki bi LCH LDH gj
  go_upto_region 6 with fail
  obtain ⟨wk, hwk⟩ : ∃ Z, wj.alloc (.cells #[.int .i64 n.li] 3) = Z := ⟨_, rfl⟩
  obtain ⟨wl, hwl⟩ : ∃ Z, wk.alloc (.cells #[.int .i64 n.lt] 3) = Z := ⟨_, rfl⟩
  have gk : wj.grownBy wk none := by subst hwk; exact World.grownBy_alloc wj _ none
  have gl : wk.grownBy wl none := by subst hwl; exact World.grownBy_alloc wk _ none
  have zk : wk.heap.size = wj.heap.size + 1 := by subst hwk; simp
  have zl : wl.heap.size = wk.heap.size + 1 := by subst hwl; simp
  have ck : wl.cell? ⟨wj.heap.size, 0, none⟩ = some (.int .i64 n.li) := (World.cell?_of_block (gl.block wj.heap.size (by omega) (by simp))).trans (by subst hwk; exact (cell_of_row _ _ 0 _ _ (0, 0) (heap_alloc_new wj _)).trans rfl)
  have cl : wl.cell? ⟨wj.heap.size + 1, 0, none⟩ = some (.int .i64 n.lt) := by subst hwl; rw [← zk]; exact (cell_of_row _ _ 0 _ _ (0, 0) (heap_alloc_new wk _)).trans rfl
  have Dk := Dj.add gk wj.heap.size (Nat.le_refl _) (by omega)
  have Dl := Dk.add gl (wj.heap.size + 1) (by omega) (by omega)
  have Kl := Lib.hid ((Kj.out.trans (Dj.kept gk)).trans ((Dk.less (fun j hj => .inl hj) : DrV wk P' g nc _ S M).kept gl))
  have bl := (World.cell?_of_block (a := ⟨tb, 0, none⟩) (Kl.out.blk tb PB.out)).trans b2
  obtain ⟨ib, hib⟩ : ∃ ib, wj.heap.size = ib := ⟨_, rfl⟩
  have OC := others_camp (fun j m => m = Nd.voteM { n with term := n.term + 1 } n.li n.lt j) wl _ g tb wj.heap.size (wj.heap.size + 1) nc S ⟨_, M, Dl⟩ HS.out (fun j W S' hj hne hS' hd hk => by
    have q := camp1_any W _ g tb wj.heap.size (wj.heap.size + 1) j nc S' n.li n.lt hd (by omega) ((World.cell?_of_block (a := ⟨tb, 0, none⟩) (hk.blk tb (.inl (.inl PB.out)))).trans bl) ((World.cell?_of_block (a := ⟨wj.heap.size, 0, none⟩) (hk.blk _ (.inl (.inr rfl)))).trans ck) ((World.cell?_of_block (a := ⟨wj.heap.size + 1, 0, none⟩) (hk.blk _ (.inr rfl))).trans cl)
    have hvm : nc.voteM n.li n.lt j = Nd.voteM { n with term := n.term + 1 } n.li n.lt j := by unfold Nd.voteM; rw [E12.out.1, E12.out.2]
    rw [hvm] at q
    exact q.mono fun _ _ ⟨h1, h2, h3⟩ => ⟨h1, _, rfl, h2, h3⟩)
  rw [E12.out.1] at OC
  have OCH := Lib.hid OC
  have E3H := Lib.hid E3
  clear OC gk gl zk zl ck cl Dj Dk Dl Kj hib E3
  go_wp2_with fail
  refine OCH.out.mono ?_
  rintro _ wm ⟨rfl, l, hM, hDm, hKm⟩
  have HF := Lib.hid (And.intro hM (And.intro hDm hKm))
  clear hM hDm hKm OCH hwk hwl bl
  go_wp2_with fail
  go_end0
  have hD0 : Dr wm P g nc (S ++ l) := by
    obtain ⟨L, M, h⟩ := HF.out.2.1
    exact ⟨L, M, h.less (fun j hj => .inl (.inl (PP.out j hj)))⟩
  exact ⟨rfl, l, HF.out.1, by rw [HNC.out]; exact hD0, (HK1.out.trans (K2.out.less PP.out)).trans ((Kl.out.less PP.out).trans (HF.out.2.2.less (fun j hj => .inl (.inl (PP.out j hj)))))⟩
end Go.Proofs.Ytjhnipnocjoelaa
