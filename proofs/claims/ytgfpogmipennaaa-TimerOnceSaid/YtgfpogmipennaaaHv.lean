/- queue.Push: an item behind all others. No condition of the program's own. -/
import Derived.Test.YtgfpogmipennaaaHu
import Derived.Deep.RegionHeld3
import Derived.BigRegion
import Derived.Deep.RegionLaw
namespace Go.Proofs.Ytgfpogmipennaaa
open Go.RowKit Go.Deep
theorem ta_item (u : Value) (w : World) : (Instr.typeAssert (.iface 56 u) 20 56 false).run Try.prog w = .ok u w := by kernel_rfl
theorem map_some (b : Nat) (w : World) : (binOp BinOp.eql 48 (.map (some b)) (.map none)).run Try.prog w = .ok (.bool false) w := by kernel_rfl
theorem map_none (w : World) : (binOp BinOp.eql 48 (.map none) (.map none)).run Try.prog w = .ok (.bool true) w := by kernel_rfl
theorem map_make (w : World) : (Instr.makeMap 48 none).run Try.prog w = .ok (.map (some w.heap.size)) (w.alloc (.map #[] 0)) := by kernel_rfl
theorem cell_new (w : World) (arr : Array Value) (T : TypeId) (j : Nat) (v : Value) (h : arr[j]? = some v) : (w.alloc (.cells arr T)).cell? ⟨w.heap.size, j, none⟩ = some v := by
  unfold World.cell?; rw [heap_alloc_new]; exact h
theorem heap_lt (w : World) (o : Obj) {k : Nat} (h : k < w.heap.size) : (w.alloc o).heap[k]? = w.heap[k]? := Below.heap_alloc w o k h
theorem src_one (w : World) (x : It) : Src Try.prog 2 47 (.slice (some ⟨w.heap.size, 0, none⟩) 1 1) 1 (pc [x]) (w.alloc (.cells #[.int .i64 x.1, .int .i64 x.2] 56)) :=
  Src.ofSlice _ Try.underlying47 _ 1 1 _ rfl (fun j u hu => by
    rw [Addr.add_lit, Nat.zero_add]; exact cell_new _ _ _ j u (by rw [← hu, ← Array.getElem?_toList]; rfl)) (pc_one _)
/-- append of one item to a queue's row. -/
theorem app_item (w : World) (v : Value) (l : List It) (x : It) (hown : w.ownsRow 0 56 2 v l.length (pc l)) (hl : l.length ≤ 1099511627776) :
    ∃ v' w', (Builtin.append_ #[47, 47] 47 #[v, .slice (some ⟨w.heap.size, 0, none⟩) 1 1]).run Try.prog (w.alloc (.cells #[.int .i64 x.1, .int .i64 x.2] 56)) = .ok v' w' ∧
      GrewW w w' 0 56 2 v v' (l ++ [x]).length (pc (l ++ [x])) := by
  obtain ⟨i, hi, hzz⟩ := Option.map_eq_some_iff.1 Try.info_item
  simp only [Prod.mk.injEq] at hzz
  obtain ⟨hz, hsz, hb⟩ := hzz
  obtain ⟨v', w', hr, hg⟩ := run_append_wide (P := Try.prog) (w.alloc (.cells #[.int .i64 x.1, .int .i64 x.2] 56)) 0 47 47 47 56 i _ 16 2 Try.underlying47 hi hz hsz hb rfl v l.length (pc l)
    (row_keep hown (fun g hg => heap_lt _ _ (row_lt hown g hg))) (.slice (some ⟨w.heap.size, 0, none⟩) 1 1) 1 (pc [x]) (src_one w x) (by unfold maxLen; omega) (by omega) (Nat.zero_le _)
  refine ⟨v', w', hr, ?_, ?_, ?_⟩
  · rw [pc_append, List.length_append]; exact hg.own
  · exact only_step (World.grownBy_alloc w _ _) hg.only (fun k hk => .inl hk)
  · rcases hg.at_ with h | ⟨k, h1, h2⟩
    · exact .inl h
    · exact .inr ⟨k, h1, Nat.le_trans (World.grownBy_alloc w _ none).size h2⟩
/-- append at a step of a region that draws its order: by what it is known to do. -/
theorem step_app_run {w : World} {ops : Array Oper} {o : Oper} {a : Act} {K : Act → World → Prop} {Q : Exit → Act → World → Prop} {E : Prop} (hgd : o.guard = none) (s x : Operand) (t tx ty : TypeId)
    (ho : o.op = .call { callee := .builtin .append, args := #[s, x], argTypes := #[t, tx] }) (hty : o.type = ty) (u y v' : Value) (w' : World) (hs : a.eval s = u) (hx : a.eval x = y)
    (hr : (Builtin.append_ #[t, tx] ty #[u, y]).run Try.prog w = .ok v' w') (h : K (a.put o.dst v') w') : if Region.wanted o (yielded ops a.tmps) = true then Oper.wp Try.prog o a w K Q else E := by
  have hw : Region.wanted o (yielded ops a.tmps) = true := by simp [Region.wanted, hgd]
  rw [if_pos hw]
  subst hty
  unfold Oper.wp execOp
  simp only [ho, resolve, invoke, builtin, Sem.run_bind, Sem.run_pure, Result.andThen_ok, List.map_toArray, List.map_cons, List.map_nil, hs, hx, hr]
  exact h
/-- What is left of Push once there is a map: the place put in, the item appended, the row stored. -/
structure Ready (V : World) (B : Nat) (v : Value) (l : List It) (b : Nat) (m : Int → Option Int) (I : Nat) (x : It) : Prop where
  q : QW V B v (.map (some b)) l
  mp : MapIs V b m
  i : Idx l m
  hm : m x.1 = none
  lt : I < V.heap.size
  it : V.heap[I]? = some (.cells #[.int .i64 x.1, .int .i64 x.2] 56 (0, 0))
  nB : I ≠ B
  nb : I ≠ b
  bB : b ≠ B
theorem Ready.put {V : World} {B : Nat} {v : Value} {l : List It} {b : Nat} {m : Int → Option Int} {I : Nat} {x : It} (h : Ready V B v l b m I x) (hl : l.length ≤ 1099511627776) :
    ∃ V1 A' n' c' V2, (Instr.mapUpdate 48 (.map (some b)) (.int .i64 x.1) (.int .i64 l.length)).run Try.prog V.drew = .ok () V1 ∧ V1.cell? ⟨B, 0, none⟩ = some v ∧ V1.cell? ⟨I, 0, none⟩ = some (.int .i64 x.1) ∧ V1.cell? ⟨I, 1, none⟩ = some (.int .i64 x.2) ∧
      (Builtin.append_ #[47, 47] 47 #[v, .slice (some ⟨V1.heap.size, 0, none⟩) 1 1]).run Try.prog (V1.alloc (.cells #[.int .i64 x.1, .int .i64 x.2] 56)).drew = .ok (.slice A' n' c') V2 ∧ ((V1.alloc (.cells #[.int .i64 x.1, .int .i64 x.2] 56)).cell? ⟨B, 0, none⟩ = some v ∧ (V1.alloc (.cells #[.int .i64 x.1, .int .i64 x.2] 56)).cell? ⟨I, 0, none⟩ = some (.int .i64 x.1) ∧ (V1.alloc (.cells #[.int .i64 x.1, .int .i64 x.2] 56)).cell? ⟨I, 1, none⟩ = some (.int .i64 x.2)) ∧
      V2.cell? ⟨B, 0, none⟩ = some v ∧ V2.frozen? ⟨B, 0, none⟩ = false ∧ ∀ F : Nat → Prop, (∀ k, fpQ B v (.map (some b)) k → F k) → (∀ k, V.heap.size ≤ k → F k) → QS (V2.setCell ⟨B, 0, none⟩ (.slice A' n' c')) B (l ++ [x]) F ∧ OnlyF F V (V2.setCell ⟨B, 0, none⟩ (.slice A' n' c')) := by
  have kd : Try.prog.underlying 3 = some (.int .i64) := Try.underlying3
  have km : Try.prog.underlying 48 = some (.map 3 3) := Try.underlying48
  obtain ⟨V1, r1, hm1, g1, hs1⟩ := run_put (P := Try.prog) (w := V.drew) km kd (h.mp.of_heap rfl) x.1 l.length
  have o1 : ∀ k, k < V.heap.size → k ≠ b → V1.heap[k]? = V.heap[k]? := fun k hk hkb => g1.block k hk (fun e => hkb (by injection e))
  have blk1 : V1.heap[B]? = some (.cells #[v, .map (some b)] 54 (0, 0)) := (o1 B (h.q.lt B (.inl rfl)) (Ne.symm h.bB)).trans h.q.blk
  have vb : v.ownBlock ≠ some b := fun e => by
    obtain ⟨es, ck, hm⟩ := h.mp
    rcases h.q.row.2 with ⟨hv, _⟩ | ⟨g, cap, cur, hv, _, hg, _⟩
    · rw [hv] at e; cases e
    · rw [hv] at e; simp [Value.ownBlock] at e; subst e
      rw [hm.heap] at hg; cases hg
  have row1 : V1.ownsRow 0 56 2 v l.length (pc l) := row_keep h.q.row (fun g hg => o1 g (row_lt h.q.row g hg) (fun e => vb (e ▸ hg)))
  have it1 : V1.heap[I]? = some (.cells #[.int .i64 x.1, .int .i64 x.2] 56 (0, 0)) := (o1 I h.lt h.nb).trans h.it
  obtain ⟨v', V2, r2, g2⟩ := app_item V1.drew v l x (row_keep row1 (fun _ _ => rfl)) hl
  obtain ⟨A', n', c', rfl⟩ : ∃ A' n' c', v' = .slice A' n' c' := by
    rcases g2.own.2 with ⟨hv, _⟩ | ⟨_, cap, _, hv, _⟩
    · exact ⟨_, _, _, hv⟩
    · exact ⟨_, _, _, hv⟩
  have o2 : ∀ k, k < V1.heap.size → v.ownBlock ≠ some k → V2.heap[k]? = V1.heap[k]? := fun k hk hkb => g2.only.block k hk (fun e => hkb e.symm)
  have s1 : V1.heap.size = V.heap.size := hs1
  have Blt : B < V1.heap.size := by rw [s1]; exact h.q.lt B (.inl rfl)
  have Ilt : I < V1.heap.size := by rw [s1]; exact h.lt
  have blk2 : V2.heap[B]? = some (.cells #[v, .map (some b)] 54 (0, 0)) := (o2 B Blt h.q.ne).trans blk1
  refine ⟨V1, A', n', c', V2, r1, cell_of_heap blk1 0 _ rfl, cell_of_heap it1 0 _ rfl, cell_of_heap it1 1 _ rfl, r2, ⟨cell_of_heap ((heap_lt V1 _ Blt).trans blk1) 0 _ rfl, cell_of_heap ((heap_lt V1 _ Ilt).trans it1) 0 _ rfl, cell_of_heap ((heap_lt V1 _ Ilt).trans it1) 1 _ rfl⟩, cell_of_heap blk2 0 _ rfl, thaw_of_heap blk2 0, fun F hF hN => ?_⟩
  have v'B : (Value.slice A' n' c').ownBlock ≠ some B := fun e => by
    rcases g2.at_ with a | ⟨k, a1, a2⟩
    · exact h.q.ne (a ▸ e)
    · rw [a1] at e; cases e
      exact absurd Blt (Nat.not_lt.2 a2)
  have bl : b < V1.heap.size := by rw [s1]; exact h.mp.lt
  have F' : ∀ k, (Value.slice A' n' c').ownBlock = some k → F k := fun k e => by
    rcases g2.at_ with a | ⟨q, a1, a2⟩
    · exact hF k (.inr (.inl (a ▸ e)))
    · rw [a1] at e; cases e
      exact hN _ (by rw [← s1]; exact a2)
  have hs3 := heap_set1 blk2 0 (.slice A' n' c')
  refine ⟨⟨.slice A' n' c', .map (some b), ⟨hs3, row_keep g2.own (fun g hg => heap_other _ (fun e => v'B (by rw [← e]; exact hg)) _ _), v'B, .inr ⟨b, _, rfl, (hm1.of_heap (o2 b bl vb)).of_heap (heap_other _ h.bB _ _), h.i.push x h.hm⟩⟩, fun k hk => ?_⟩, ?_⟩
  · rcases hk with rfl | hk | hk
    · exact hF _ (.inl rfl)
    · exact F' k hk
    · exact hF k (.inr (.inr hk))
  · have a1 : OnlyF F V.drew V1 := OnlyF.of g1 (fun k e => by cases e; exact hF b (.inr (.inr rfl)))
    have a2 : OnlyF F V1.drew V2 := OnlyF.of g2.only (fun k e => hF k (.inr (.inl e)))
    have a3 : OnlyF F V2 (V2.setCell ⟨B, 0, none⟩ (.slice A' n' c')) := OnlyF.of (cell_only (only_refl _ _) 0 (.slice A' n' c')) (fun k e => by cases e; exact hF _ (.inl rfl))
    exact (undrew a1).trans ((undrew a2).trans a3)
set_option maxRecDepth 100000 in
set_option maxHeartbeats 2000000 in
/-- Push, where there is a map. -/
theorem push_map (B n c b I : Nat) (A : Option Addr) (l : List It) (m : Int → Option Int) (x : It) (F : Nat → Prop) (w V : World) (hV : w.alloc (.cells #[.int .i64 x.1, .int .i64 x.2] 56) = V) (hI : I = w.heap.size) (hn : l.length = n)
    (R : Ready V B (.slice A n c) l b m I x) (hl : l.length ≤ 1099511627776) (hF : ∀ k, fpQ B (.slice A n c) (.map (some b)) k → F k) (hN : ∀ k, V.heap.size ≤ k → F k) :
    Calls Try.prog 53 #[.pointer (some ⟨B, 0, none⟩), .iface 56 (.agg #[.int .i64 x.1, .int .i64 x.2])] w fun e w' => e = .returned (.tuple #[]) ∧ QS w' B (l ++ [x]) F ∧ OnlyF F V w' := by
  subst hn
  subst hI
  have e0 := ta_item
  have e1 := map_some
  obtain ⟨V1, A', n', c', V2, r1, d0, i0, i1, r2, d1, d2, z2, fin⟩ := R.put hl
  have fin := Lib.hid (fin F hF hN)
  have c0 := R.q.cells.1
  have c1 := R.q.cells.2
  have j0 : V.cell? ⟨w.heap.size, 0, none⟩ = some (.int .i64 x.1) := cell_of_heap R.it 0 _ rfl
  clear R hF hN
  go_enter Try.func53, Try.ntmps53
  go_wp2_with fail
  have R2 := Lib.hid r2
  clear r2
  go_region
  go_wp2_with fail
  obtain ⟨d3, d4, d5⟩ := d1
  go_region_law (refine step_app_run (by rfl) _ _ _ _ _ (by rfl) (by rfl) _ _ _ _ (by rfl) (by rfl) R2.out ?_)
  all_goals go_wp2_with fail
  all_goals go_end0
  all_goals exact ⟨rfl, fin.out⟩
set_option maxRecDepth 100000 in
set_option maxHeartbeats 2000000 in
/-- Push, where there is none yet. -/
theorem push_none (B n c : Nat) (A : Option Addr) (l : List It) (x : It) (F : Nat → Prop) (w V : World) (hV : (((w.alloc (.cells #[.int .i64 x.1, .int .i64 x.2] 56)).alloc (.map #[] 0)).setCell ⟨B, 1, none⟩ (.map (some (w.heap.size + 1)))) = V) (hn : l.length = n) (h1 : w.cell? ⟨B, 1, none⟩ = some (.map none)) (hz : w.frozen? ⟨B, 1, none⟩ = false) (hB : B < w.heap.size)
    (R : Ready V B (.slice A n c) l (w.heap.size + 1) (fun _ => none) w.heap.size x) (hl : l.length ≤ 1099511627776) (hF : ∀ k, fpQ B (.slice A n c) (.map (some (w.heap.size + 1))) k → F k) (hN : ∀ k, V.heap.size ≤ k → F k) :
    Calls Try.prog 53 #[.pointer (some ⟨B, 0, none⟩), .iface 56 (.agg #[.int .i64 x.1, .int .i64 x.2])] w fun e w' => e = .returned (.tuple #[]) ∧ QS w' B (l ++ [x]) F ∧ OnlyF F V w' := by
  subst hn
  have e0 := ta_item
  have e1 := map_none
  have e2 := map_make
  obtain ⟨V1, A', n', c', V2, r1, d0, i0, i1, r2, d1, d2, z2, fin⟩ := R.put hl
  have fin := Lib.hid (fin F hF hN)
  have c0 := R.q.cells.1
  have c1 := R.q.cells.2
  have j0 : V.cell? ⟨w.heap.size, 0, none⟩ = some (.int .i64 x.1) := cell_of_heap R.it 0 _ rfl
  clear R hF hN
  go_enter Try.func53, Try.ntmps53
  go_wp2_with fail
  have R2 := Lib.hid r2
  clear r2
  go_region
  go_wp2_with fail
  obtain ⟨d3, d4, d5⟩ := d1
  go_region_law (refine step_app_run (by rfl) _ _ _ _ _ (by rfl) (by rfl) _ _ _ _ (by rfl) (by rfl) R2.out ?_)
  all_goals go_wp2_with fail
  all_goals go_end0
  all_goals exact ⟨rfl, fin.out⟩
theorem heap_lt2 (w : World) (o o' : Obj) {k : Nat} (h : k < w.heap.size) : ((w.alloc o).alloc o').heap[k]? = w.heap[k]? := (heap_lt _ _ (by simp; omega)).trans (heap_lt _ _ h)
theorem pushq (B : Nat) (l : List It) (x : It) (F : Nat → Prop) (w : World) (h : QS w B l F) (hx : ∀ y ∈ l, y.1 ≠ x.1) (hl : l.length ≤ 1099511627776) (hN : ∀ k, w.heap.size ≤ k → F k) :
    Calls Try.prog 53 #[.pointer (some ⟨B, 0, none⟩), .iface 56 (.agg #[.int .i64 x.1, .int .i64 x.2])] w fun e w' => e = .returned (.tuple #[]) ∧ QS w' B (l ++ [x]) F ∧ OnlyF F w w' := by
  obtain ⟨v, mv, h, hF⟩ := h
  obtain ⟨A, c, rfl⟩ := h.slice
  have hB : B < w.heap.size := h.lt B (.inl rfl)
  rcases h.map with ⟨rfl, rfl⟩ | ⟨b, m, rfl, hm, hI⟩
  · obtain ⟨V, hV⟩ : ∃ V, (((w.alloc (.cells #[.int .i64 x.1, .int .i64 x.2] 56)).alloc (.map #[] 0)).setCell ⟨B, 1, none⟩ (.map (some (w.heap.size + 1)))) = V := ⟨_, rfl⟩
    have g1 : w.grownBy V (some B) := by rw [← hV]; exact cell_only (only_alloc (only_alloc (only_refl _ _) _) _) _ _
    have blk : V.heap[B]? = some (.cells #[.slice A ([] : List It).length c, .map (some (w.heap.size + 1))] 54 (0, 0)) := by
      rw [← hV]
      exact heap_set1 ((heap_lt2 w _ _ hB).trans h.blk) 1 _
    have hne : w.heap.size ≠ B := by omega
    have hne1 : w.heap.size + 1 ≠ B := by omega
    have hmp : MapIs V (w.heap.size + 1) (fun _ => none) := by
      rw [← hV]
      have := MapIs.made (w.alloc (.cells #[.int .i64 x.1, .int .i64 x.2] 56))
      rw [show (w.alloc (.cells #[.int .i64 x.1, .int .i64 x.2] 56)).heap.size = w.heap.size + 1 by simp] at this
      exact this.of_heap (heap_other _ hne1 _ _)
    have R : Ready V B (.slice A ([] : List It).length c) [] (w.heap.size + 1) (fun _ => none) w.heap.size x := by
      refine ⟨⟨blk, row_keep h.row (fun g hg => g1.block g (row_lt h.row g hg) (fun e => h.ne (by rw [← e]; exact hg))), h.ne, .inr ⟨_, _, rfl, hmp, Idx.nil⟩⟩, hmp, Idx.nil, rfl, ?_, ?_, hne, by omega, hne1⟩
      · rw [← hV]; simp [World.setCell]; omega
      · rw [← hV, heap_other _ hne, heap_lt _ _ (by simp)]
        exact heap_alloc_new w _
    refine (push_none B _ c A [] x F w V hV rfl h.cells.2 (h.thaw 1) hB R (by simp) (fun k hk => ?_) (fun k hk => hN k (Nat.le_trans g1.size hk))).mono ?_
    · rcases hk with rfl | hk | hk
      · exact hF _ (.inl rfl)
      · exact hF k (.inr (.inl hk))
      · cases hk; exact hN _ (by omega)
    · rintro e w' ⟨h1, h2, h3⟩
      exact ⟨h1, h2, (OnlyF.of g1 (fun k e => by cases e; exact hF _ (.inl rfl))).trans h3⟩
  · have hm0 := hm
    have hbB : b ≠ B := fun e => by
      obtain ⟨es, ck, hm⟩ := hm
      have := hm.heap
      rw [e, h.blk] at this
      cases this
    have hx' : m x.1 = none := by
      cases hc : m x.1 with
      | none => rfl
      | some q =>
        obtain ⟨i, t, hi, _⟩ := (hI _ _).1 hc
        exact absurd rfl (hx (x.1, t) (List.mem_of_getElem? hi))
    obtain ⟨V, hV⟩ : ∃ V, w.alloc (.cells #[.int .i64 x.1, .int .i64 x.2] 56) = V := ⟨_, rfl⟩
    have g1 : w.grownBy V none := by rw [← hV]; exact World.grownBy_alloc _ _ _
    have q : QW V B (.slice A l.length c) (.map (some b)) l := h.keep (fun k hk => g1.block k (h.lt k hk) (by simp))
    have R : Ready V B (.slice A l.length c) l b m w.heap.size x :=
      ⟨q, hm.of_heap (g1.block b hm.lt (by simp)), hI, hx', by rw [← hV]; simp, by rw [← hV]; exact heap_alloc_new w _, by omega, by have := hm.lt; omega, hbB⟩
    refine (push_map B _ c b _ A l m x F w V hV rfl rfl R hl hF (fun k hk => hN k (Nat.le_trans g1.size hk))).mono ?_
    rintro e w' ⟨h1, h2, h3⟩
    exact ⟨h1, h2, (OnlyF.still g1).trans h3⟩
end Go.Proofs.Ytgfpogmipennaaa
