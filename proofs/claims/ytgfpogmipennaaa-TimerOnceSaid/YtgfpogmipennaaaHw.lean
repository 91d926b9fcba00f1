/- queue.Pop: the item behind all others taken off. No condition of the program's own. -/
import Derived.Test.YtgfpogmipennaaaHv
namespace Go.Proofs.Ytgfpogmipennaaa
open Go.RowKit Go.Deep
theorem slice_front (A : Option Addr) (n c k : Nat) (hk : k ≤ n) (hc : n ≤ c) (W : World) :
    (Instr.sliceAt 47 (.slice A n c) none (some (.int .i64 (k : Int))) none).run Try.prog W = .ok (.slice A k c) W := by
  have hu : Try.prog.underlying 47 = some (.slice (Try.prog.elem 47)) := Try.underlying47
  rw [run_sliceAt_slice (h := hu), run_slice_h (ht := hu) (h0 := by omega) (h2 := by omega)]
  rw [show Try.prog.elem 47 = 56 by rfl, Try.sizeOf56]
  cases A with
  | none => simp [Result.andThen, sliced]
  | some a =>
    have : a.add 0 = a := by cases a; rfl
    simp [Result.andThen, sliced, this]
theorem step_del_run {w : World} {ops : Array Oper} {o : Oper} {a : Act} {K : Act → World → Prop} {Q : Exit → Act → World → Prop} {E : Prop} (hgd : o.guard = none) (s x : Operand) (t tx ty : TypeId)
    (ho : o.op = .call { callee := .builtin .delete, args := #[s, x], argTypes := #[t, tx] }) (hty : o.type = ty) (u y v' : Value) (w' : World) (hs : a.eval s = u) (hx : a.eval x = y)
    (hr : (Builtin.delete_ #[t, tx] ty #[u, y]).run Try.prog w = .ok v' w') (h : K (a.put o.dst v') w') : if Region.wanted o (yielded ops a.tmps) = true then Oper.wp Try.prog o a w K Q else E := by
  have hw : Region.wanted o (yielded ops a.tmps) = true := by simp [Region.wanted, hgd]
  rw [if_pos hw]
  subst hty
  unfold Oper.wp execOp
  simp only [ho, resolve, invoke, builtin, Sem.run_bind, Sem.run_pure, Result.andThen_ok, List.map_toArray, List.map_cons, List.map_nil, hs, hx, hr]
  exact h
set_option maxRecDepth 100000 in
set_option maxHeartbeats 2000000 in
theorem pop_walk (B g n c b : Nat) (x : It) (w V W : World) (h0 : w.cell? ⟨B, 0, none⟩ = some (.slice (some ⟨g, 0, none⟩) (n + 1) c)) (hc : n + 1 ≤ c) (hn : n + 1 ≤ 1099511627776) (hz : w.frozen? ⟨B, 0, none⟩ = false) (hB : B < w.heap.size)
    (x1 : w.cell? ⟨g, n * 2, none⟩ = some (.int .i64 x.1)) (x2 : w.cell? ⟨g, n * 2 + 1, none⟩ = some (.int .i64 x.2))
    (hV : (w.alloc (.cells #[.int .i64 x.1, .int .i64 x.2] 56)).setCell ⟨B, 0, none⟩ (.slice (some ⟨g, 0, none⟩) n c) = V) (v1 : V.cell? ⟨B, 1, none⟩ = some (.map (some b))) (i1 : V.cell? ⟨w.heap.size, 0, none⟩ = some (.int .i64 x.1))
    (r : (Builtin.delete_ #[48, 3] 0 #[.map (some b), .int .i64 x.1]).run Try.prog V.drew = .ok (.tuple #[]) W) (j1 : W.cell? ⟨w.heap.size, 0, none⟩ = some (.int .i64 x.1)) (j2 : W.cell? ⟨w.heap.size, 1, none⟩ = some (.int .i64 x.2)) :
    Calls Try.prog 52 #[.pointer (some ⟨B, 0, none⟩)] w fun e w' => e = .returned (.iface 56 (.agg #[.int .i64 x.1, .int .i64 x.2])) ∧ w' = W := by
  have e1 := slice_front (some ⟨g, 0, none⟩) (n + 1) c n (by omega) hc
  have e2 : IntKind.i64.wrap (((n + 1 : Nat) : Int) - 1) = (n : Int) := by rw [IntKind.wrap_i64]; omega
  have u0 : (0 : Int) ≤ (n : Int) := by omega
  have u1 : (n : Int) < ((n + 1 : Nat) : Int) := by omega
  obtain ⟨n1, hn1⟩ : ∃ n1, n1 = n + 1 := ⟨_, rfl⟩
  rw [← hn1] at e1 e2 u1 h0
  clear hn1
  have R := Lib.hid r
  clear r
  go_enter Try.func52, Try.ntmps52
  go_wp2_with fail
  go_region_law (refine step_del_run (by rfl) _ _ _ _ _ (by rfl) (by rfl) _ _ _ _ (by rfl) (by rfl) R.out ?_)
  all_goals go_wp2_with fail
  all_goals go_ret
  all_goals exact ⟨rfl, rfl⟩
theorem itm_last (l : List It) (x : It) : itm (l ++ [x]) l.length = x := itm_of (by simp)
theorem popq (B : Nat) (l : List It) (x : It) (F : Nat → Prop) (w : World) (h : QS w B (l ++ [x]) F) (hl : l.length ≤ 1099511627775) :
    Calls Try.prog 52 #[.pointer (some ⟨B, 0, none⟩)] w fun e w' => e = .returned (.iface 56 (.agg #[.int .i64 x.1, .int .i64 x.2])) ∧ QS w' B l F ∧ OnlyF F w w' := by
  obtain ⟨v, mv, h, hF⟩ := h
  have hlen : (l ++ [x]).length = l.length + 1 := by simp
  obtain ⟨g, c, cur, rfl, hgB, hgl, hg, hc1, hc2, hcs, hct⟩ := h.form (by omega)
  obtain ⟨b, m, rfl, hm, hI, hbB⟩ := h.mapped (by omega)
  have hbg : b ≠ g := by
    obtain ⟨es, ck, hm⟩ := hm
    exact QW.apart_map (l := l) hg hm (Nat.zero_le _)
  have hB : B < w.heap.size := h.lt B (.inl rfl)
  have xi := QW.item hg hct (i := l.length) (by omega)
  rw [itm_last] at xi
  have c0 := h.cells.1
  have hblk := h.blk
  rw [hlen] at c0 hc1 hct hblk hF
  obtain ⟨V, hV⟩ : ∃ V, (w.alloc (.cells #[.int .i64 x.1, .int .i64 x.2] 56)).setCell ⟨B, 0, none⟩ (.slice (some ⟨g, 0, none⟩) l.length c) = V := ⟨_, rfl⟩
  have blk : V.heap[B]? = some (.cells #[.slice (some ⟨g, 0, none⟩) l.length c, .map (some b)] 54 (0, 0)) := by
    rw [← hV]
    exact heap_set1 ((heap_lt w _ hB).trans hblk) 0 _
  have vo : ∀ k, k < w.heap.size → k ≠ B → V.heap[k]? = w.heap[k]? := fun k hk hkB => by rw [← hV]; exact (heap_other _ hkB _ _).trans (heap_lt w _ hk)
  have it : V.heap[w.heap.size]? = some (.cells #[.int .i64 x.1, .int .i64 x.2] 56 (0, 0)) := by
    rw [← hV, heap_other _ (by omega)]
    exact heap_alloc_new w _
  have sV : V.heap.size = w.heap.size + 1 := by rw [← hV]; simp [World.setCell]
  have bl : b < w.heap.size := hm.lt
  have kd : Try.prog.underlying 3 = some (.int .i64) := Try.underlying3
  have km : Try.prog.underlying 48 = some (.map 3 3) := Try.underlying48
  obtain ⟨W, r, hmW, gW, sW⟩ := run_drop (P := Try.prog) (w := V.drew) (ty := 0) km kd (((hm.of_heap (vo b bl hbB)).of_heap rfl : MapIs V.drew b m)) x.1
  have wo : ∀ k, k < V.heap.size → k ≠ b → W.heap[k]? = V.heap[k]? := fun k hk hkb => gW.block k hk (fun e => hkb (by injection e))
  have itW : W.heap[w.heap.size]? = some (.cells #[.int .i64 x.1, .int .i64 x.2] 56 (0, 0)) := (wo _ (by omega) (by omega)).trans it
  refine (pop_walk B g l.length c b x w V W c0 hc1 (by omega) (h.thaw 0) hB xi.1 xi.2 hV (cell_of_heap blk 1 _ rfl) (cell_of_heap it 0 _ rfl) r (cell_of_heap itW 0 _ rfl) (cell_of_heap itW 1 _ rfl)).mono ?_
  rintro e w' ⟨he, rfl⟩
  refine ⟨he, ⟨_, _, ⟨(wo B (by omega) (Ne.symm hbB)).trans blk, ?_, fun e => hgB (by simpa [Value.ownBlock] using e), .inr ⟨b, _, rfl, hmW, hI.pop⟩⟩, fun k hk => ?_⟩, ?_⟩
  · refine ⟨by rw [pc_len], .inr ⟨g, c, cur, rfl, Nat.zero_le _, (wo g (by omega) (Ne.symm hbg)).trans ((vo g hgl hgB).trans hg), by omega, hc2, hcs, ?_⟩⟩
    have := congrArg (List.take (l.length * 2)) hct
    rw [List.take_take, pc_append, List.take_left' (by rw [pc_len])] at this
    rw [← this]
    congr 1
    omega
  · rcases hk with rfl | hk | hk
    · exact hF _ (.inl rfl)
    · exact hF k (.inr (.inl (by simpa [Value.ownBlock] using hk)))
    · exact hF k (.inr (.inr hk))
  · have a1 : w.grownBy V (some B) := by rw [← hV]; exact cell_only (only_alloc (only_refl _ _) _) _ _
    exact (OnlyF.of a1 (fun k e => by cases e; exact hF _ (.inl rfl))).trans (undrew (OnlyF.of gW (fun k e => by cases e; exact hF b (.inr (.inr rfl)))))
end Go.Proofs.Ytgfpogmipennaaa
