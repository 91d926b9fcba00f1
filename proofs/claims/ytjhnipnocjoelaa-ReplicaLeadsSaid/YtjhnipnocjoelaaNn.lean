/- A node as a result; replica.New. No condition. -/
import Derived.Test.YtjhnipnocjoelaaNm
import Derived.Laws.ResultCell
namespace Go.Proofs.Ytjhnipnocjoelaa
open Go.RowKit Go.Deep
theorem wpT_store {P : Program} {ops : Array Oper} {o : Oper} {a : Act} {K : Act → World → Prop} {Q : Exit → Act → World → Prop} {w : World} {E : Prop} (hwn : Region.wanted o (yielded ops a.tmps) = true) (ty : TypeId) (x y : Operand) (ho : o.op = .store ty x y) (p v : Value) (w' : World)
    (hr : (Instr.storeAt ty p v).run P w = .ok () w') (hx : a.eval x = p) (hy : a.eval y = v) (h : K (a.put o.dst undef) w') : if Region.wanted o (yielded ops a.tmps) = true then Oper.wp P o a w K Q else E := by
  rw [if_pos hwn]
  unfold Oper.wp execOp
  simp only [ho, hx, hy, Sem.run_bind, hr, Result.andThen_ok, Sem.run_pure]
  exact h
theorem wpList_build2 {P : Program} {ops : Array Oper} {rest : List Oper} {o : Oper} {a : Act} {Q : Exit → Act → World → Prop} {w : World} (hgd : o.guard = none) (t : TypeId) (i j : Nat) (x y : Operand) (ho : o.op = .build t #[(i, x), (j, y)]) (u1 u2 v : Value) (hr : (Instr.build t #[(i, u1), (j, u2)]).run P w = .ok v w) (hx : a.eval x = u1) (hy : a.eval y = u2) (h : wpList P ops Q rest (a.put o.dst v) w) : wpList P ops Q (o :: rest) a w :=
  wpList_plain hgd fun _ hK => by
    unfold Oper.wp execOp
    simp only [ho, List.map_toArray, List.map_cons, List.map_nil, hx, hy, Sem.run_bind, hr, Result.andThen_ok, Sem.run_pure]
    exact hK _ _ h
/-- A node's own block. -/
structure NB (w : World) (b : Nat) (n : Nd) (L : Value) : Prop where
  at_ : w.heap[b]? = some (.cells (n.cells L) 37 (0, 0))
theorem row_at {w : World} {b : Nat} {cur cs : Array Value} {T : TypeId} (h : w.heap[b]? = some (.cells cur T (0, 0))) : (w.setRow b cs).heap[b]? = some (.cells cs T (0, 0)) := by
  simp [World.setRow, Array.getElem?_modify, h]
theorem Nd.one (n : Nd) (A : Option Addr) (k c : Nat) : ∀ v ∈ (n.cells (.slice A k c)).toList, v.oneCell' = true := by
  intro v hv
  unfold Nd.cells at hv
  simp only [List.mem_cons, List.not_mem_nil, or_false] at hv
  rcases hv with rfl | rfl | rfl | rfl | rfl | rfl | rfl | rfl | rfl | rfl | rfl | rfl | rfl | rfl | rfl | rfl | rfl | rfl | rfl <;> rfl
theorem store_node {w : World} {b : Nat} {cur : Array Value} (n : Nd) (A : Option Addr) (k c : Nat) (h : w.heap[b]? = some (.cells cur 37 (0, 0))) (hz : cur.size = 19) :
    (Instr.storeAt 37 (.pointer (some ⟨b, 0, none⟩)) (n.val (.slice A k c))).run Try.prog w = .ok () (w.setRow b (n.cells (.slice A k c))) :=
  store_agg (cs := n.cells (.slice A k c)) h (by rw [hz]; rfl) (by kernel_rfl) (n.one A k c)
theorem results_node {fn : Func} {p : Tmp} (h : fn.results = #[.cell p 37]) (tmps : Array Value) (w : World) (b : Nat) (n : Nd) (L : Value) (hp : tmps.getD p undef = .pointer (some ⟨b, 0, none⟩)) (hb : w.heap[b]? = some (.cells (n.cells L) 37 (0, 0))) :
    (results fn tmps).run Try.prog w = .ok (n.val L) w :=
  results_cell_row (P := Try.prog) h tmps w b _ (n.cells L) (0, 0) _ hp hb Try.underlying37 rfl (by kernel_rfl)
theorem results_node_tmp {fn : Func} {p u : Tmp} (h : fn.results = #[.cell p 37, .tmp u]) (tmps : Array Value) (w : World) (b : Nat) (n : Nd) (L : Value) (hp : tmps.getD p undef = .pointer (some ⟨b, 0, none⟩)) (hb : w.heap[b]? = some (.cells (n.cells L) 37 (0, 0))) :
    (results fn tmps).run Try.prog w = .ok (.tuple #[n.val L, tmps.getD u undef]) w := by
  rw [results_cell_tmp h, hp]
  have hl := run_loadVar_row (P := Try.prog) w b _ 37 (n.cells L) (0, 0) _ hb Try.underlying37 rfl (by kernel_rfl)
  simp only [asAddr, Sem.run_pure, Result.andThen_ok, hl]
  rfl
def newN (i : Int) : Nd := ⟨i, 0, -1, 0, 0, { data := #[] }, [], 0, 0, 0, false, false, false, 0, 0, 0, 0, 0, 0⟩
theorem build_new (i : Int) (W : World) : (Instr.build 37 #[(0, .int .i64 i), (2, .int .i64 (-1))]).run Try.prog W = .ok ((newN i).val (.slice none 0 0)) W := run_build W _ _ _ (by kernel_rfl)
set_option maxRecDepth 100000 in
set_option maxHeartbeats 1000000 in
theorem new_any (i : Nat) (hi : i < 3) (w : World) : Calls Try.prog 16 #[.int .i64 i] w fun e w' => e = .returned ((newN i).val (.slice none 0 0)) ∧ w.grownBy w' none := by
  obtain ⟨w1, hw1⟩ : ∃ w1, w.alloc (.cells #[.int .i64 0, .int .i64 0, .int .i64 0, .int .i64 0, .int .i64 0, .string { data := #[] }, .slice none 0 0, .int .i64 0, .int .i64 0, .int .i64 0, .bool false, .bool false, .bool false, .int .i64 0, .int .i64 0, .int .i64 0, .int .i64 0, .int .i64 0, .int .i64 0] 37) = w1 := ⟨_, rfl⟩
  have g1 : w.grownBy w1 none := by subst hw1; exact World.grownBy_alloc w _ none
  have b1 := heap_alloc_new w (.cells #[.int .i64 0, .int .i64 0, .int .i64 0, .int .i64 0, .int .i64 0, .string { data := #[] }, .slice none 0 0, .int .i64 0, .int .i64 0, .int .i64 0, .bool false, .bool false, .bool false, .int .i64 0, .int .i64 0, .int .i64 0, .int .i64 0, .int .i64 0, .int .i64 0] 37)
  rw [hw1] at b1
  have BN := fun W => Lib.hid (build_new i W)
  have ST := Lib.hid (store_node (newN i) none 0 0 b1 rfl)
  have HB := Lib.hid b1
  have HG := Lib.hid g1
  clear b1 g1
  have t0 : (0 : Int) ≤ (i : Int) := by omega
  have t1 : (i : Int) < 3 := by omega
  have w3 : ((i : Int) + 3) % 3 = (i : Int) := by omega
  have w4 : (i : Int) % 3 = (i : Int) := by omega
  go_enter Try.func16, Try.ntmps16
  go_wp2_with (first | (refine wpList_build2 rfl 37 0 2 _ _ rfl _ _ _ (BN _).out (by go_simp; try with_reducible rfl) rfl ?_) | (refine wpList_store_at rfl 37 _ _ rfl _ _ _ ST.out (by go_simp; try with_reducible rfl) rfl ?_))
  refine bodyPost_ret (v := (newN i).val (.slice none 0 0)) (results_node rfl _ _ w.heap.size (newN i) (.slice none 0 0) rfl (row_at HB.out)) rfl ⟨rfl, only_step HG.out (only_row _) (fun k hk => by cases hk; exact .inr (Nat.le_refl _))⟩
end Go.Proofs.Ytjhnipnocjoelaa
