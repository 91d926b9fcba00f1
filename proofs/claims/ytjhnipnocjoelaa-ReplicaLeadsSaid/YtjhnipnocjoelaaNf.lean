/- Package replica's begin, termAt; plain.List of entries. Conditions: numbers below 2^40, logs shorter than 2^32. -/
import Derived.Test.YtjhnipnocjoelaaNe
import Derived.Deep.WholeRow
namespace Go.Proofs.Ytjhnipnocjoelaa
open Go.RowKit Go.Deep
theorem elist_any (A : Option Addr) (c : Nat) (l : List (Int × ByteArray)) (w : World) (h : Has w w.heap.size A (es l)) (hl : l.length ≤ 4294967296) :
    Calls Try.prog 48 #[.slice A l.length c] w fun e w' => ∃ v, e = .returned v ∧ w'.ownsRow w.heap.size 49 2 v l.length (es l) ∧ w.grownBy w' none := by
  have hsz : (Try.prog.info? 49).map (·.size) = some 2 := by kernel_rfl
  rcases Nat.eq_zero_or_pos l.length with h0 | h0
  · have hl0 : l = [] := List.eq_nil_of_length_eq_zero h0
    subst hl0
    clear h
    go_enter Try.func48, Try.ntmps48
    go_wp2_with fail
    go_ret
    exact ⟨_, rfl, World.ownsRow_nil w _ _ 2, only_refl _ _⟩
  · have hmk := run_make_wide (P := Try.prog) w 23 49 (.agg #[.int .i64 0, .string { data := #[] }]) 2 24 Try.underlying23 Try.info_entry .i64 .i64 l.length (by omega) (by unfold maxLen; omega)
    obtain ⟨row, hrow⟩ : ∃ row, row = madeCells (Value.agg #[.int .i64 0, .string { data := #[] }]).cells (l.length * 2) := ⟨_, rfl⟩
    have hrs : row.size = l.length * 2 := by rw [hrow]; exact size_madeCells _ _
    rw [← hrow] at hmk
    clear hrow
    have hnew := heap_alloc_new w (.cells row 49)
    obtain ⟨b, off, rfl, hb, hc⟩ : ∃ b off, A = some ⟨b, off, none⟩ ∧ b < w.heap.size ∧ ∀ j u, (es l)[j]? = some u → w.cell? ⟨b, off + j, none⟩ = some u := by
      rcases h with h | h
      · have := congrArg List.length h; rw [es_len, List.length_nil] at this; omega
      · exact h
    have hsrc : ∀ j v, (es l)[j]? = some v → (w.alloc (.cells row 49)).cell? ((⟨b, off, none⟩ : Addr).add j) = some v := fun j v hv => by
      rw [Addr.add_lit]
      exact (World.cell?_alloc_lt _ _ _ hb).trans (hc j v hv)
    have hne : ((l.length : Int) == 0) = false := by rw [beq_eq_false_iff_ne]; omega
    go_enter Try.func48, Try.ntmps48
    go_wp2_with (with_reducible refine wpList_copy_wide _ rfl _ _ 23 23 rfl 49 2 Try.underlying23 hsz w.heap.size 0 l.length l.length ⟨b, off, none⟩ l.length c rfl rfl row 49 hnew (es l) (by rw [es_len]; simp) hsrc (by rw [es_len, hrs]; omega) (es_one l) ?_)
    go_ret
    rw [World.setRow_alloc_new]
    refine ⟨_, rfl, ⟨es_len l, .inr ⟨w.heap.size, l.length, _, rfl, Nat.le_refl _, heap_alloc_new w _, Nat.le_refl _, by unfold maxLen; omega, ?_, ?_⟩⟩, World.grownBy_alloc w _ none⟩
    · simp [es_len, hrs]
    · simp [es_len]
theorem only_row {w : World} {b : Nat} (cs : Array Value) : w.grownBy (w.setRow b cs) (some b) := by
  refine ⟨rfl, rfl, rfl, by simp [World.setRow], fun k hk hne => ?_⟩
  have : b ≠ k := fun e => hne (by rw [e])
  simp [World.setRow, Array.getElem?_modify, this]
theorem run_copy_nil {P : Program} (w : World) (dT sT ty elem : TypeId) (s : Nat) (g o dLen dCap c : Nat) (hu : P.underlying dT = some (.slice elem)) (hs : (P.info? elem).map (·.size) = some s) :
    (Builtin.copy_ #[dT, sT] ty #[.slice (some ⟨g, o, none⟩) dLen dCap, .slice none 0 c]).run P w = .ok (goInt 0) w := by
  cases hq : P.info? elem with
  | none => simp [hq] at hs
  | some i =>
    simp [Builtin.copy_, run_underlying hu, Builtin.lenOf, Builtin.firstCells, sizeOf, typeInfo, hq, storeCells]
/-- What begin does behind the copy. -/
structure Bg (w W : World) (b : Nat) (n : Nd) (L v : Value) : Prop where
  box : W.heap[b]? = some (.cells (n.cells L) 37 (0, 0))
  row : W.ownsRow (b + 1) 49 2 v n.log.length (es n.log)
  gr : w.grownBy W none
  lt : w.heap.size ≤ b
section
variable {w W : World} {b : Nat} {n : Nd} {L v : Value}
theorem Bg.all (h : Bg w W b n L v) : W.cell? ⟨b, 0, none⟩ = some (.int .i64 n.id) ∧ W.cell? ⟨b, 1, none⟩ = some (.int .i64 n.term) ∧ W.cell? ⟨b, 2, none⟩ = some (.int .i64 n.vote) ∧ W.cell? ⟨b, 3, none⟩ = some (.int .i64 n.base) ∧ W.cell? ⟨b, 4, none⟩ = some (.int .i64 n.bt) ∧
    W.cell? ⟨b, 5, none⟩ = some (.string n.snap) ∧ W.cell? ⟨b, 6, none⟩ = some L ∧ W.cell? ⟨b, 7, none⟩ = some (.int .i64 n.role) ∧ W.cell? ⟨b, 8, none⟩ = some (.int .i64 n.cm) ∧ W.cell? ⟨b, 9, none⟩ = some (.int .i64 n.wait) ∧ W.cell? ⟨b, 10, none⟩ = some (.bool n.v0) ∧ W.cell? ⟨b, 11, none⟩ = some (.bool n.v1) ∧ W.cell? ⟨b, 12, none⟩ = some (.bool n.v2) ∧
    W.cell? ⟨b, 13, none⟩ = some (.int .i64 n.x0) ∧ W.cell? ⟨b, 14, none⟩ = some (.int .i64 n.x1) ∧ W.cell? ⟨b, 15, none⟩ = some (.int .i64 n.x2) ∧ W.cell? ⟨b, 16, none⟩ = some (.int .i64 n.y0) ∧ W.cell? ⟨b, 17, none⟩ = some (.int .i64 n.y1) ∧ W.cell? ⟨b, 18, none⟩ = some (.int .i64 n.y2) := by
  have h := h.box
  simp [World.cell?, h, Nd.cells]
theorem Bg.node (h : Bg w W b n L v) : (Instr.loadAt 37 (.pointer (some ⟨b, 0, none⟩))).run Try.prog W = .ok (n.val L) W :=
  load_agg (cs := n.cells L) (fun j u hu => by
    rw [Nat.zero_add]
    simp [World.cell?, h.box, hu]) Try.underlying37 rfl (by kernel_rfl)
theorem Bg.fr (h : Bg w W b n L v) (k : Nat) : W.frozen? ⟨b, k, none⟩ = false := by simp [World.frozen?, h.box]
theorem Bg.log (h : Bg w W b n L v) (L' : Value) : Bg w (W.setCell ⟨b, 6, none⟩ L') b n L' v := by
  have hg : W.grownBy (W.setCell ⟨b, 6, none⟩ L') (some b) := only_set (only_refl W (some b)) (.inl rfl) L'
  refine ⟨?_, own_blk h.row (fun k hk => hg.block k (h.row.lt k hk).2 (fun e => by injection e with e; have := (h.row.lt k hk).1; omega)), only_step h.gr hg (fun k hk => by cases hk; exact .inr h.lt), h.lt⟩
  have : (W.setCell ⟨b, 6, none⟩ L').heap[b]? = some (.cells ((n.cells L).setIfInBounds 6 L') 37 (0, 0)) := by simp [World.setCell, Array.getElem?_modify, h.box]
  rw [this]; rfl
/-- The draft is laid. -/
theorem Bg.draft (h : Bg w W b n v v) {cs : Array Value} (hcs : cs = (n.cells v |>.push (.slice none 0 0))) : Dr (W.alloc (.cells cs 87)) (fun k => k < w.heap.size) W.heap.size n [] ∧ w.grownBy (W.alloc (.cells cs 87)) none := by
  subst hcs
  have hg := World.grownBy_alloc W (.cells (n.cells v |>.push (.slice none 0 0)) 87) none
  have hz := h.gr.size
  refine ⟨⟨v, .slice none 0 0, heap_alloc_new W _, own_less (own_blk h.row (fun k hk => hg.block k (h.row.lt k hk).2 (by simp))) (Nat.zero_le _), World.ownsRow_nil _ _ _ _, fun k hk => ⟨by simp; omega, by omega, fun e => ?_, by simp [Value.ownBlock]⟩⟩, only_step h.gr hg (fun _ h => .inl h)⟩
  have := (h.row.lt k e).1
  have := h.lt
  omega
end
set_option maxRecDepth 100000 in
set_option maxHeartbeats 8000000 in
theorem begin_any (n : Nd) (A : Option Addr) (c : Nat) (w : World) (h : Has w w.heap.size A (es n.log)) (hl : n.log.length ≤ 4294967296) :
    Calls Try.prog 33 #[n.val (.slice A n.log.length c)] w fun e w' => ∃ g, e = .returned (.pointer (some ⟨g, 0, none⟩)) ∧ Dr w' (fun k => k < w.heap.size) g n [] ∧ w.grownBy w' none := by
  have hsz : (Try.prog.info? 49).map (·.size) = some 2 := by kernel_rfl
  obtain ⟨w1, hw1⟩ : ∃ w1, w.alloc (.cells (n.cells (.slice A n.log.length c)) 37) = w1 := ⟨_, rfl⟩
  have g1 : w.grownBy w1 none := by subst hw1; exact World.grownBy_alloc w _ none
  have z1 : w1.heap.size = w.heap.size + 1 := by subst hw1; simp
  have n1 : w1.heap[w.heap.size]? = some (.cells (n.cells (.slice A n.log.length c)) 37 (0, 0)) := by subst hw1; exact heap_alloc_new w _
  obtain ⟨row, hrow⟩ : ∃ row, row = madeCells (Value.agg #[.int .i64 0, .string { data := #[] }]).cells (n.log.length * 2) := ⟨_, rfl⟩
  have hrs : row.size = n.log.length * 2 := by rw [hrow]; exact size_madeCells _ _
  have hmk := run_make_wide (P := Try.prog) w1 23 49 (.agg #[.int .i64 0, .string { data := #[] }]) 2 24 Try.underlying23 Try.info_entry .i64 .i64 n.log.length (by omega) (by unfold maxLen; omega)
  rw [← hrow] at hmk
  obtain ⟨w2, hw2⟩ : ∃ w2, w1.alloc (.cells row 49) = w2 := ⟨_, rfl⟩
  have g2 : w.grownBy w2 none := by subst hw2; exact only_alloc g1 _
  have b1 : w2.heap[w.heap.size]? = some (.cells (n.cells (.slice A n.log.length c)) 37 (0, 0)) := by subst hw2; exact ((World.grownBy_alloc w1 (.cells row 49) none).block _ (by omega) (by simp)).trans n1
  have r1 : w2.heap[w.heap.size + 1]? = some (.cells row 49 (0, 0)) := by subst hw2; rw [← z1]; exact heap_alloc_new w1 _
  rw [hw2, z1] at hmk
  have bg0 : ∀ cs : Array Value, cs.toList = es n.log → Bg w (w2.setRow (w.heap.size + 1) cs) w.heap.size n (.slice A n.log.length c) (.slice (some ⟨w.heap.size + 1, 0, none⟩) n.log.length n.log.length) := fun cs hcs => by
    have hcz : cs.size = n.log.length * 2 := by rw [← Array.length_toList, hcs, es_len]
    have hg := only_row (w := w2) (b := w.heap.size + 1) cs
    refine ⟨(hg.block _ (Array.getElem?_eq_some_iff.1 b1).1 (fun e => by injection e with e; omega)).trans b1, ⟨es_len n.log, .inr ⟨w.heap.size + 1, n.log.length, cs, rfl, Nat.le_refl _, ?_, Nat.le_refl _, by unfold maxLen; omega, hcz, by rw [hcs, ← es_len, List.take_length]⟩⟩, only_step g2 hg (fun k hk => by cases hk; exact .inr (by omega)), Nat.le_refl _⟩
    simp [World.setRow, Array.getElem?_modify, r1]
  have c61 : w1.cell? ⟨w.heap.size, 6, none⟩ = some (.slice A n.log.length c) := by simp [World.cell?, n1, Nd.cells]
  have c62 : w2.cell? ⟨w.heap.size, 6, none⟩ = some (.slice A n.log.length c) := by simp [World.cell?, b1, Nd.cells]
  have HBG := Lib.hid bg0
  have HB1 := Lib.hid b1
  have HR1 := Lib.hid (And.intro hrs (And.intro r1 (And.intro g2 hl)))
  unfold Nd.cells at hw1
  unfold Nd.val
  obtain ⟨wb, hwb⟩ : ∃ wb, w.heap.size = wb := ⟨_, rfl⟩
  clear hrow bg0 z1 n1 b1 g1 g2
  have tail : ∀ (W : World) (v : Value), Bg w W w.heap.size n v v → True := fun _ _ _ => trivial
  clear hw2 tail hwb
  rcases Nat.eq_zero_or_pos n.log.length with h0 | h0
  · as_aux_lemma =>
    have he : n.log = [] := List.eq_nil_of_length_eq_zero h0
    have hr0 : row = #[] := Array.eq_empty_of_size_eq_zero (by rw [hrs, h0])
    subst hr0
    rw [h0] at hmk c61 c62 hw1
    rw [h0]
    rw [show ((0 : Nat) : Int) = 0 from rfl] at hmk
    have bg1 := HBG.out #[] (by rw [he]; rfl)
    have hset : w2.setRow (w.heap.size + 1) #[] = w2 ∨ True := .inr trivial
    have hcp : ∃ w3, (Builtin.copy_ #[23, 23] 3 #[.slice (some ⟨w.heap.size + 1, 0, none⟩) 0 0, .slice A 0 c]).run Try.prog w2 = .ok (goInt 0) w3 ∧ Bg w w3 w.heap.size n (.slice A n.log.length c) (.slice (some ⟨w.heap.size + 1, 0, none⟩) n.log.length n.log.length) := by
      cases A with
      | none => exact ⟨w2, run_copy_nil w2 _ _ _ _ 2 _ _ _ _ _ Try.underlying23 hsz, ⟨HB1.out, ⟨by rw [he]; rfl, .inr ⟨w.heap.size + 1, n.log.length, #[], rfl, Nat.le_refl _, r1, Nat.le_refl _, by unfold maxLen; omega, by rw [h0]; rfl, by rw [he]; rfl⟩⟩, HR1.out.2.2.1, Nat.le_refl _⟩⟩
      | some a => exact ⟨_, run_copy_wide w2 _ _ _ _ 2 (w.heap.size + 1) 0 0 0 a 0 c #[] 49 [] Try.underlying23 hsz r1 rfl (fun j v hv => by cases hv) (Nat.le_refl _) (fun v hv => by cases hv), bg1⟩
    obtain ⟨w3, hcp, bg3⟩ := hcp
    rw [h0] at bg3
    have BGX := Lib.hid bg3
    clear hrs r1 he h bg1 hset bg3
    go_enter Try.func33, Try.ntmps33
    go_upto_region 3 with fail
    have bg3 := BGX.out
    clear BGX
    have f6 := bg3.fr 6
    have d6 := bg3.all.2.2.2.2.2.2.1
    have BG3 := Lib.hid bg3
    clear bg3
    go_upto_region 4 with fail
    obtain ⟨w4, hw4⟩ : ∃ w4, w3.setCell ⟨w.heap.size, 6, none⟩ (.slice (some ⟨w.heap.size + 1, 0, none⟩) 0 0) = w4 := ⟨_, rfl⟩
    rw [hw4]
    have bg4 := BG3.out.log (.slice (some ⟨w.heap.size + 1, 0, none⟩) 0 0)
    rw [hw4] at bg4
    clear hw4 BG3
    have BG4 := Lib.hid bg4
    have LD := bg4.node
    unfold Nd.val at LD
    have LD := Lib.hid LD
    clear bg4
    have BD := fun W => build_draft n (.slice (some ⟨w.heap.size + 1, 0, none⟩) 0 0) W
    unfold Nd.val at BD
    have BD := fun W => Lib.hid (BD W)
    go_wp2_with (first | (refine wpList_load_at rfl 37 (Operand.tmp 1) rfl _ _ LD.out rfl ?_) | (refine wpList_build1 rfl 87 0 _ rfl _ _ (BD _).out rfl ?_))
    go_ret
    exact ⟨w4.heap.size, rfl, BG4.out.draft (by simp [Nd.cells])⟩
  · as_aux_lemma =>
    obtain ⟨b, off, rfl, hb, hc⟩ : ∃ b off, A = some ⟨b, off, none⟩ ∧ b < w.heap.size ∧ ∀ j u, (es n.log)[j]? = some u → w.cell? ⟨b, off + j, none⟩ = some u := by
      rcases h with h | h
      · have := congrArg List.length h; rw [es_len, List.length_nil] at this; omega
      · exact h
    have hsrc : ∀ j v, (es n.log)[j]? = some v → w2.cell? ((⟨b, off, none⟩ : Addr).add j) = some v := fun j v hv => by
      rw [Addr.add_lit]
      exact (World.cell?_of_block (HR1.out.2.2.1.block b hb (by simp))).trans (hc j v hv)
    clear hc h
    go_enter Try.func33, Try.ntmps33
    go_upto_region 3 with (with_reducible refine wpList_copy_wide _ rfl _ _ 23 23 rfl 49 2 Try.underlying23 hsz (w.heap.size + 1) 0 n.log.length n.log.length ⟨b, off, none⟩ n.log.length c rfl rfl row 49 r1 (es n.log) (by rw [es_len]; simp) hsrc (by rw [es_len, hrs]; omega) (es_one n.log) ?_)
    obtain ⟨w3, hw3⟩ : ∃ w3, w2.setRow (w.heap.size + 1) (List.take 0 row.toList ++ es n.log ++ List.drop (0 + (es n.log).length) row.toList).toArray = w3 := ⟨_, rfl⟩
    have bg3 := HBG.out (List.take 0 row.toList ++ es n.log ++ List.drop (0 + (es n.log).length) row.toList).toArray (by
      have : List.drop (0 + (es n.log).length) row.toList = [] := List.drop_eq_nil_of_le (by rw [es_len, Array.length_toList, hrs]; omega)
      show List.take 0 row.toList ++ es n.log ++ List.drop (0 + (es n.log).length) row.toList = es n.log
      rw [this, List.take_zero, List.nil_append, List.append_nil])
    rw [hw3] at bg3
    rw [hw3]
    clear hw3
    have f6 := bg3.fr 6
    have d6 := bg3.all.2.2.2.2.2.2.1
    have BG3 := Lib.hid bg3
    clear bg3
    go_upto_region 4 with fail
    obtain ⟨w4, hw4⟩ : ∃ w4, w3.setCell ⟨w.heap.size, 6, none⟩ (.slice (some ⟨w.heap.size + 1, 0, none⟩) n.log.length n.log.length) = w4 := ⟨_, rfl⟩
    rw [hw4]
    have bg4 := BG3.out.log (.slice (some ⟨w.heap.size + 1, 0, none⟩) n.log.length n.log.length)
    rw [hw4] at bg4
    clear hw4 BG3
    have BG4 := Lib.hid bg4
    have LD := bg4.node
    unfold Nd.val at LD
    have LD := Lib.hid LD
    clear bg4
    have BD := fun W => build_draft n (.slice (some ⟨w.heap.size + 1, 0, none⟩) n.log.length n.log.length) W
    unfold Nd.val at BD
    have BD := fun W => Lib.hid (BD W)
    go_wp2_with (first | (refine wpList_load_at rfl 37 (Operand.tmp 1) rfl _ _ LD.out rfl ?_) | (refine wpList_build1 rfl 87 0 _ rfl _ _ (BD _).out rfl ?_))
    go_ret
    exact ⟨w4.heap.size, rfl, BG4.out.draft (by simp [Nd.cells])⟩
end Go.Proofs.Ytjhnipnocjoelaa
