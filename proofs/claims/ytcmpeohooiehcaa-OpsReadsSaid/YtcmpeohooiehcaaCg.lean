/- Package parts' Op: an operation read, whatever the bytes. Conditions: fewer than 2^40 bytes. -/
import Derived.Test.YtcmpeohooiehcaaCf
namespace Go.Proofs.Ytcmpeohooiehcaa
open Go.RowKit Go.Deep Go.ChangeShapes
/-- append onto a row of dots of the call's own, at a step of a region that draws its order. -/
theorem step_app_d {w : World} {ops : Array Oper} {o : Oper} {a : Act} {K : Act → World → Prop} {Q : Exit → Act → World → Prop} {E : Prop} (hgd : o.guard = none) (s x : Operand) (tx : TypeId)
    (ho : o.op = .call { callee := .builtin .append, args := #[s, x], argTypes := #[24, tx] })
    (base : Nat) (v : Value) (n : Nat) (xs : List Value) (hs : a.eval s = v) (hown : w.ownsRow base 23 3 v n xs) (u : Value) (m : Nat) (news : List Value) (hu : a.eval x = u) (hsrc : Src Try.prog 3 tx u m news w)
    (hlen : n + m ≤ 2199023255552) (hbase : base ≤ w.heap.size)
    (h : ∀ v' w', GrewW w w' base 23 3 v v' (n + m) (xs ++ news) → K (a.put o.dst v') w') : if Region.wanted o (yielded ops a.tmps) = true then Oper.wp Try.prog o a w K Q else E := by
  have hw : Region.wanted o (yielded ops a.tmps) = true := by simp [Region.wanted, hgd]
  rw [if_pos hw]
  obtain ⟨i, hi, hzz⟩ := Option.map_eq_some_iff.1 Try.info_dot
  simp only [Prod.mk.injEq] at hzz
  obtain ⟨hz, hsz, hb⟩ := hzz
  obtain ⟨v', w', hrun, hgr⟩ := run_append_wide (P := Try.prog) w base 24 tx o.type 23 i _ 24 3 Try.underlying24 hi hz hsz hb rfl v n xs hown u m news hsrc (by unfold maxLen; omega) (by omega) hbase
  unfold Oper.wp execOp
  simp only [ho, resolve, invoke, builtin, Sem.run_bind, Sem.run_pure, Result.andThen_ok, List.map_toArray, List.map_cons, List.map_nil, hs, hu, hrun]
  exact h v' w' hgr
/-- What reading an operation hands back. -/
def ReadP (w : World) (g : Nat) (s : RS) (e : Ending) (w' : World) : Prop := ∃ (AL : Option Addr) (cL : Nat), e = .returned (.agg #[.int .i64 (vI s), .int .i64 (vI (stI s)), .int .i64 (vI (stI (stI s))), .int .i64 (vI (t1 s)), .int .i64 (vI (t2 s)), .int .i64 (vI (t3 s)), .string (vT (t5 s)), .string (vT (t6 s)), .int .i64 (vI (t7 s)), .int .i64 (vI (t4 s)), .slice AL (cntS s) cL]) ∧ w'.ownsRow w.heap.size 23 3 (.slice AL (cntS s) cL) (cntS s) (dc (rdots s)) ∧ Rp w' g (endS s) ∧ w.grownBy w' (some g)
theorem cnt_is (s : RS) : (if 0 ≤ vI (t8 s) ∧ vI (t8 s) ≤ 8 then vI (t8 s) else 0) = (cntS s : Int) := by
  unfold cntS
  split <;> omega
theorem grown_op {w w' : World} {base n m : Nat} {v v' : Value} {xs ys : List Value} {b : Nat} {d e sq coll ver kind : Int} {key text : ByteArray} {nn time : Int} {u : Value} (g : GrewW w w' base 23 3 v v' m ys) (h : w.ownsRow base 23 3 v n xs) (hb : OpB w b d e sq coll ver kind key text nn time u) : OpB w' b d e sq coll ver kind key text nn time u :=
  hb.other g.only (fun e => by
    rcases own_apart h hb with h1 | h1
    · rw [h1] at e; cases e
    · exact h1 e)
theorem rp_grown {w w' : World} {base n m g : Nat} {v v' : Value} {xs ys : List Value} {s : RS} (hp : Rp w g s) (k : GrewW w w' base 23 3 v v' m ys) (h : w.ownsRow base 23 3 v n xs) (hg : g < base) : Rp w' g s :=
  ⟨hp.1.only k.only (fun q e => by have := (h.lt q e).1; omega), hp.2⟩
theorem fill4 (d0 d1 d2 : Int) (a b : ByteArray) (s : RS) (k : Nat) : ∀ o ∈ ([3, 4, 5, 9] : List Nat), ∃ n, (fillK [.int .i64 d0, .int .i64 d1, .int .i64 d2, .int .i64 0, .int .i64 0, .int .i64 0, .string a, .string b, .int .i64 0, .int .i64 0, .slice none 0 0] [3, 4, 5, 9] s k)[o]? = some (.int .i64 n) := by
  induction k with
  | zero =>
    intro o ho
    simp only [List.mem_cons, List.not_mem_nil, or_false] at ho
    rcases ho with rfl | rfl | rfl | rfl <;> exact ⟨0, rfl⟩
  | succ k ih =>
    intro o ho
    obtain ⟨n, hn⟩ := ih o ho
    rw [fillK]
    by_cases e : ([3, 4, 5, 9] : List Nat)[k]?.getD 0 = o
    · refine ⟨vI (stN k s), ?_⟩
      rw [← e, List.getElem?_set_self (by rw [fillK_len, e]; simp only [List.mem_cons, List.not_mem_nil, or_false] at ho; simp only [List.length_cons, List.length_nil]; omega)]
    · exact ⟨n, by rw [List.getElem?_set_ne e]; exact hn⟩
set_option maxRecDepth 100000 in
set_option maxHeartbeats 4000000 in
theorem pop_any (g : Nat) (s : RS) (w : World) (h : Rp w g s) : Calls Try.prog 40 #[.pointer (some ⟨g, 0, none⟩)] w (ReadP w g s) := by
  have H := Lib.hid h
  have HLT := Lib.hid h.lt
  clear h
  obtain ⟨w1, hw1⟩ : ∃ Z, w.alloc (.cells #[.int .i64 0, .int .i64 0, .int .i64 0, .int .i64 0, .int .i64 0, .int .i64 0, .string { data := #[] }, .string { data := #[] }, .int .i64 0, .int .i64 0, .slice none 0 0] 26) = Z := ⟨_, rfl⟩
  have R1 : OpB w1 w.heap.size 0 0 0 0 0 0 { data := #[] } { data := #[] } 0 0 (.slice none 0 0) := by subst hw1; exact heap_alloc_new w _
  have g1 : w.grownBy w1 none := by subst hw1; exact World.grownBy_alloc w _ none
  go_enter Try.func40, Try.ntmps40
  go_wp2_with fail
  clear hw1
  refine (pdot_any g s w1 (H.out.off g1)).mono ?_
  rintro _ w2 ⟨rfl, P2, g2⟩
  have G2 : w.grownBy w2 (some g) := only_step (only_none g1 _) g2 (fun _ h => .inl h)
  have R2 := R1.other g2 (by intro e; injection e with e; have := HLT.out; omega)
  have HP2 := Lib.hid P2
  have z2 := R2.lt
  clear P2 R1 g1 g2
  go_wp2_with fail
  obtain ⟨d0, hd0⟩ : ∃ x, (dotV s).1 = x := ⟨_, rfl⟩
  obtain ⟨d1, hd1⟩ : ∃ x, (dotV s).2.1 = x := ⟨_, rfl⟩
  obtain ⟨d2, hd2⟩ : ∃ x, (dotV s).2.2 = x := ⟨_, rfl⟩
  rw [hd0, hd1, hd2]
  obtain ⟨w4, hw4⟩ : ∃ Z, (w2.alloc (.cells #[.int .i64 d0, .int .i64 d1, .int .i64 d2, .int .i64 0, .int .i64 0, .int .i64 0, .string { data := #[] }, .string { data := #[] }, .int .i64 0, .int .i64 0, .slice none 0 0] 26)).alloc (.cells #[.pointer (some ⟨w2.heap.size, 3, none⟩), .pointer (some ⟨w2.heap.size, 4, none⟩), .pointer (some ⟨w2.heap.size, 5, none⟩), .pointer (some ⟨w2.heap.size, 9, none⟩)] 85) = Z := ⟨_, rfl⟩
  have O4 : OpB w4 w2.heap.size d0 d1 d2 0 0 0 { data := #[] } { data := #[] } 0 0 (.slice none 0 0) := by subst hw4; exact (Below.heap_alloc _ _ _ (by simp)).trans (heap_alloc_new w2 _)
  have p4 : w4.heap[w2.heap.size + 1]? = some (.cells (([3, 4, 5, 9] : List Nat).map fun o => Value.pointer (some ⟨w2.heap.size, o, none⟩)).toArray 85 (0, 0)) := by
    subst hw4
    have := heap_alloc_new (w2.alloc (.cells #[.int .i64 d0, .int .i64 d1, .int .i64 d2, .int .i64 0, .int .i64 0, .int .i64 0, .string { data := #[] }, .string { data := #[] }, .int .i64 0, .int .i64 0, .slice none 0 0] 26)) (.cells #[.pointer (some ⟨w2.heap.size, 3, none⟩), .pointer (some ⟨w2.heap.size, 4, none⟩), .pointer (some ⟨w2.heap.size, 5, none⟩), .pointer (some ⟨w2.heap.size, 9, none⟩)] 85)
    rwa [World.size_alloc] at this
  have g4 : w2.grownBy w4 none := by subst hw4; exact only_alloc (only_alloc (only_refl _ _) _) _
  rw [hw4]
  clear hw4
  have R4 := R2.other g4 (by simp)
  have hz : w.heap.size < w2.heap.size := z2
  have ob : Hid (w.heap.size < w2.heap.size ∧ g < w2.heap.size) := ⟨z2, by have := HLT.out; omega⟩
  refine (fill_any g w2.heap.size (w2.heap.size + 1) 26 [3, 4, 5, 9] [.int .i64 d0, .int .i64 d1, .int .i64 d2, .int .i64 0, .int .i64 0, .int .i64 0, .string { data := #[] }, .string { data := #[] }, .int .i64 0, .int .i64 0, .slice none 0 0] (s3 s) w4 (HP2.out.off g4) O4 ob.out.2 p4 ⟨by omega, by have := ob.out.2; omega⟩ (fun k => fill4 _ _ _ _ _ _ k) (by simp)).mono ?_
  rintro _ w5 ⟨rfl, P5, O5, T5⟩
  have O5 : OpB w5 w2.heap.size d0 d1 d2 (vI (t1 s)) (vI (t2 s)) (vI (t3 s)) { data := #[] } { data := #[] } 0 (vI (t4 s)) (.slice none 0 0) := O5
  have P5 : Rp w5 g (t5 s) := P5
  have R5 : OpB w5 w.heap.size 0 0 0 0 0 0 { data := #[] } { data := #[] } 0 0 (.slice none 0 0) := (T5.block w.heap.size (by have := g4.size; omega) (by have := HLT.out; omega) (by omega)).trans R4
  have G5 : w.grownBy w5 (some g) := ⟨T5.os.trans (g4.os.trans G2.os), T5.tape.trans (g4.tape.trans G2.tape), T5.output.trans (g4.output.trans G2.output), Nat.le_trans G2.size (Nat.le_trans g4.size T5.size), fun i hi hne => (T5.block i (by have := G2.size; have := g4.size; omega) (fun e => hne (by rw [e])) (by omega)).trans ((g4.block i (by have := G2.size; omega) (by simp)).trans (G2.block i hi hne))⟩
  clear R2 R4 O4 p4 g4 G2 T5 hz z2
  go_wp2_with fail
  refine (rpText g (t5 s) w5 P5).mono ?_
  rintro _ w6 ⟨rfl, P6, g6⟩
  have O6 := O5.other g6 (by intro e; injection e with e; have := ob.out.2; omega)
  have R6 := R5.other g6 (by intro e; injection e with e; have := HLT.out; omega)
  have G6 : w.grownBy w6 (some g) := only_step G5 g6 (fun _ h => .inl h)
  have P6 : Rp w6 g (t6 s) := P6
  clear O5 R5 G5 P5 g6
  go_wp2_with fail
  refine (rpText g (t6 s) w6 P6).mono ?_
  rintro _ w7 ⟨rfl, P7, g7⟩
  have O7 := O6.other g7 (by intro e; injection e with e; have := ob.out.2; omega)
  have R7 := R6.other g7 (by intro e; injection e with e; have := HLT.out; omega)
  have G7 : w.grownBy w7 (some g) := only_step G6 g7 (fun _ h => .inl h)
  have P7 : Rp w7 g (t7 s) := P7
  clear O6 R6 G6 P6 g7
  obtain ⟨c0, c1, c2, c3, c4, c5, c6, c7, c8, c9, c10⟩ := O7.cells
  have f6 := O7.fr 6
  have f7 := O7.fr 7
  go_wp2_with fail
  obtain ⟨w8, hw8⟩ : ∃ Z, (w7.setCell ⟨w2.heap.size, 6, none⟩ (.string (vT (t5 s)))).setCell ⟨w2.heap.size, 7, none⟩ (.string (vT (t6 s))) = Z := ⟨_, rfl⟩
  have O8 : OpB w8 w2.heap.size d0 d1 d2 (vI (t1 s)) (vI (t2 s)) (vI (t3 s)) (vT (t5 s)) (vT (t6 s)) 0 (vI (t4 s)) (.slice none 0 0) := by subst hw8; exact (O7.set6 _).set7 _
  have g8 : w7.grownBy w8 (some w2.heap.size) := by subst hw8; exact set_at (set_at (only_refl _ _) 6 _) 7 _
  rw [hw8]
  clear hw8 c0 c1 c2 c3 c4 c5 c6 c7 c8 c9 c10 f6 f7
  have P8 := P7.later g8 ob.out.2
  have R8 := R7.other g8 (by intro e; injection e with e; have := ob.out.1; omega)
  have G8 : w.grownBy w8 (some g) := only_step G7 g8 (fun k hk => by cases hk; right; have := ob.out.1; omega)
  clear O7 R7 G7 P7 g8
  refine (rpInt g (t7 s) w8 P8).mono ?_
  rintro _ w9 ⟨rfl, P9, g9⟩
  have O9 := O8.other g9 (by intro e; injection e with e; have := ob.out.2; omega)
  have R9 := R8.other g9 (by intro e; injection e with e; have := HLT.out; omega)
  have G9 : w.grownBy w9 (some g) := only_step G8 g9 (fun _ h => .inl h)
  have P9 : Rp w9 g (t8 s) := P9
  clear O8 R8 G8 P8 g9
  obtain ⟨c0, c1, c2, c3, c4, c5, c6, c7, c8, c9, c10⟩ := O9.cells
  have f8 := O9.fr 8
  go_wp2_with fail
  obtain ⟨wa, hwa⟩ : ∃ Z, w9.setCell ⟨w2.heap.size, 8, none⟩ (.int .i64 (vI (t7 s))) = Z := ⟨_, rfl⟩
  have Oa : OpB wa w2.heap.size d0 d1 d2 (vI (t1 s)) (vI (t2 s)) (vI (t3 s)) (vT (t5 s)) (vT (t6 s)) (vI (t7 s)) (vI (t4 s)) (.slice none 0 0) := by subst hwa; exact O9.set8 _
  have ga : w9.grownBy wa (some w2.heap.size) := by subst hwa; exact set_at (only_refl _ _) 8 _
  rw [hwa]
  clear hwa c0 c1 c2 c3 c4 c5 c6 c7 c8 c9 c10 f8
  have Pa := P9.later ga ob.out.2
  have Ra := R9.other ga (by intro e; injection e with e; have := ob.out.1; omega)
  have Ga : w.grownBy wa (some g) := only_step G9 ga (fun k hk => by cases hk; right; have := ob.out.1; omega)
  clear O9 R9 G9 P9 ga
  refine (count_any g (t8 s) wa Pa).mono ?_
  rintro _ wb ⟨rfl, Pb, gb⟩
  rw [cnt_is]
  have Ob := Lib.hid (Oa.other gb (by intro e; injection e with e; have := ob.out.2; omega))
  have Rb := Lib.hid (Ra.other gb (by intro e; injection e with e; have := HLT.out; omega))
  have Gb : Hid (w.grownBy wb (some g)) := only_step Ga gb (fun _ h => .inl h)
  have Pb : Hid (Rp wb g (t10 s)) := Pb
  clear Oa Ra Ga Pa gb
  obtain ⟨F3, hF3⟩ : ∃ x, vI (t1 s) = x := ⟨_, rfl⟩
  obtain ⟨F4, hF4⟩ : ∃ x, vI (t2 s) = x := ⟨_, rfl⟩
  obtain ⟨F5, hF5⟩ : ∃ x, vI (t3 s) = x := ⟨_, rfl⟩
  obtain ⟨F6, hF6⟩ : ∃ x, vT (t5 s) = x := ⟨_, rfl⟩
  obtain ⟨F7, hF7⟩ : ∃ x, vT (t6 s) = x := ⟨_, rfl⟩
  obtain ⟨F8, hF8⟩ : ∃ x, vI (t7 s) = x := ⟨_, rfl⟩
  obtain ⟨F9, hF9⟩ : ∃ x, vI (t4 s) = x := ⟨_, rfl⟩
  rw [hF3, hF4, hF5, hF6, hF7, hF8, hF9] at Ob
  have HF := Lib.hid (And.intro hd0 (And.intro hd1 (And.intro hd2 (And.intro hF3 (And.intro hF4 (And.intro hF5 (And.intro hF6 (And.intro hF7 (And.intro hF8 hF9)))))))))
  clear hd0 hd1 hd2 hF3 hF4 hF5 hF6 hF7 hF8 hF9
  have hc8 := cntS_le s
  obtain ⟨cnt, hcnt⟩ : ∃ x, cntS s = x := ⟨_, rfl⟩
  rw [hcnt] at hc8 ⊢
  have HCN := Lib.hid hcnt
  clear hcnt
  go_wp2_with fail
  go_loopw [26] (fun si wr => ∃ (k : Nat) (AL : Option Addr) (cL : Nat), k ≤ cnt ∧ si = .int .i64 k ∧ Hid (Rp wr g (dotsT k (t10 s))) ∧ Hid (OpB wr w2.heap.size d0 d1 d2 F3 F4 F5 F6 F7 F8 F9 (.slice AL k cL)) ∧ Hid (wr.ownsRow w.heap.size 23 3 (.slice AL k cL) k (dc (dotsV k (t10 s)))) ∧ Hid (OpB wr w.heap.size 0 0 0 0 0 0 { data := #[] } { data := #[] } 0 0 (.slice none 0 0)) ∧ Hid (w.grownBy wr (some g)))
    (fun si _ => cnt - (intOf si).toNat)
  case atStart => exact ⟨0, none, 0, Nat.zero_le _, rfl, Pb, Ob, World.ownsRow_nil _ _ _ _, Rb, Gb⟩
  case round =>
    obtain ⟨k, AL, cL, hk, rfl, HP, HO, HW, HR, HG⟩ := hrel
    by_cases hlt : k < cnt
    · have c10 := HO.out.cells.2.2.2.2.2.2.2.2.2.2
      have hzw := HG.out.size
      go_wp2_with fail
      refine wp_region_late [(7, fun V => V.cell? ⟨w2.heap.size, 10, none⟩ = some (.slice AL k cL))] (by kernel_rfl) ?_
      refine wpAnyT_pure (i := 0) (oi := { dst := some 28, op := Op.fieldAddr 26 (Operand.tmp 3) 8, type := 0, pos := "op.go:27", after := #[], guard := none }) (v := ?_) rfl (by kernel_rfl) (by kernel_rfl) (by kernel_rfl) (by kernel_rfl) (fun _ _ _ h => h) (Or.inl ⟨by rfl, ?_⟩) (holds1 (fun _ => (show wr.drew.cell? ⟨w2.heap.size, 10, none⟩ = some (.slice AL k cL) from c10))) ?_
      rotate_left
      · (intro W; go_simp; try with_reducible rfl)
      try simp only [Act.put, List.setIfInBounds_toArray, List.set_cons_zero, List.set_cons_succ]
      refine wpAnyT_take 3 7 (i := 1) (oi := { dst := some 29, op := Op.load 24 (Operand.tmp 28), type := 24, pos := "op.go:27", after := #[{ on := 0, ground := Ground.data }], guard := none }) (v := ?_) (.head _) rfl (by kernel_rfl) (by kernel_rfl) (by kernel_rfl) (by kernel_rfl) (by kernel_rfl) (by kernel_rfl) (by rfl) (fun _ _ _ h => h) (by rfl) ?_ (holds1 (fun _ => (show wr.drew.cell? ⟨w2.heap.size, 10, none⟩ = some (.slice AL k cL) from c10))) ?_
      rotate_left
      · (intro W hSw; (try dsimp only at hSw); go_simp; try with_reducible rfl)
      try simp only [Act.put, List.setIfInBounds_toArray, List.set_cons_zero, List.set_cons_succ]
      refine wpAnyT_pure (i := 2) (oi := { dst := some 30, op := Op.move (Operand.tmp 0), type := 64, pos := "op.go:27", after := #[], guard := none }) (v := ?_) rfl (by kernel_rfl) (by kernel_rfl) (by kernel_rfl) (by kernel_rfl) (fun _ _ _ h => h) (Or.inl ⟨by rfl, ?_⟩) (holds1 (fun _ => (show wr.drew.cell? ⟨w2.heap.size, 10, none⟩ = some (.slice AL k cL) from c10))) ?_
      rotate_left
      · (intro W; go_simp; try with_reducible rfl)
      try simp only [Act.put, List.setIfInBounds_toArray, List.set_cons_zero, List.set_cons_succ]
      refine wpAnyT_ready (rs := [3]) (by kernel_rfl) (by simp) (AllT.cons (o := { dst := some 31, op := Op.call { callee := Callee.value (Operand.func 51), args := #[Operand.tmp 30], argTypes := #[64] }, type := 23, pos := "op.go:27", after := #[{ on := 2, ground := Ground.data }], guard := none }) rfl (fun K hK => ?_) AllT.nil)
      go_simp
      go_at_call 51
      refine (pdot_any g _ _ (HP.out.off (only_drew (only_refl _ _)))).mono ?_
      rintro _ va ⟨rfl, Pa, ga⟩
      obtain ⟨p, hp⟩ : ∃ x, dotV (dotsT k (t10 s)) = x := ⟨_, rfl⟩
      rw [hp]
      have HPP := Lib.hid hp
      clear hp
      have ga' : wr.grownBy va (some g) := only_step (only_drew (only_refl wr (some g))) ga (fun _ h => .inl h)
      have Oa := HO.out.other ga' (by intro e; injection e with e; have := ob.out.2; omega)
      have Ra := HR.out.other ga' (by intro e; injection e with e; have := HLT.out; omega)
      have Wa := HW.out.kept ga' (by
        cases e : (Value.slice AL k cL).ownBlock with
        | none => exact .inl rfl
        | some q => exact .inr (by intro e2; injection e2 with e2; have := (HW.out.lt q e).1; have := HLT.out; omega))
      refine hK.out _ _ (holds1 (fun _ => Oa.cells.2.2.2.2.2.2.2.2.2.2)) ?_
      clear hK K
      try simp only [Act.put, List.setIfInBounds_toArray, List.set_cons_zero, List.set_cons_succ]
      refine wpAnyT_ready (rs := [4]) (by kernel_rfl) (by simp) (AllT.cons (o := { dst := some 32, op := Op.buildSlice 24 1 #[(0, Operand.tmp 31)], type := 24, pos := "op.go:27", after := #[{ on := 3, ground := Ground.data }], guard := none }) rfl (fun K hK => ?_) AllT.nil)
      go_simp
      obtain ⟨vb, hvb⟩ : ∃ Z, va.alloc (.cells #[.int .i64 p.1, .int .i64 p.2.1, .int .i64 p.2.2] 23) = Z := ⟨_, rfl⟩
      have sb : Hid (Src Try.prog 3 24 (.slice (some ⟨va.heap.size, 0, none⟩) 1 1) 1 (dc [p]) vb) := by subst hvb; exact src_dot va p
      have gb' : va.grownBy vb none := by subst hvb; exact World.grownBy_alloc va _ none
      rw [hvb]
      clear hvb
      have Ob' := Oa.other gb' (by simp)
      have Rb' := Ra.other gb' (by simp)
      have Wb := Wa.kept gb' (by cases (Value.slice AL k cL).ownBlock <;> simp)
      have zva := ga'.size
      have zvb := gb'.size
      refine hK.out _ _ (holds1 (fun _ => Ob'.cells.2.2.2.2.2.2.2.2.2.2)) ?_
      clear hK K
      try simp only [Act.put, List.setIfInBounds_toArray, List.set_cons_zero, List.set_cons_succ]
      refine wpAnyT_ready (rs := [5]) (by kernel_rfl) (by simp) (AllT.cons (o := { dst := some 33, op := Op.call { callee := Callee.builtin Builtin.append, args := #[Operand.tmp 29, Operand.tmp 32], argTypes := #[24, 24] }, type := 24, pos := "op.go:27", after := #[{ on := 1, ground := Ground.data }, { on := 4, ground := Ground.data }, { on := 3, ground := Ground.chain }], guard := none }) rfl (fun K hK => ?_) AllT.nil)
      refine step_app_d rfl _ _ 24 rfl w.heap.size (.slice AL k cL) k (dc (dotsV k (t10 s))) rfl Wb (.slice (some ⟨va.heap.size, 0, none⟩) 1 1) 1 (dc [p]) rfl sb.out (by omega) (by omega) ?_
      intro v3 vc g3
      have Oc := grown_op g3 Wb Ob'
      have Rc := grown_op g3 Wb Rb'
      have W3 := g3.own
      obtain ⟨A3, k3, rfl⟩ := own_slice_w W3
      have fc := Oc.fr 10
      have kc := Oc.cells.2.2.2.2.2.2.2.2.2.2
      refine hK.out _ _ (holds1 (fun _ => kc)) ?_
      clear hK K
      try simp only [Act.put, List.setIfInBounds_toArray, List.set_cons_zero, List.set_cons_succ]
      refine wpAnyT_pure (i := 6) (oi := { dst := some 34, op := Op.fieldAddr 26 (Operand.tmp 3) 8, type := 0, pos := "op.go:27", after := #[{ on := 0, ground := Ground.phase }, { on := 1, ground := Ground.phase }, { on := 2, ground := Ground.phase }, { on := 3, ground := Ground.phase }, { on := 4, ground := Ground.phase }, { on := 5, ground := Ground.phase }], guard := none }) (v := ?_) rfl (by kernel_rfl) (by kernel_rfl) (by kernel_rfl) (by kernel_rfl) (fun _ _ _ h => h) (Or.inl ⟨by rfl, ?_⟩) (holds1 (fun _ => kc)) ?_
      rotate_left
      · (intro W; go_simp; try with_reducible rfl)
      try simp only [Act.put, List.setIfInBounds_toArray, List.set_cons_zero, List.set_cons_succ]
      refine wpAnyT_ready (rs := [7]) (by kernel_rfl) (by simp) (AllT.cons (o := { dst := none, op := Op.store 24 (Operand.tmp 34) (Operand.tmp 33), type := 0, pos := "op.go:27", after := #[{ on := 6, ground := Ground.data }, { on := 5, ground := Ground.data }, { on := 5, ground := Ground.chain }, { on := 0, ground := Ground.phase }, { on := 1, ground := Ground.phase }, { on := 2, ground := Ground.phase }, { on := 3, ground := Ground.phase }, { on := 4, ground := Ground.phase }, { on := 5, ground := Ground.phase }], guard := none }) rfl (fun K hK => ?_) AllT.nil)
      go_simp
      obtain ⟨U, hU⟩ : ∃ Z, vc.setCell ⟨w2.heap.size, 10, none⟩ (.slice A3 (k + 1) k3) = Z := ⟨_, rfl⟩
      have OU : Hid (OpB U w2.heap.size d0 d1 d2 F3 F4 F5 F6 F7 F8 F9 (.slice A3 (k + 1) k3)) := by subst hU; exact Oc.set10 _
      have gU : vc.grownBy U (some w2.heap.size) := by subst hU; exact set_at (only_refl _ _) 10 _
      have RU : Hid (OpB U w.heap.size 0 0 0 0 0 0 { data := #[] } { data := #[] } 0 0 (.slice none 0 0)) := Rc.other gU (by intro e; injection e with e; have := ob.out.1; omega)
      have WU : Hid (U.ownsRow w.heap.size 23 3 (.slice A3 (k + 1) k3) (k + 1) (dc (dotsV (k + 1) (t10 s)))) := by
        unfold Hid
        rw [dotsV, dc_append, HPP.out]
        exact W3.kept gU (own_apart W3 Oc)
      have PU : Hid (Rp U g (dotsT (k + 1) (t10 s))) := ((rp_grown (Pa.off gb') g3 Wb (by have := HLT.out; omega)).later gU ob.out.2)
      have GU : Hid (w.grownBy U (some g)) := only_step (only_step (only_step (only_step HG.out ga' (fun _ h => .inl h)) gb' (fun _ h => by cases h)) g3.only (fun q hq => .inr (Wb.lt q hq).1)) gU (fun q hq => by cases hq; right; have := ob.out.1; omega)
      rw [hU]
      clear hU
      refine hK.out _ _ (holds1 (late_no (by kernel_rfl))) ?_
      clear hK K
      try simp only [Act.put, List.setIfInBounds_toArray, List.set_cons_zero, List.set_cons_succ]
      refine wpAnyT_done (by kernel_rfl) ?_ _
      go_wp2_with fail
      go_roundw
      case rel => exact ⟨k + 1, A3, k3, hlt, by go_num, PU, OU, WU, RU, GU⟩
      case measure => simp [intOf]; omega
    · have hkl : k = cnt := by omega
      subst hkl
      obtain ⟨c0, c1, c2, c3, c4, c5, c6, c7, c8, c9, c10⟩ := HO.out.cells
      obtain ⟨r0, r1, r2, r3, r4, r5, r6, r7, r8, r9, r10⟩ := HR.out.cells
      have f0 := HR.out.fr 0
      have f1 := HR.out.fr 1
      have f2 := HR.out.fr 2
      have f3 := HR.out.fr 3
      have f4 := HR.out.fr 4
      have f5 := HR.out.fr 5
      have f6 := HR.out.fr 6
      have f7 := HR.out.fr 7
      have f8 := HR.out.fr 8
      have f9 := HR.out.fr 9
      have f10 := HR.out.fr 10
      go_wp2_with fail
      obtain ⟨U, hU⟩ : ∃ Z, (((((((((((wr.setCell ⟨w.heap.size, 0, none⟩ (.int .i64 d0)).setCell ⟨w.heap.size, 1, none⟩ (.int .i64 d1)).setCell ⟨w.heap.size, 2, none⟩ (.int .i64 d2)).setCell ⟨w.heap.size, 3, none⟩ (.int .i64 F3)).setCell ⟨w.heap.size, 4, none⟩ (.int .i64 F4)).setCell ⟨w.heap.size, 5, none⟩ (.int .i64 F5)).setCell ⟨w.heap.size, 6, none⟩ (.string F6)).setCell ⟨w.heap.size, 7, none⟩ (.string F7)).setCell ⟨w.heap.size, 8, none⟩ (.int .i64 F8)).setCell ⟨w.heap.size, 9, none⟩ (.int .i64 F9)).setCell ⟨w.heap.size, 10, none⟩ (.slice AL k cL)) = Z := ⟨_, rfl⟩
      have RU : OpB U w.heap.size d0 d1 d2 F3 F4 F5 F6 F7 F8 F9 (.slice AL k cL) := by subst hU; exact ((((((((((HR.out.set0 _).set1 _).set2 _).set3 _).set4 _).set5 _).set6 _).set7 _).set8 _).set9 _).set10 _
      have gU : wr.grownBy U (some w.heap.size) := by subst hU; exact set_at (set_at (set_at (set_at (set_at (set_at (set_at (set_at (set_at (set_at (set_at (only_refl _ _) 0 _) 1 _) 2 _) 3 _) 4 _) 5 _) 6 _) 7 _) 8 _) 9 _) 10 _
      rw [hU]
      clear hU c0 c1 c2 c3 c4 c5 c6 c7 c8 c9 c10 r0 r1 r2 r3 r4 r5 r6 r7 r8 r9 r10 f0 f1 f2 f3 f4 f5 f6 f7 f8 f9 f10
      obtain ⟨r0, r1, r2, r3, r4, r5, r6, r7, r8, r9, r10⟩ := RU.cells
      refine bodyPost_ret (v := .agg #[.int .i64 d0, .int .i64 d1, .int .i64 d2, .int .i64 F3, .int .i64 F4, .int .i64 F5, .string F6, .string F7, .int .i64 F8, .int .i64 F9, .slice AL k cL]) (by simp [results, Try.results40, go_sem, r0, r1, r2, r3, r4, r5, r6, r7, r8, r9, r10]) rfl ?_
      obtain ⟨e0, e1, e2, e3, e4, e5, e6, e7, e8, e9⟩ := HF.out
      refine ⟨AL, cL, ?_, ?_, ?_, only_step HG.out gU (fun q hq => by cases hq; exact .inr (Nat.le_refl _))⟩
      · rw [← e0, ← e1, ← e2, ← e3, ← e4, ← e5, ← e6, ← e7, ← e8, ← e9, HCN.out]
        rfl
      · unfold rdots
        rw [HCN.out]
        exact HW.out.kept gU (own_apart HW.out HR.out)
      · unfold endS
        rw [HCN.out]
        exact HP.out.later gU HLT.out
end Go.Proofs.Ytcmpeohooiehcaa
