/- The reference's Parse, whatever the bytes. Conditions: fewer than 2^40 bytes. -/
import Derived.Test.YtcmpeohooiehcaaPv
namespace Go.Proofs.Ytcmpeohooiehcaa
open Go.RowKit Go.Deep Go.ChangeShapes
theorem endOf_zero {l : List Int} {e : Int} (h : endOf l e = 0) : e = 0 := by
  unfold endOf at h
  split at h
  · omega
  · exact h
set_option maxRecDepth 100000 in
set_option maxHeartbeats 4000000 in
theorem rparse_any (A : Option Addr) (c : Nat) (l : List Int) (w : World) (h : Has w w.heap.size A (bs l)) (hc : l.length ≤ c) (hl : l.length ≤ 1099511627776) (hb : bytesOk l) :
    Calls Try.prog 21 #[.slice A l.length c] w fun e' w' => ParseP (opV (l, 0)) (endE (l, 0)) e' w' ∧ w.grownBy w' none := by
  have H := Lib.hid h
  have HL := Lib.hid hl
  have HB := Lib.hid hb
  have HCC := Lib.hid hc
  clear h hl hb hc
  obtain ⟨v, hv⟩ : ∃ x, opV (l, 0) = x := ⟨_, rfl⟩
  obtain ⟨en, hen⟩ : ∃ x, endE (l, 0) = x := ⟨_, rfl⟩
  rw [hv, hen]
  have HV := Lib.hid hv
  have HEN : Hid (endOf (endS (l, 0)).1 (endS (l, 0)).2 = en) := hen
  clear hv hen
  obtain ⟨w1, hw1⟩ : ∃ Z, w.alloc (.cells #[.int .i64 0, .int .i64 0, .int .i64 0, .int .i64 0, .int .i64 0, .int .i64 0, .string { data := #[] }, .string { data := #[] }, .int .i64 0, .int .i64 0, .slice none 0 0] 26) = Z := ⟨_, rfl⟩
  have R1 : OpB w1 w.heap.size 0 0 0 0 0 0 { data := #[] } { data := #[] } 0 0 (.slice none 0 0) := by subst hw1; exact heap_alloc_new w _
  have g1 : w.grownBy w1 none := by subst hw1; exact World.grownBy_alloc w _ none
  go_enter Try.func21, Try.ntmps21
  go_wp2_with fail
  clear hw1
  refine (rfNew_any A c l w1 (H.out.up g1) HCC.out HL.out).mono ?_
  rintro _ w2 ⟨g, rfl, hR, hg, g2⟩
  have P2 : Rq w1.heap.size w2 g (l, 0) := ⟨hR, HL.out, HB.out⟩
  have G2 : w.grownBy w2 none := only_step g1 g2 (fun _ h => .inl h)
  have R2 := R1.other g2 (by simp)
  have hgw : w.heap.size < g := by have := R1.lt; omega
  clear hR g1 g2 R1 hg
  go_wp2_with fail
  refine (rread_any g (l, 0) w2 P2).mono ?_
  rintro _ w3 ⟨D, AL, cL, rfl, W3, D8, DW, DE, P3, g3⟩
  have R3 := R2.other g3 (by intro e; injection e with e; omega)
  have G3 : w.grownBy w3 none := only_step G2 g3 (fun k hk => by cases hk; right; omega)
  have hv := HV.out
  have h1 : (Value.agg #[.int .i64 (vI (l, 0)), .int .i64 (vI (stI (l, 0))), .int .i64 (vI (stI (stI (l, 0)))), .int .i64 (vI (t1 (l, 0))), .int .i64 (vI (t2 (l, 0))), .int .i64 (vI (t3 (l, 0))), .string (vT (t5 (l, 0))), .string (vT (t6 (l, 0))), .int .i64 (vI (t7 (l, 0))), .int .i64 (vI (t4 (l, 0))), .slice AL D.length cL]) = .agg #[.int .i64 v.d, .int .i64 v.e, .int .i64 v.s, .int .i64 v.coll, .int .i64 v.ver, .int .i64 v.kind, .string v.key, .string v.text, .int .i64 v.n, .int .i64 v.time, .slice AL D.length cL] := by
    rw [← hv]; rfl
  rw [h1]
  have HDE : Hid (en = 0 → D = v.l) := fun h => by
    rw [← hv]
    exact DE (endOf_zero (HEN.out.trans h))
  clear h1 hv DE D8 DW g3 R2 G2 P2
  go_wp2_with fail
  obtain ⟨w4, hw4⟩ : ∃ Z, w3.alloc (.cells #[.int .i64 v.d, .int .i64 v.e, .int .i64 v.s, .int .i64 v.coll, .int .i64 v.ver, .int .i64 v.kind, .string v.key, .string v.text, .int .i64 v.n, .int .i64 v.time, .slice AL D.length cL] 26) = Z := ⟨_, rfl⟩
  have O4 : OpB w4 w3.heap.size v.d v.e v.s v.coll v.ver v.kind v.key v.text v.n v.time (.slice AL D.length cL) := by subst hw4; exact heap_alloc_new w3 _
  have g4 : w3.grownBy w4 none := by subst hw4; exact World.grownBy_alloc w3 _ none
  rw [hw4]
  clear hw4
  have P4 := P3.off g4
  have R4 := R3.other g4 (by simp)
  have W4 := W3.kept g4 (by cases (Value.slice AL D.length cL).ownBlock <;> simp)
  have G4 : w.grownBy w4 none := only_step G3 g4 (fun _ h => .inl h)
  clear P3 R3 W3 G3 g4
  refine (qend g (endS (l, 0)) w4 P4).mono ?_
  rintro _ w5 ⟨rfl, g5⟩
  have O5 := O4.other g5 (by simp)
  have R5 := R4.other g5 (by simp)
  have W5 := W4.kept g5 (by cases (Value.slice AL D.length cL).ownBlock <;> simp)
  have G5 : w.grownBy w5 none := only_step G4 g5 (fun _ h => .inl h)
  clear P4 R4 W4 G4 g5 O4
  rw [HEN.out]
  clear HEN
  by_cases h0 : en = 0
  · subst h0
    obtain rfl := HDE.out rfl
    clear HDE
    obtain ⟨c0, c1, c2, c3, c4, c5, c6, c7, c8, c9, c10⟩ := O5.cells
    go_wp2_with fail
    refine (rcheck_f v.d v.e v.s v.coll v.ver v.kind v.n v.time v.key v.text AL cL v.l w5 (Has.own_w W5)).mono ?_
    rintro _ W ⟨rfl, g6⟩
    have O6 := O5.other g6 (by simp)
    have R4 := R5.other g6 (by simp)
    have W6 := W5.kept g6 (by cases (Value.slice AL v.l.length cL).ownBlock <;> simp)
    have G6 : w.grownBy W none := only_step G5 g6 (fun _ h => .inl h)
    obtain ⟨ck, hck⟩ : ∃ x, checkF v.d v.e v.s v.coll v.ver v.kind v.n v.time v.key v.text v.l = x := ⟨_, rfl⟩
    rw [hck]
    have HCK : Hid (readE v 0 = ck) := by unfold Hid readE OpV.check; rw [if_pos rfl, hck]
    clear hck c0 c1 c2 c3 c4 c5 c6 c7 c8 c9 c10 O5 R5 W5 G5 g6
    obtain ⟨c0, c1, c2, c3, c4, c5, c6, c7, c8, c9, c10⟩ := O6.cells
    obtain ⟨r0, r1, r2, r3, r4, r5, r6, r7, r8, r9, r10⟩ := R4.cells
    have f0 := R4.fr 0
    have f1 := R4.fr 1
    have f2 := R4.fr 2
    have f3 := R4.fr 3
    have f4 := R4.fr 4
    have f5 := R4.fr 5
    have f6 := R4.fr 6
    have f7 := R4.fr 7
    have f8 := R4.fr 8
    have f9 := R4.fr 9
    have f10 := R4.fr 10
    by_cases h1 : ck = 0
    · subst h1
      go_wp2_with fail
      obtain ⟨U, hU⟩ : ∃ Z, (((((((((((W.setCell ⟨w.heap.size, 0, none⟩ (.int .i64 v.d)).setCell ⟨w.heap.size, 1, none⟩ (.int .i64 v.e)).setCell ⟨w.heap.size, 2, none⟩ (.int .i64 v.s)).setCell ⟨w.heap.size, 3, none⟩ (.int .i64 v.coll)).setCell ⟨w.heap.size, 4, none⟩ (.int .i64 v.ver)).setCell ⟨w.heap.size, 5, none⟩ (.int .i64 v.kind)).setCell ⟨w.heap.size, 6, none⟩ (.string v.key)).setCell ⟨w.heap.size, 7, none⟩ (.string v.text)).setCell ⟨w.heap.size, 8, none⟩ (.int .i64 v.n)).setCell ⟨w.heap.size, 9, none⟩ (.int .i64 v.time)).setCell ⟨w.heap.size, 10, none⟩ (.slice AL v.l.length cL)) = Z := ⟨_, rfl⟩
      have RU : OpB U w.heap.size v.d v.e v.s v.coll v.ver v.kind v.key v.text v.n v.time (.slice AL v.l.length cL) := by subst hU; exact (((((((((((R4.set0 _).set1 _).set2 _).set3 _).set4 _).set5 _).set6 _).set7 _).set8 _).set9 _).set10 _)
      have gU : W.grownBy U (some w.heap.size) := by subst hU; exact (set_at (set_at (set_at (set_at (set_at (set_at (set_at (set_at (set_at (set_at (set_at (only_refl _ _) 0 _) 1 _) 2 _) 3 _) 4 _) 5 _) 6 _) 7 _) 8 _) 9 _) 10 _)
      rw [hU]
      clear hU r0 r1 r2 r3 r4 r5 r6 r7 r8 r9 r10
      obtain ⟨r0, r1, r2, r3, r4, r5, r6, r7, r8, r9, r10⟩ := RU.cells
      refine bodyPost_ret (v := .tuple #[.agg #[.int .i64 v.d, .int .i64 v.e, .int .i64 v.s, .int .i64 v.coll, .int .i64 v.ver, .int .i64 v.kind, .string v.key, .string v.text, .int .i64 v.n, .int .i64 v.time, .slice AL v.l.length cL], .int .i64 0]) (by simp [results, Try.results21, go_sem, r0, r1, r2, r3, r4, r5, r6, r7, r8, r9, r10]) rfl ⟨?_, only_step G6 gU (fun k hk => by cases hk; right; omega)⟩
      have hv : readV v 0 = v := by unfold readV; rw [if_pos HCK.out]
      unfold ParseP
      rw [hv, HCK.out]
      exact ⟨AL, cL, rfl, _, W6.kept gU (own_apart W6 R4)⟩
    · have hb : (ck != 0) = true := by rw [bne_iff_ne]; exact h1
      have HNE := Lib.hid h1
      clear h1
      go_wp2_with fail
      obtain ⟨U, hU⟩ : ∃ Z, (((((((((((W.setCell ⟨w.heap.size, 0, none⟩ (.int .i64 0)).setCell ⟨w.heap.size, 1, none⟩ (.int .i64 0)).setCell ⟨w.heap.size, 2, none⟩ (.int .i64 0)).setCell ⟨w.heap.size, 3, none⟩ (.int .i64 0)).setCell ⟨w.heap.size, 4, none⟩ (.int .i64 0)).setCell ⟨w.heap.size, 5, none⟩ (.int .i64 0)).setCell ⟨w.heap.size, 6, none⟩ (.string { data := #[] })).setCell ⟨w.heap.size, 7, none⟩ (.string { data := #[] })).setCell ⟨w.heap.size, 8, none⟩ (.int .i64 0)).setCell ⟨w.heap.size, 9, none⟩ (.int .i64 0)).setCell ⟨w.heap.size, 10, none⟩ (.slice none 0 0)) = Z := ⟨_, rfl⟩
      have RU : OpB U w.heap.size 0 0 0 0 0 0 { data := #[] } { data := #[] } 0 0 (.slice none 0 0) := by subst hU; exact (((((((((((R4.set0 _).set1 _).set2 _).set3 _).set4 _).set5 _).set6 _).set7 _).set8 _).set9 _).set10 _)
      have gU : W.grownBy U (some w.heap.size) := by subst hU; exact (set_at (set_at (set_at (set_at (set_at (set_at (set_at (set_at (set_at (set_at (set_at (only_refl _ _) 0 _) 1 _) 2 _) 3 _) 4 _) 5 _) 6 _) 7 _) 8 _) 9 _) 10 _)
      rw [hU]
      clear hU r0 r1 r2 r3 r4 r5 r6 r7 r8 r9 r10
      obtain ⟨r0, r1, r2, r3, r4, r5, r6, r7, r8, r9, r10⟩ := RU.cells
      refine bodyPost_ret (v := .tuple #[.agg #[.int .i64 0, .int .i64 0, .int .i64 0, .int .i64 0, .int .i64 0, .int .i64 0, .string { data := #[] }, .string { data := #[] }, .int .i64 0, .int .i64 0, .slice none 0 0], .int .i64 ck]) (by simp [results, Try.results21, go_sem, r0, r1, r2, r3, r4, r5, r6, r7, r8, r9, r10]) rfl ⟨?_, only_step G6 gU (fun k hk => by cases hk; right; omega)⟩
      have hv : readV v 0 = zeroV := by unfold readV; rw [HCK.out, if_neg HNE.out]
      unfold ParseP
      rw [hv, HCK.out]
      exact ⟨none, 0, rfl, 0, World.ownsRow_nil _ _ _ _⟩
  · have hb : (en != 0) = true := by rw [bne_iff_ne]; exact h0
    have hb2 : (en == 0) = false := by rw [beq_eq_false_iff_ne]; exact h0
    have HNE := Lib.hid h0
    have HCK : Hid (readE v en = en) := by unfold Hid readE; rw [if_neg h0]
    clear h0
    have R4 := R5
    have G6 := G5
    obtain ⟨r0, r1, r2, r3, r4, r5, r6, r7, r8, r9, r10⟩ := R4.cells
    have f0 := R4.fr 0
    have f1 := R4.fr 1
    have f2 := R4.fr 2
    have f3 := R4.fr 3
    have f4 := R4.fr 4
    have f5 := R4.fr 5
    have f6 := R4.fr 6
    have f7 := R4.fr 7
    have f8 := R4.fr 8
    have f9 := R4.fr 9
    have f10 := R4.fr 10
    go_wp2_with fail
    obtain ⟨U, hU⟩ : ∃ Z, (((((((((((w5.setCell ⟨w.heap.size, 0, none⟩ (.int .i64 0)).setCell ⟨w.heap.size, 1, none⟩ (.int .i64 0)).setCell ⟨w.heap.size, 2, none⟩ (.int .i64 0)).setCell ⟨w.heap.size, 3, none⟩ (.int .i64 0)).setCell ⟨w.heap.size, 4, none⟩ (.int .i64 0)).setCell ⟨w.heap.size, 5, none⟩ (.int .i64 0)).setCell ⟨w.heap.size, 6, none⟩ (.string { data := #[] })).setCell ⟨w.heap.size, 7, none⟩ (.string { data := #[] })).setCell ⟨w.heap.size, 8, none⟩ (.int .i64 0)).setCell ⟨w.heap.size, 9, none⟩ (.int .i64 0)).setCell ⟨w.heap.size, 10, none⟩ (.slice none 0 0)) = Z := ⟨_, rfl⟩
    have RU : OpB U w.heap.size 0 0 0 0 0 0 { data := #[] } { data := #[] } 0 0 (.slice none 0 0) := by subst hU; exact (((((((((((R4.set0 _).set1 _).set2 _).set3 _).set4 _).set5 _).set6 _).set7 _).set8 _).set9 _).set10 _)
    have gU : w5.grownBy U (some w.heap.size) := by subst hU; exact (set_at (set_at (set_at (set_at (set_at (set_at (set_at (set_at (set_at (set_at (set_at (only_refl _ _) 0 _) 1 _) 2 _) 3 _) 4 _) 5 _) 6 _) 7 _) 8 _) 9 _) 10 _)
    rw [hU]
    clear hU r0 r1 r2 r3 r4 r5 r6 r7 r8 r9 r10
    obtain ⟨r0, r1, r2, r3, r4, r5, r6, r7, r8, r9, r10⟩ := RU.cells
    refine bodyPost_ret (v := .tuple #[.agg #[.int .i64 0, .int .i64 0, .int .i64 0, .int .i64 0, .int .i64 0, .int .i64 0, .string { data := #[] }, .string { data := #[] }, .int .i64 0, .int .i64 0, .slice none 0 0], .int .i64 en]) (by simp [results, Try.results21, go_sem, r0, r1, r2, r3, r4, r5, r6, r7, r8, r9, r10]) rfl ⟨?_, only_step G6 gU (fun k hk => by cases hk; right; omega)⟩
    have hv : readV v en = zeroV := by unfold readV; rw [HCK.out, if_neg HNE.out]
    unfold ParseP
    rw [hv, HCK.out]
    exact ⟨none, 0, rfl, 0, World.ownsRow_nil _ _ _ _⟩
end Go.Proofs.Ytcmpeohooiehcaa
