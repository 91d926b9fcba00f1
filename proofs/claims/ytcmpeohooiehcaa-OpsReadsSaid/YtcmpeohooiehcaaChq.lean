/- The reference's Read: an operation read, whatever the bytes. Conditions: fewer than 2^40 bytes. -/
import Derived.Test.YtcmpeohooiehcaaChp
namespace Go.Proofs.Ytcmpeohooiehcaa
open Go.RowKit Go.Deep Go.ChangeShapes
/-- What the reference's Read hands back. -/
def RReadP (lim : Nat) (w : World) (g : Nat) (s : RS) (e : Ending) (w' : World) : Prop := ∃ (D : List Dt) (AL : Option Addr) (cL : Nat), e = .returned (.agg #[.int .i64 (vI s), .int .i64 (vI (stI s)), .int .i64 (vI (stI (stI s))), .int .i64 (vI (t1 s)), .int .i64 (vI (t2 s)), .int .i64 (vI (t3 s)), .string (vT (t5 s)), .string (vT (t6 s)), .int .i64 (vI (t7 s)), .int .i64 (vI (t4 s)), .slice AL D.length cL]) ∧ w'.ownsRow w.heap.size 23 3 (.slice AL D.length cL) D.length (dc D) ∧ D.length ≤ 8 ∧ (∀ p ∈ D, W64 p) ∧ ((endS s).2 = 0 → D = rdots s) ∧ Rq lim w' g (endS s) ∧ w.grownBy w' (some g)
theorem Rq.err {lim : Nat} {w : World} {g : Nat} {s : RS} (h : Rq lim w g s) : w.cell? ⟨g, 2, none⟩ = some (.int .i64 s.2) := by
  obtain ⟨A, c, full, p, hg, _⟩ := h.1
  simp [World.cell?, hg]
theorem rq_grown {lim : Nat} {w w' : World} {base n m g : Nat} {v v' : Value} {xs ys : List Value} {s : RS} (hp : Rq lim w g s) (k : GrewW w w' base 23 3 v v' m ys) (h : w.ownsRow base 23 3 v n xs) (hg : lim ≤ base ∧ g < base) : Rq lim w' g s :=
  ⟨hp.1.only k.only (fun q e => by have := (h.lt q e).1; omega), hp.2⟩
theorem fl_ne (s : RS) : (flS s 4).2 ≠ 0 := by
  unfold flS failOf
  dsimp only
  split
  · decide
  · assumption
set_option maxRecDepth 100000 in
set_option maxHeartbeats 4000000 in
theorem rread_ok {lim : Nat} (g : Nat) (s : RS) (w : World) (h : Rq lim w g s) (hc : 0 ≤ vI (t8 s) ∧ vI (t8 s) ≤ 8) : Calls Try.prog 43 #[.pointer (some ⟨g, 0, none⟩)] w (RReadP lim w g s) := by
  have H := Lib.hid h
  have HLT := Lib.hid h.lt
  have HLM := Lib.hid h.lim
  have HC := Lib.hid hc
  clear h hc
  obtain ⟨w1, hw1⟩ : ∃ Z, w.alloc (.cells #[.int .i64 0, .int .i64 0, .int .i64 0, .int .i64 0, .int .i64 0, .int .i64 0, .string { data := #[] }, .string { data := #[] }, .int .i64 0, .int .i64 0, .slice none 0 0] 26) = Z := ⟨_, rfl⟩
  have R1 : OpB w1 w.heap.size 0 0 0 0 0 0 { data := #[] } { data := #[] } 0 0 (.slice none 0 0) := by subst hw1; exact heap_alloc_new w _
  have g1 : w.grownBy w1 none := by subst hw1; exact World.grownBy_alloc w _ none
  go_enter Try.func43, Try.ntmps43
  go_wp2_with fail
  clear hw1
  refine (rdot_any g s w1 (H.out.off g1)).mono ?_
  rintro _ w2 ⟨rfl, P2, g2⟩
  have G2 : w.grownBy w2 (some g) := only_step (only_none g1 _) g2 (fun _ h => .inl h)
  have R2 := R1.other g2 (by intro e; injection e with e; have := HLT.out; omega)
  have z2 := R2.lt
  clear R1 g1 g2
  go_wp2_with fail
  obtain ⟨d0, hd0⟩ : ∃ x, (dotV s).1 = x := ⟨_, rfl⟩
  obtain ⟨d1, hd1⟩ : ∃ x, (dotV s).2.1 = x := ⟨_, rfl⟩
  obtain ⟨d2, hd2⟩ : ∃ x, (dotV s).2.2 = x := ⟨_, rfl⟩
  rw [hd0, hd1, hd2]
  obtain ⟨w4, hw4⟩ : ∃ Z, w2.alloc (.cells #[.int .i64 d0, .int .i64 d1, .int .i64 d2, .int .i64 0, .int .i64 0, .int .i64 0, .string { data := #[] }, .string { data := #[] }, .int .i64 0, .int .i64 0, .slice none 0 0] 26) = Z := ⟨_, rfl⟩
  have O : OpB w4 w2.heap.size d0 d1 d2 0 0 0 { data := #[] } { data := #[] } 0 0 (.slice none 0 0) := by subst hw4; exact heap_alloc_new w2 _
  have g4 : w2.grownBy w4 none := by subst hw4; exact World.grownBy_alloc w2 _ none
  rw [hw4]
  clear hw4
  have ob : Hid (w.heap.size < w2.heap.size ∧ g < w2.heap.size) := ⟨z2, by have := HLT.out; omega⟩
  have R := R2.other g4 (by simp)
  have P : Rq lim w4 g (t1 s) := P2.off g4
  have G : w.grownBy w4 (some g) := only_step G2 g4 (fun _ h => by cases h)
  clear R2 P2 G2 g4 z2
  refine (rqInt g (t1 s) w4 P).mono ?_
  rintro _ w50 ⟨rfl, P', g'⟩
  have O' := O.other g' (by intro e; injection e with e; have := ob.out.2; omega)
  have R' := R.other g' (by intro e; injection e with e; have := HLT.out; omega)
  have G' : w.grownBy w50 (some g) := only_step G g' (fun _ h => .inl h)
  have P' : Rq lim w50 g (t2 s) := P'
  clear O R G P g'
  obtain ⟨c0, c1, c2, c3, c4, c5, c6, c7, c8, c9, c10⟩ := O'.cells
  have fq := O'.fr 3
  go_wp2_with fail
  obtain ⟨w60, hu⟩ : ∃ Z, w50.setCell ⟨w2.heap.size, 3, none⟩ (.int .i64 (vI (t1 s))) = Z := ⟨_, rfl⟩
  have O : OpB w60 w2.heap.size d0 d1 d2 (vI (t1 s)) 0 0 { data := #[] } { data := #[] } 0 0 (.slice none 0 0) := by subst hu; exact O'.set3 _
  have gu : w50.grownBy w60 (some w2.heap.size) := by subst hu; exact set_at (only_refl _ _) 3 _
  rw [hu]
  clear hu c0 c1 c2 c3 c4 c5 c6 c7 c8 c9 c10 fq
  have P := P'.later gu ⟨by have := HLM.out; have := ob.out.2; omega, by have := ob.out.2; omega⟩
  have R := R'.other gu (by intro e; injection e with e; have := ob.out.1; omega)
  have G : w.grownBy w60 (some g) := only_step G' gu (fun k hk => by cases hk; right; have := ob.out.1; omega)
  clear O' R' G' P' gu
  refine (rqInt g (t2 s) w60 P).mono ?_
  rintro _ w51 ⟨rfl, P', g'⟩
  have O' := O.other g' (by intro e; injection e with e; have := ob.out.2; omega)
  have R' := R.other g' (by intro e; injection e with e; have := HLT.out; omega)
  have G' : w.grownBy w51 (some g) := only_step G g' (fun _ h => .inl h)
  have P' : Rq lim w51 g (t3 s) := P'
  clear O R G P g'
  obtain ⟨c0, c1, c2, c3, c4, c5, c6, c7, c8, c9, c10⟩ := O'.cells
  have fq := O'.fr 4
  go_wp2_with fail
  obtain ⟨w61, hu⟩ : ∃ Z, w51.setCell ⟨w2.heap.size, 4, none⟩ (.int .i64 (vI (t2 s))) = Z := ⟨_, rfl⟩
  have O : OpB w61 w2.heap.size d0 d1 d2 (vI (t1 s)) (vI (t2 s)) 0 { data := #[] } { data := #[] } 0 0 (.slice none 0 0) := by subst hu; exact O'.set4 _
  have gu : w51.grownBy w61 (some w2.heap.size) := by subst hu; exact set_at (only_refl _ _) 4 _
  rw [hu]
  clear hu c0 c1 c2 c3 c4 c5 c6 c7 c8 c9 c10 fq
  have P := P'.later gu ⟨by have := HLM.out; have := ob.out.2; omega, by have := ob.out.2; omega⟩
  have R := R'.other gu (by intro e; injection e with e; have := ob.out.1; omega)
  have G : w.grownBy w61 (some g) := only_step G' gu (fun k hk => by cases hk; right; have := ob.out.1; omega)
  clear O' R' G' P' gu
  refine (rqInt g (t3 s) w61 P).mono ?_
  rintro _ w52 ⟨rfl, P', g'⟩
  have O' := O.other g' (by intro e; injection e with e; have := ob.out.2; omega)
  have R' := R.other g' (by intro e; injection e with e; have := HLT.out; omega)
  have G' : w.grownBy w52 (some g) := only_step G g' (fun _ h => .inl h)
  have P' : Rq lim w52 g (t4 s) := P'
  clear O R G P g'
  obtain ⟨c0, c1, c2, c3, c4, c5, c6, c7, c8, c9, c10⟩ := O'.cells
  have fq := O'.fr 5
  go_wp2_with fail
  obtain ⟨w62, hu⟩ : ∃ Z, w52.setCell ⟨w2.heap.size, 5, none⟩ (.int .i64 (vI (t3 s))) = Z := ⟨_, rfl⟩
  have O : OpB w62 w2.heap.size d0 d1 d2 (vI (t1 s)) (vI (t2 s)) (vI (t3 s)) { data := #[] } { data := #[] } 0 0 (.slice none 0 0) := by subst hu; exact O'.set5 _
  have gu : w52.grownBy w62 (some w2.heap.size) := by subst hu; exact set_at (only_refl _ _) 5 _
  rw [hu]
  clear hu c0 c1 c2 c3 c4 c5 c6 c7 c8 c9 c10 fq
  have P := P'.later gu ⟨by have := HLM.out; have := ob.out.2; omega, by have := ob.out.2; omega⟩
  have R := R'.other gu (by intro e; injection e with e; have := ob.out.1; omega)
  have G : w.grownBy w62 (some g) := only_step G' gu (fun k hk => by cases hk; right; have := ob.out.1; omega)
  clear O' R' G' P' gu
  refine (rqInt g (t4 s) w62 P).mono ?_
  rintro _ w53 ⟨rfl, P', g'⟩
  have O' := O.other g' (by intro e; injection e with e; have := ob.out.2; omega)
  have R' := R.other g' (by intro e; injection e with e; have := HLT.out; omega)
  have G' : w.grownBy w53 (some g) := only_step G g' (fun _ h => .inl h)
  have P' : Rq lim w53 g (t5 s) := P'
  clear O R G P g'
  obtain ⟨c0, c1, c2, c3, c4, c5, c6, c7, c8, c9, c10⟩ := O'.cells
  have fq := O'.fr 9
  go_wp2_with fail
  obtain ⟨w63, hu⟩ : ∃ Z, w53.setCell ⟨w2.heap.size, 9, none⟩ (.int .i64 (vI (t4 s))) = Z := ⟨_, rfl⟩
  have O : OpB w63 w2.heap.size d0 d1 d2 (vI (t1 s)) (vI (t2 s)) (vI (t3 s)) { data := #[] } { data := #[] } 0 (vI (t4 s)) (.slice none 0 0) := by subst hu; exact O'.set9 _
  have gu : w53.grownBy w63 (some w2.heap.size) := by subst hu; exact set_at (only_refl _ _) 9 _
  rw [hu]
  clear hu c0 c1 c2 c3 c4 c5 c6 c7 c8 c9 c10 fq
  have P := P'.later gu ⟨by have := HLM.out; have := ob.out.2; omega, by have := ob.out.2; omega⟩
  have R := R'.other gu (by intro e; injection e with e; have := ob.out.1; omega)
  have G : w.grownBy w63 (some g) := only_step G' gu (fun k hk => by cases hk; right; have := ob.out.1; omega)
  clear O' R' G' P' gu
  refine (rqText g (t5 s) w63 P).mono ?_
  rintro _ w54 ⟨rfl, P', g'⟩
  have O' := O.other g' (by intro e; injection e with e; have := ob.out.2; omega)
  have R' := R.other g' (by intro e; injection e with e; have := HLT.out; omega)
  have G' : w.grownBy w54 (some g) := only_step G g' (fun _ h => .inl h)
  have P' : Rq lim w54 g (t6 s) := P'
  clear O R G P g'
  obtain ⟨c0, c1, c2, c3, c4, c5, c6, c7, c8, c9, c10⟩ := O'.cells
  have fq := O'.fr 6
  go_wp2_with fail
  obtain ⟨w64, hu⟩ : ∃ Z, w54.setCell ⟨w2.heap.size, 6, none⟩ (.string (vT (t5 s))) = Z := ⟨_, rfl⟩
  have O : OpB w64 w2.heap.size d0 d1 d2 (vI (t1 s)) (vI (t2 s)) (vI (t3 s)) (vT (t5 s)) { data := #[] } 0 (vI (t4 s)) (.slice none 0 0) := by subst hu; exact O'.set6 _
  have gu : w54.grownBy w64 (some w2.heap.size) := by subst hu; exact set_at (only_refl _ _) 6 _
  rw [hu]
  clear hu c0 c1 c2 c3 c4 c5 c6 c7 c8 c9 c10 fq
  have P := P'.later gu ⟨by have := HLM.out; have := ob.out.2; omega, by have := ob.out.2; omega⟩
  have R := R'.other gu (by intro e; injection e with e; have := ob.out.1; omega)
  have G : w.grownBy w64 (some g) := only_step G' gu (fun k hk => by cases hk; right; have := ob.out.1; omega)
  clear O' R' G' P' gu
  refine (rqText g (t6 s) w64 P).mono ?_
  rintro _ w55 ⟨rfl, P', g'⟩
  have O' := O.other g' (by intro e; injection e with e; have := ob.out.2; omega)
  have R' := R.other g' (by intro e; injection e with e; have := HLT.out; omega)
  have G' : w.grownBy w55 (some g) := only_step G g' (fun _ h => .inl h)
  have P' : Rq lim w55 g (t7 s) := P'
  clear O R G P g'
  obtain ⟨c0, c1, c2, c3, c4, c5, c6, c7, c8, c9, c10⟩ := O'.cells
  have fq := O'.fr 7
  go_wp2_with fail
  obtain ⟨w65, hu⟩ : ∃ Z, w55.setCell ⟨w2.heap.size, 7, none⟩ (.string (vT (t6 s))) = Z := ⟨_, rfl⟩
  have O : OpB w65 w2.heap.size d0 d1 d2 (vI (t1 s)) (vI (t2 s)) (vI (t3 s)) (vT (t5 s)) (vT (t6 s)) 0 (vI (t4 s)) (.slice none 0 0) := by subst hu; exact O'.set7 _
  have gu : w55.grownBy w65 (some w2.heap.size) := by subst hu; exact set_at (only_refl _ _) 7 _
  rw [hu]
  clear hu c0 c1 c2 c3 c4 c5 c6 c7 c8 c9 c10 fq
  have P := P'.later gu ⟨by have := HLM.out; have := ob.out.2; omega, by have := ob.out.2; omega⟩
  have R := R'.other gu (by intro e; injection e with e; have := ob.out.1; omega)
  have G : w.grownBy w65 (some g) := only_step G' gu (fun k hk => by cases hk; right; have := ob.out.1; omega)
  clear O' R' G' P' gu
  refine (rqInt g (t7 s) w65 P).mono ?_
  rintro _ w56 ⟨rfl, P', g'⟩
  have O' := O.other g' (by intro e; injection e with e; have := ob.out.2; omega)
  have R' := R.other g' (by intro e; injection e with e; have := HLT.out; omega)
  have G' : w.grownBy w56 (some g) := only_step G g' (fun _ h => .inl h)
  have P' : Rq lim w56 g (t8 s) := P'
  clear O R G P g'
  obtain ⟨c0, c1, c2, c3, c4, c5, c6, c7, c8, c9, c10⟩ := O'.cells
  have fq := O'.fr 8
  go_wp2_with fail
  obtain ⟨w66, hu⟩ : ∃ Z, w56.setCell ⟨w2.heap.size, 8, none⟩ (.int .i64 (vI (t7 s))) = Z := ⟨_, rfl⟩
  have O : OpB w66 w2.heap.size d0 d1 d2 (vI (t1 s)) (vI (t2 s)) (vI (t3 s)) (vT (t5 s)) (vT (t6 s)) (vI (t7 s)) (vI (t4 s)) (.slice none 0 0) := by subst hu; exact O'.set8 _
  have gu : w56.grownBy w66 (some w2.heap.size) := by subst hu; exact set_at (only_refl _ _) 8 _
  rw [hu]
  clear hu c0 c1 c2 c3 c4 c5 c6 c7 c8 c9 c10 fq
  have P := P'.later gu ⟨by have := HLM.out; have := ob.out.2; omega, by have := ob.out.2; omega⟩
  have R := R'.other gu (by intro e; injection e with e; have := ob.out.1; omega)
  have G : w.grownBy w66 (some g) := only_step G' gu (fun k hk => by cases hk; right; have := ob.out.1; omega)
  clear O' R' G' P' gu
  refine (rqInt g (t8 s) w66 P).mono ?_
  rintro _ wa ⟨rfl, Pa, ga⟩
  have HO0 := Lib.hid (O.other ga (by intro e; injection e with e; have := ob.out.2; omega))
  have HR0 := Lib.hid (R.other ga (by intro e; injection e with e; have := HLT.out; omega))
  have HG0 : Hid (w.grownBy wa (some g)) := only_step G ga (fun _ h => .inl h)
  have HP0 := Lib.hid Pa
  clear O R G P ga Pa
  obtain ⟨F3, hF3⟩ : ∃ x, vI (t1 s) = x := ⟨_, rfl⟩
  obtain ⟨F4, hF4⟩ : ∃ x, vI (t2 s) = x := ⟨_, rfl⟩
  obtain ⟨F5, hF5⟩ : ∃ x, vI (t3 s) = x := ⟨_, rfl⟩
  obtain ⟨F6, hF6⟩ : ∃ x, vT (t5 s) = x := ⟨_, rfl⟩
  obtain ⟨F7, hF7⟩ : ∃ x, vT (t6 s) = x := ⟨_, rfl⟩
  obtain ⟨F8, hF8⟩ : ∃ x, vI (t7 s) = x := ⟨_, rfl⟩
  obtain ⟨F9, hF9⟩ : ∃ x, vI (t4 s) = x := ⟨_, rfl⟩
  rw [hF3, hF4, hF5, hF6, hF7, hF8, hF9] at HO0
  have HF := Lib.hid (And.intro hd0 (And.intro hd1 (And.intro hd2 (And.intro hF3 (And.intro hF4 (And.intro hF5 (And.intro hF6 (And.intro hF7 (And.intro hF8 hF9)))))))))
  clear hd0 hd1 hd2 hF3 hF4 hF5 hF6 hF7 hF8 hF9
  have ht : t10 s = stI (t8 s) := by unfold t10; rw [if_pos HC.out]
  obtain ⟨cnt, hcnt⟩ : ∃ x, cntS s = x := ⟨_, rfl⟩
  have hNv : vI (t8 s) = (cnt : Int) := by rw [← hcnt]; unfold cntS; rw [if_pos HC.out]; have := HC.out; omega
  have hc8 : cnt ≤ 8 := hcnt ▸ cntS_le s
  have n0 : ¬ (cnt : Int) < 0 := by omega
  have n8 : ¬ (8 : Int) < (cnt : Int) := by omega
  rw [← ht] at HP0
  rw [hNv]
  have HCN := Lib.hid hcnt
  clear ht hcnt hNv
  go_wp2_with fail
  go_loopw [5] (fun si wr => ∃ (k : Nat) (AL : Option Addr) (cL : Nat), k ≤ cnt ∧ si = .int .i64 k ∧ Hid (Rq lim wr g (dotsT k (t10 s))) ∧ Hid (OpB wr w2.heap.size d0 d1 d2 F3 F4 F5 F6 F7 F8 F9 (.slice AL k cL)) ∧ Hid (wr.ownsRow w.heap.size 23 3 (.slice AL k cL) k (dc (dotsV k (t10 s)))) ∧ Hid (OpB wr w.heap.size 0 0 0 0 0 0 { data := #[] } { data := #[] } 0 0 (.slice none 0 0)) ∧ Hid (w.grownBy wr (some g)))
    (fun si _ => cnt - (intOf si).toNat)
  case atStart => exact ⟨0, none, 0, Nat.zero_le _, rfl, HP0, HO0, World.ownsRow_nil _ _ _ _, HR0, HG0⟩
  case round =>
    obtain ⟨k, AL, cL, hk, rfl, HP, HO, HW, HR, HG⟩ := hrel
    clear n0 n8
    by_cases hlt : k < cnt
    · have cerr := HP.out.err
      by_cases he : (dotsT k (t10 s)).2 = 0
      · rw [he] at cerr
        have c10 := HO.out.cells.2.2.2.2.2.2.2.2.2.2
        have hzw := HG.out.size
        go_wp2_with fail
        refine wp_region_late [(7, fun V => V.cell? ⟨w2.heap.size, 10, none⟩ = some (.slice AL k cL))] (by kernel_rfl) ?_
        refine wpAnyT_pure (i := 0) (oi := { dst := some 52, op := Op.fieldAddr 26 (Operand.tmp 3) 8, type := 0, pos := "ref.go:112", after := #[], guard := none }) (v := ?_) rfl (by kernel_rfl) (by kernel_rfl) (by kernel_rfl) (by kernel_rfl) (fun _ _ _ h => h) (Or.inl ⟨by rfl, ?_⟩) (holds1 (fun _ => (show wr.drew.cell? ⟨w2.heap.size, 10, none⟩ = some (.slice AL k cL) from c10))) ?_
        rotate_left
        · (intro W; go_simp; try with_reducible rfl)
        try simp only [Act.put, List.setIfInBounds_toArray, List.set_cons_zero, List.set_cons_succ]
        refine wpAnyT_take 3 7 (i := 1) (oi := { dst := some 53, op := Op.load 24 (Operand.tmp 52), type := 24, pos := "ref.go:112", after := #[{ on := 0, ground := Ground.data }], guard := none }) (v := ?_) (.head _) rfl (by kernel_rfl) (by kernel_rfl) (by kernel_rfl) (by kernel_rfl) (by kernel_rfl) (by kernel_rfl) (by rfl) (fun _ _ _ h => h) (by rfl) ?_ (holds1 (fun _ => (show wr.drew.cell? ⟨w2.heap.size, 10, none⟩ = some (.slice AL k cL) from c10))) ?_
        rotate_left
        · (intro W hSw; (try dsimp only at hSw); go_simp; try with_reducible rfl)
        try simp only [Act.put, List.setIfInBounds_toArray, List.set_cons_zero, List.set_cons_succ]
        refine wpAnyT_pure (i := 2) (oi := { dst := some 54, op := Op.move (Operand.tmp 0), type := 69, pos := "ref.go:112", after := #[], guard := none }) (v := ?_) rfl (by kernel_rfl) (by kernel_rfl) (by kernel_rfl) (by kernel_rfl) (fun _ _ _ h => h) (Or.inl ⟨by rfl, ?_⟩) (holds1 (fun _ => (show wr.drew.cell? ⟨w2.heap.size, 10, none⟩ = some (.slice AL k cL) from c10))) ?_
        rotate_left
        · (intro W; go_simp; try with_reducible rfl)
        try simp only [Act.put, List.setIfInBounds_toArray, List.set_cons_zero, List.set_cons_succ]
        refine wpAnyT_ready (rs := [3]) (by kernel_rfl) (by simp) (AllT.cons (o := { dst := some 55, op := Op.call { callee := Callee.value (Operand.func 56), args := #[Operand.tmp 54], argTypes := #[69] }, type := 23, pos := "ref.go:112", after := #[{ on := 2, ground := Ground.data }], guard := none }) rfl (fun K hK => ?_) AllT.nil)
        go_simp
        go_at_call 56
        refine (rdot_any g _ _ (HP.out.off (only_drew (only_refl _ _)))).mono ?_
        rintro _ va ⟨rfl, Pa, ga⟩
        obtain ⟨p, hp⟩ : ∃ x, dotV (dotsT k (t10 s)) = x := ⟨_, rfl⟩
        rw [hp]
        have HPP := Lib.hid hp
        clear hp
        have ga' : wr.grownBy va (some g) := only_step (only_drew (only_refl wr (some g))) ga (fun _ h => .inl h)
        have Oa := HO.out.other ga' (by intro e; injection e with e; have := ob.out.2; omega)
        have Ra := HR.out.other ga' (by intro e; injection e with e; have := HLT.out; omega)
        have Wa := HW.out.kept ga' (by
          cases e : (Value.slice AL k cL).ownBlock with
          | none => exact .inl rfl
          | some q => exact .inr (by intro e2; injection e2 with e2; have := (HW.out.lt q e).1; have := HLT.out; omega))
        refine hK.out _ _ (holds1 (fun _ => Oa.cells.2.2.2.2.2.2.2.2.2.2)) ?_
        clear hK K
        try simp only [Act.put, List.setIfInBounds_toArray, List.set_cons_zero, List.set_cons_succ]
        refine wpAnyT_ready (rs := [4]) (by kernel_rfl) (by simp) (AllT.cons (o := { dst := some 56, op := Op.buildSlice 24 1 #[(0, Operand.tmp 55)], type := 24, pos := "ref.go:112", after := #[{ on := 3, ground := Ground.data }], guard := none }) rfl (fun K hK => ?_) AllT.nil)
        go_simp
        obtain ⟨vb, hvb⟩ : ∃ Z, va.alloc (.cells #[.int .i64 p.1, .int .i64 p.2.1, .int .i64 p.2.2] 23) = Z := ⟨_, rfl⟩
        have sb : Hid (Src Try.prog 3 24 (.slice (some ⟨va.heap.size, 0, none⟩) 1 1) 1 (dc [p]) vb) := by subst hvb; exact src_dot va p
        have gb' : va.grownBy vb none := by subst hvb; exact World.grownBy_alloc va _ none
        rw [hvb]
        clear hvb
        have Ob' := Oa.other gb' (by simp)
        have Rb' := Ra.other gb' (by simp)
        have Wb := Wa.kept gb' (by cases (Value.slice AL k cL).ownBlock <;> simp)
        have zva := ga'.size
        have zvb := gb'.size
        refine hK.out _ _ (holds1 (fun _ => Ob'.cells.2.2.2.2.2.2.2.2.2.2)) ?_
        clear hK K
        try simp only [Act.put, List.setIfInBounds_toArray, List.set_cons_zero, List.set_cons_succ]
        refine wpAnyT_ready (rs := [5]) (by kernel_rfl) (by simp) (AllT.cons (o := { dst := some 57, op := Op.call { callee := Callee.builtin Builtin.append, args := #[Operand.tmp 53, Operand.tmp 56], argTypes := #[24, 24] }, type := 24, pos := "ref.go:112", after := #[{ on := 1, ground := Ground.data }, { on := 4, ground := Ground.data }, { on := 3, ground := Ground.chain }], guard := none }) rfl (fun K hK => ?_) AllT.nil)
        refine step_app_d rfl _ _ 24 rfl w.heap.size (.slice AL k cL) k (dc (dotsV k (t10 s))) rfl Wb (.slice (some ⟨va.heap.size, 0, none⟩) 1 1) 1 (dc [p]) rfl sb.out (by omega) (by omega) ?_
        intro v3 vc g3
        have Oc := grown_op g3 Wb Ob'
        have Rc := grown_op g3 Wb Rb'
        have W3 := g3.own
        obtain ⟨A3, k3, rfl⟩ := own_slice_w W3
        have fc := Oc.fr 10
        have kc := Oc.cells.2.2.2.2.2.2.2.2.2.2
        refine hK.out _ _ (holds1 (fun _ => kc)) ?_
        clear hK K
        try simp only [Act.put, List.setIfInBounds_toArray, List.set_cons_zero, List.set_cons_succ]
        refine wpAnyT_pure (i := 6) (oi := { dst := some 58, op := Op.fieldAddr 26 (Operand.tmp 3) 8, type := 0, pos := "ref.go:112", after := #[{ on := 0, ground := Ground.phase }, { on := 1, ground := Ground.phase }, { on := 2, ground := Ground.phase }, { on := 3, ground := Ground.phase }, { on := 4, ground := Ground.phase }, { on := 5, ground := Ground.phase }], guard := none }) (v := ?_) rfl (by kernel_rfl) (by kernel_rfl) (by kernel_rfl) (by kernel_rfl) (fun _ _ _ h => h) (Or.inl ⟨by rfl, ?_⟩) (holds1 (fun _ => kc)) ?_
        rotate_left
        · (intro W; go_simp; try with_reducible rfl)
        try simp only [Act.put, List.setIfInBounds_toArray, List.set_cons_zero, List.set_cons_succ]
        refine wpAnyT_ready (rs := [7]) (by kernel_rfl) (by simp) (AllT.cons (o := { dst := none, op := Op.store 24 (Operand.tmp 58) (Operand.tmp 57), type := 0, pos := "ref.go:112", after := #[{ on := 6, ground := Ground.data }, { on := 5, ground := Ground.data }, { on := 5, ground := Ground.chain }, { on := 0, ground := Ground.phase }, { on := 1, ground := Ground.phase }, { on := 2, ground := Ground.phase }, { on := 3, ground := Ground.phase }, { on := 4, ground := Ground.phase }, { on := 5, ground := Ground.phase }], guard := none }) rfl (fun K hK => ?_) AllT.nil)
        go_simp
        obtain ⟨U, hU⟩ : ∃ Z, vc.setCell ⟨w2.heap.size, 10, none⟩ (.slice A3 (k + 1) k3) = Z := ⟨_, rfl⟩
        have OU : Hid (OpB U w2.heap.size d0 d1 d2 F3 F4 F5 F6 F7 F8 F9 (.slice A3 (k + 1) k3)) := by subst hU; exact Oc.set10 _
        have gU : vc.grownBy U (some w2.heap.size) := by subst hU; exact set_at (only_refl _ _) 10 _
        have RU : Hid (OpB U w.heap.size 0 0 0 0 0 0 { data := #[] } { data := #[] } 0 0 (.slice none 0 0)) := Rc.other gU (by intro e; injection e with e; have := ob.out.1; omega)
        have WU : Hid (U.ownsRow w.heap.size 23 3 (.slice A3 (k + 1) k3) (k + 1) (dc (dotsV (k + 1) (t10 s)))) := by
          unfold Hid
          rw [dotsV, dc_append, HPP.out]
          exact W3.kept gU (own_apart W3 Oc)
        have PU : Hid (Rq lim U g (dotsT (k + 1) (t10 s))) := (rq_grown (Pa.off gb') g3 Wb ⟨by have := HLM.out; have := HLT.out; omega, HLT.out⟩).later gU ⟨by have := HLM.out; have := ob.out.2; omega, by have := ob.out.2; omega⟩
        have GU : Hid (w.grownBy U (some g)) := only_step (only_step (only_step (only_step HG.out ga' (fun _ h => .inl h)) gb' (fun _ h => by cases h)) g3.only (fun q hq => .inr (Wb.lt q hq).1)) gU (fun q hq => by cases hq; right; have := ob.out.1; omega)
        rw [hU]
        clear hU
        refine hK.out _ _ (holds1 (late_no (by kernel_rfl))) ?_
        clear hK K
        try simp only [Act.put, List.setIfInBounds_toArray, List.set_cons_zero, List.set_cons_succ]
        refine wpAnyT_done (by kernel_rfl) ?_ _
        go_wp2_with fail
        go_roundw
        case rel => exact ⟨k + 1, A3, k3, hlt, by go_num, PU, OU, WU, RU, GU⟩
        case measure => simp [intOf]; omega
      · have hb : ((dotsT k (t10 s)).2 == 0) = false := by rw [beq_eq_false_iff_ne]; exact he
        have hee : endS s = dotsT k (t10 s) := by
          unfold endS
          rw [HCN.out]
          obtain ⟨j, rfl⟩ : ∃ j, cnt = k + j := ⟨cnt - k, by omega⟩
          exact dotsT_err j k _ he
        have HEE := Lib.hid hee
        have HNE := Lib.hid he
        clear hee he
        obtain ⟨c0, c1, c2, c3, c4, c5, c6, c7, c8, c9, c10⟩ := HO.out.cells
        obtain ⟨r0, r1, r2, r3, r4, r5, r6, r7, r8, r9, r10⟩ := HR.out.cells
        have f0 := HR.out.fr 0
        have f1 := HR.out.fr 1
        have f2 := HR.out.fr 2
        have f3 := HR.out.fr 3
        have f4 := HR.out.fr 4
        have f5 := HR.out.fr 5
        have f6 := HR.out.fr 6
        have f7 := HR.out.fr 7
        have f8 := HR.out.fr 8
        have f9 := HR.out.fr 9
        have f10 := HR.out.fr 10
        go_wp2_with fail
        obtain ⟨U, hU⟩ : ∃ Z, (((((((((((wr.setCell ⟨w.heap.size, 0, none⟩ (.int .i64 d0)).setCell ⟨w.heap.size, 1, none⟩ (.int .i64 d1)).setCell ⟨w.heap.size, 2, none⟩ (.int .i64 d2)).setCell ⟨w.heap.size, 3, none⟩ (.int .i64 F3)).setCell ⟨w.heap.size, 4, none⟩ (.int .i64 F4)).setCell ⟨w.heap.size, 5, none⟩ (.int .i64 F5)).setCell ⟨w.heap.size, 6, none⟩ (.string F6)).setCell ⟨w.heap.size, 7, none⟩ (.string F7)).setCell ⟨w.heap.size, 8, none⟩ (.int .i64 F8)).setCell ⟨w.heap.size, 9, none⟩ (.int .i64 F9)).setCell ⟨w.heap.size, 10, none⟩ (.slice AL k cL)) = Z := ⟨_, rfl⟩
        have RU : OpB U w.heap.size d0 d1 d2 F3 F4 F5 F6 F7 F8 F9 (.slice AL k cL) := by subst hU; exact (((((((((((HR.out.set0 _).set1 _).set2 _).set3 _).set4 _).set5 _).set6 _).set7 _).set8 _).set9 _).set10 _)
        have gU : wr.grownBy U (some w.heap.size) := by subst hU; exact (set_at (set_at (set_at (set_at (set_at (set_at (set_at (set_at (set_at (set_at (set_at (only_refl _ _) 0 _) 1 _) 2 _) 3 _) 4 _) 5 _) 6 _) 7 _) 8 _) 9 _) 10 _)
        rw [hU]
        clear hU c0 c1 c2 c3 c4 c5 c6 c7 c8 c9 c10 r0 r1 r2 r3 r4 r5 r6 r7 r8 r9 r10 f0 f1 f2 f3 f4 f5 f6 f7 f8 f9 f10
        obtain ⟨r0, r1, r2, r3, r4, r5, r6, r7, r8, r9, r10⟩ := RU.cells
        refine bodyPost_ret (v := .agg #[.int .i64 d0, .int .i64 d1, .int .i64 d2, .int .i64 F3, .int .i64 F4, .int .i64 F5, .string F6, .string F7, .int .i64 F8, .int .i64 F9, .slice AL k cL]) (by simp [results, Try.results43, go_sem, r0, r1, r2, r3, r4, r5, r6, r7, r8, r9, r10]) rfl ?_
        obtain ⟨e0, e1, e2, e3, e4, e5, e6, e7, e8, e9⟩ := HF.out
        refine ⟨dotsV k (t10 s), AL, cL, ?_, ?_, ?_, ?_, ?_, ?_, only_step HG.out gU (fun q hq => by cases hq; exact .inr (Nat.le_refl _))⟩
        · rw [← e0, ← e1, ← e2, ← e3, ← e4, ← e5, ← e6, ← e7, ← e8, ← e9]
          rw [dotsV_len]
          rfl
        · rw [dotsV_len]
          exact HW.out.kept gU (own_apart HW.out HR.out)
        · rw [dotsV_len]; omega
        · exact dotsV_w _ _
        · intro h0; rw [HEE.out] at h0; exact absurd h0 HNE.out
        · have hend := HP.out.later gU ⟨by have := HLM.out; have := HLT.out; omega, by have := HLT.out; omega⟩
          rw [HEE.out]; exact hend
    · have hkl : k = cnt := by omega
      subst hkl
      obtain ⟨c0, c1, c2, c3, c4, c5, c6, c7, c8, c9, c10⟩ := HO.out.cells
      obtain ⟨r0, r1, r2, r3, r4, r5, r6, r7, r8, r9, r10⟩ := HR.out.cells
      have f0 := HR.out.fr 0
      have f1 := HR.out.fr 1
      have f2 := HR.out.fr 2
      have f3 := HR.out.fr 3
      have f4 := HR.out.fr 4
      have f5 := HR.out.fr 5
      have f6 := HR.out.fr 6
      have f7 := HR.out.fr 7
      have f8 := HR.out.fr 8
      have f9 := HR.out.fr 9
      have f10 := HR.out.fr 10
      go_wp2_with fail
      obtain ⟨U, hU⟩ : ∃ Z, (((((((((((wr.setCell ⟨w.heap.size, 0, none⟩ (.int .i64 d0)).setCell ⟨w.heap.size, 1, none⟩ (.int .i64 d1)).setCell ⟨w.heap.size, 2, none⟩ (.int .i64 d2)).setCell ⟨w.heap.size, 3, none⟩ (.int .i64 F3)).setCell ⟨w.heap.size, 4, none⟩ (.int .i64 F4)).setCell ⟨w.heap.size, 5, none⟩ (.int .i64 F5)).setCell ⟨w.heap.size, 6, none⟩ (.string F6)).setCell ⟨w.heap.size, 7, none⟩ (.string F7)).setCell ⟨w.heap.size, 8, none⟩ (.int .i64 F8)).setCell ⟨w.heap.size, 9, none⟩ (.int .i64 F9)).setCell ⟨w.heap.size, 10, none⟩ (.slice AL k cL)) = Z := ⟨_, rfl⟩
      have RU : OpB U w.heap.size d0 d1 d2 F3 F4 F5 F6 F7 F8 F9 (.slice AL k cL) := by subst hU; exact (((((((((((HR.out.set0 _).set1 _).set2 _).set3 _).set4 _).set5 _).set6 _).set7 _).set8 _).set9 _).set10 _)
      have gU : wr.grownBy U (some w.heap.size) := by subst hU; exact (set_at (set_at (set_at (set_at (set_at (set_at (set_at (set_at (set_at (set_at (set_at (only_refl _ _) 0 _) 1 _) 2 _) 3 _) 4 _) 5 _) 6 _) 7 _) 8 _) 9 _) 10 _)
      rw [hU]
      clear hU c0 c1 c2 c3 c4 c5 c6 c7 c8 c9 c10 r0 r1 r2 r3 r4 r5 r6 r7 r8 r9 r10 f0 f1 f2 f3 f4 f5 f6 f7 f8 f9 f10
      obtain ⟨r0, r1, r2, r3, r4, r5, r6, r7, r8, r9, r10⟩ := RU.cells
      refine bodyPost_ret (v := .agg #[.int .i64 d0, .int .i64 d1, .int .i64 d2, .int .i64 F3, .int .i64 F4, .int .i64 F5, .string F6, .string F7, .int .i64 F8, .int .i64 F9, .slice AL k cL]) (by simp [results, Try.results43, go_sem, r0, r1, r2, r3, r4, r5, r6, r7, r8, r9, r10]) rfl ?_
      obtain ⟨e0, e1, e2, e3, e4, e5, e6, e7, e8, e9⟩ := HF.out
      refine ⟨dotsV k (t10 s), AL, cL, ?_, ?_, ?_, ?_, ?_, ?_, only_step HG.out gU (fun q hq => by cases hq; exact .inr (Nat.le_refl _))⟩
      · rw [← e0, ← e1, ← e2, ← e3, ← e4, ← e5, ← e6, ← e7, ← e8, ← e9]
        rw [dotsV_len]
        rfl
      · rw [dotsV_len]
        exact HW.out.kept gU (own_apart HW.out HR.out)
      · rw [dotsV_len]; omega
      · exact dotsV_w _ _
      · intro _; unfold rdots; rw [HCN.out]
      · have hend := HP.out.later gU ⟨by have := HLM.out; have := HLT.out; omega, by have := HLT.out; omega⟩
        unfold endS; rw [HCN.out]; exact hend
set_option maxRecDepth 100000 in
set_option maxHeartbeats 4000000 in
theorem rread_lo {lim : Nat} (g : Nat) (s : RS) (w : World) (h : Rq lim w g s) (hc : vI (t8 s) < 0) : Calls Try.prog 43 #[.pointer (some ⟨g, 0, none⟩)] w (RReadP lim w g s) := by
  have H := Lib.hid h
  have HLT := Lib.hid h.lt
  have HLM := Lib.hid h.lim
  have HC := Lib.hid hc
  clear h hc
  obtain ⟨w1, hw1⟩ : ∃ Z, w.alloc (.cells #[.int .i64 0, .int .i64 0, .int .i64 0, .int .i64 0, .int .i64 0, .int .i64 0, .string { data := #[] }, .string { data := #[] }, .int .i64 0, .int .i64 0, .slice none 0 0] 26) = Z := ⟨_, rfl⟩
  have R1 : OpB w1 w.heap.size 0 0 0 0 0 0 { data := #[] } { data := #[] } 0 0 (.slice none 0 0) := by subst hw1; exact heap_alloc_new w _
  have g1 : w.grownBy w1 none := by subst hw1; exact World.grownBy_alloc w _ none
  go_enter Try.func43, Try.ntmps43
  go_wp2_with fail
  clear hw1
  refine (rdot_any g s w1 (H.out.off g1)).mono ?_
  rintro _ w2 ⟨rfl, P2, g2⟩
  have G2 : w.grownBy w2 (some g) := only_step (only_none g1 _) g2 (fun _ h => .inl h)
  have R2 := R1.other g2 (by intro e; injection e with e; have := HLT.out; omega)
  have z2 := R2.lt
  clear R1 g1 g2
  go_wp2_with fail
  obtain ⟨d0, hd0⟩ : ∃ x, (dotV s).1 = x := ⟨_, rfl⟩
  obtain ⟨d1, hd1⟩ : ∃ x, (dotV s).2.1 = x := ⟨_, rfl⟩
  obtain ⟨d2, hd2⟩ : ∃ x, (dotV s).2.2 = x := ⟨_, rfl⟩
  rw [hd0, hd1, hd2]
  obtain ⟨w4, hw4⟩ : ∃ Z, w2.alloc (.cells #[.int .i64 d0, .int .i64 d1, .int .i64 d2, .int .i64 0, .int .i64 0, .int .i64 0, .string { data := #[] }, .string { data := #[] }, .int .i64 0, .int .i64 0, .slice none 0 0] 26) = Z := ⟨_, rfl⟩
  have O : OpB w4 w2.heap.size d0 d1 d2 0 0 0 { data := #[] } { data := #[] } 0 0 (.slice none 0 0) := by subst hw4; exact heap_alloc_new w2 _
  have g4 : w2.grownBy w4 none := by subst hw4; exact World.grownBy_alloc w2 _ none
  rw [hw4]
  clear hw4
  have ob : Hid (w.heap.size < w2.heap.size ∧ g < w2.heap.size) := ⟨z2, by have := HLT.out; omega⟩
  have R := R2.other g4 (by simp)
  have P : Rq lim w4 g (t1 s) := P2.off g4
  have G : w.grownBy w4 (some g) := only_step G2 g4 (fun _ h => by cases h)
  clear R2 P2 G2 g4 z2
  refine (rqInt g (t1 s) w4 P).mono ?_
  rintro _ w50 ⟨rfl, P', g'⟩
  have O' := O.other g' (by intro e; injection e with e; have := ob.out.2; omega)
  have R' := R.other g' (by intro e; injection e with e; have := HLT.out; omega)
  have G' : w.grownBy w50 (some g) := only_step G g' (fun _ h => .inl h)
  have P' : Rq lim w50 g (t2 s) := P'
  clear O R G P g'
  obtain ⟨c0, c1, c2, c3, c4, c5, c6, c7, c8, c9, c10⟩ := O'.cells
  have fq := O'.fr 3
  go_wp2_with fail
  obtain ⟨w60, hu⟩ : ∃ Z, w50.setCell ⟨w2.heap.size, 3, none⟩ (.int .i64 (vI (t1 s))) = Z := ⟨_, rfl⟩
  have O : OpB w60 w2.heap.size d0 d1 d2 (vI (t1 s)) 0 0 { data := #[] } { data := #[] } 0 0 (.slice none 0 0) := by subst hu; exact O'.set3 _
  have gu : w50.grownBy w60 (some w2.heap.size) := by subst hu; exact set_at (only_refl _ _) 3 _
  rw [hu]
  clear hu c0 c1 c2 c3 c4 c5 c6 c7 c8 c9 c10 fq
  have P := P'.later gu ⟨by have := HLM.out; have := ob.out.2; omega, by have := ob.out.2; omega⟩
  have R := R'.other gu (by intro e; injection e with e; have := ob.out.1; omega)
  have G : w.grownBy w60 (some g) := only_step G' gu (fun k hk => by cases hk; right; have := ob.out.1; omega)
  clear O' R' G' P' gu
  refine (rqInt g (t2 s) w60 P).mono ?_
  rintro _ w51 ⟨rfl, P', g'⟩
  have O' := O.other g' (by intro e; injection e with e; have := ob.out.2; omega)
  have R' := R.other g' (by intro e; injection e with e; have := HLT.out; omega)
  have G' : w.grownBy w51 (some g) := only_step G g' (fun _ h => .inl h)
  have P' : Rq lim w51 g (t3 s) := P'
  clear O R G P g'
  obtain ⟨c0, c1, c2, c3, c4, c5, c6, c7, c8, c9, c10⟩ := O'.cells
  have fq := O'.fr 4
  go_wp2_with fail
  obtain ⟨w61, hu⟩ : ∃ Z, w51.setCell ⟨w2.heap.size, 4, none⟩ (.int .i64 (vI (t2 s))) = Z := ⟨_, rfl⟩
  have O : OpB w61 w2.heap.size d0 d1 d2 (vI (t1 s)) (vI (t2 s)) 0 { data := #[] } { data := #[] } 0 0 (.slice none 0 0) := by subst hu; exact O'.set4 _
  have gu : w51.grownBy w61 (some w2.heap.size) := by subst hu; exact set_at (only_refl _ _) 4 _
  rw [hu]
  clear hu c0 c1 c2 c3 c4 c5 c6 c7 c8 c9 c10 fq
  have P := P'.later gu ⟨by have := HLM.out; have := ob.out.2; omega, by have := ob.out.2; omega⟩
  have R := R'.other gu (by intro e; injection e with e; have := ob.out.1; omega)
  have G : w.grownBy w61 (some g) := only_step G' gu (fun k hk => by cases hk; right; have := ob.out.1; omega)
  clear O' R' G' P' gu
  refine (rqInt g (t3 s) w61 P).mono ?_
  rintro _ w52 ⟨rfl, P', g'⟩
  have O' := O.other g' (by intro e; injection e with e; have := ob.out.2; omega)
  have R' := R.other g' (by intro e; injection e with e; have := HLT.out; omega)
  have G' : w.grownBy w52 (some g) := only_step G g' (fun _ h => .inl h)
  have P' : Rq lim w52 g (t4 s) := P'
  clear O R G P g'
  obtain ⟨c0, c1, c2, c3, c4, c5, c6, c7, c8, c9, c10⟩ := O'.cells
  have fq := O'.fr 5
  go_wp2_with fail
  obtain ⟨w62, hu⟩ : ∃ Z, w52.setCell ⟨w2.heap.size, 5, none⟩ (.int .i64 (vI (t3 s))) = Z := ⟨_, rfl⟩
  have O : OpB w62 w2.heap.size d0 d1 d2 (vI (t1 s)) (vI (t2 s)) (vI (t3 s)) { data := #[] } { data := #[] } 0 0 (.slice none 0 0) := by subst hu; exact O'.set5 _
  have gu : w52.grownBy w62 (some w2.heap.size) := by subst hu; exact set_at (only_refl _ _) 5 _
  rw [hu]
  clear hu c0 c1 c2 c3 c4 c5 c6 c7 c8 c9 c10 fq
  have P := P'.later gu ⟨by have := HLM.out; have := ob.out.2; omega, by have := ob.out.2; omega⟩
  have R := R'.other gu (by intro e; injection e with e; have := ob.out.1; omega)
  have G : w.grownBy w62 (some g) := only_step G' gu (fun k hk => by cases hk; right; have := ob.out.1; omega)
  clear O' R' G' P' gu
  refine (rqInt g (t4 s) w62 P).mono ?_
  rintro _ w53 ⟨rfl, P', g'⟩
  have O' := O.other g' (by intro e; injection e with e; have := ob.out.2; omega)
  have R' := R.other g' (by intro e; injection e with e; have := HLT.out; omega)
  have G' : w.grownBy w53 (some g) := only_step G g' (fun _ h => .inl h)
  have P' : Rq lim w53 g (t5 s) := P'
  clear O R G P g'
  obtain ⟨c0, c1, c2, c3, c4, c5, c6, c7, c8, c9, c10⟩ := O'.cells
  have fq := O'.fr 9
  go_wp2_with fail
  obtain ⟨w63, hu⟩ : ∃ Z, w53.setCell ⟨w2.heap.size, 9, none⟩ (.int .i64 (vI (t4 s))) = Z := ⟨_, rfl⟩
  have O : OpB w63 w2.heap.size d0 d1 d2 (vI (t1 s)) (vI (t2 s)) (vI (t3 s)) { data := #[] } { data := #[] } 0 (vI (t4 s)) (.slice none 0 0) := by subst hu; exact O'.set9 _
  have gu : w53.grownBy w63 (some w2.heap.size) := by subst hu; exact set_at (only_refl _ _) 9 _
  rw [hu]
  clear hu c0 c1 c2 c3 c4 c5 c6 c7 c8 c9 c10 fq
  have P := P'.later gu ⟨by have := HLM.out; have := ob.out.2; omega, by have := ob.out.2; omega⟩
  have R := R'.other gu (by intro e; injection e with e; have := ob.out.1; omega)
  have G : w.grownBy w63 (some g) := only_step G' gu (fun k hk => by cases hk; right; have := ob.out.1; omega)
  clear O' R' G' P' gu
  refine (rqText g (t5 s) w63 P).mono ?_
  rintro _ w54 ⟨rfl, P', g'⟩
  have O' := O.other g' (by intro e; injection e with e; have := ob.out.2; omega)
  have R' := R.other g' (by intro e; injection e with e; have := HLT.out; omega)
  have G' : w.grownBy w54 (some g) := only_step G g' (fun _ h => .inl h)
  have P' : Rq lim w54 g (t6 s) := P'
  clear O R G P g'
  obtain ⟨c0, c1, c2, c3, c4, c5, c6, c7, c8, c9, c10⟩ := O'.cells
  have fq := O'.fr 6
  go_wp2_with fail
  obtain ⟨w64, hu⟩ : ∃ Z, w54.setCell ⟨w2.heap.size, 6, none⟩ (.string (vT (t5 s))) = Z := ⟨_, rfl⟩
  have O : OpB w64 w2.heap.size d0 d1 d2 (vI (t1 s)) (vI (t2 s)) (vI (t3 s)) (vT (t5 s)) { data := #[] } 0 (vI (t4 s)) (.slice none 0 0) := by subst hu; exact O'.set6 _
  have gu : w54.grownBy w64 (some w2.heap.size) := by subst hu; exact set_at (only_refl _ _) 6 _
  rw [hu]
  clear hu c0 c1 c2 c3 c4 c5 c6 c7 c8 c9 c10 fq
  have P := P'.later gu ⟨by have := HLM.out; have := ob.out.2; omega, by have := ob.out.2; omega⟩
  have R := R'.other gu (by intro e; injection e with e; have := ob.out.1; omega)
  have G : w.grownBy w64 (some g) := only_step G' gu (fun k hk => by cases hk; right; have := ob.out.1; omega)
  clear O' R' G' P' gu
  refine (rqText g (t6 s) w64 P).mono ?_
  rintro _ w55 ⟨rfl, P', g'⟩
  have O' := O.other g' (by intro e; injection e with e; have := ob.out.2; omega)
  have R' := R.other g' (by intro e; injection e with e; have := HLT.out; omega)
  have G' : w.grownBy w55 (some g) := only_step G g' (fun _ h => .inl h)
  have P' : Rq lim w55 g (t7 s) := P'
  clear O R G P g'
  obtain ⟨c0, c1, c2, c3, c4, c5, c6, c7, c8, c9, c10⟩ := O'.cells
  have fq := O'.fr 7
  go_wp2_with fail
  obtain ⟨w65, hu⟩ : ∃ Z, w55.setCell ⟨w2.heap.size, 7, none⟩ (.string (vT (t6 s))) = Z := ⟨_, rfl⟩
  have O : OpB w65 w2.heap.size d0 d1 d2 (vI (t1 s)) (vI (t2 s)) (vI (t3 s)) (vT (t5 s)) (vT (t6 s)) 0 (vI (t4 s)) (.slice none 0 0) := by subst hu; exact O'.set7 _
  have gu : w55.grownBy w65 (some w2.heap.size) := by subst hu; exact set_at (only_refl _ _) 7 _
  rw [hu]
  clear hu c0 c1 c2 c3 c4 c5 c6 c7 c8 c9 c10 fq
  have P := P'.later gu ⟨by have := HLM.out; have := ob.out.2; omega, by have := ob.out.2; omega⟩
  have R := R'.other gu (by intro e; injection e with e; have := ob.out.1; omega)
  have G : w.grownBy w65 (some g) := only_step G' gu (fun k hk => by cases hk; right; have := ob.out.1; omega)
  clear O' R' G' P' gu
  refine (rqInt g (t7 s) w65 P).mono ?_
  rintro _ w56 ⟨rfl, P', g'⟩
  have O' := O.other g' (by intro e; injection e with e; have := ob.out.2; omega)
  have R' := R.other g' (by intro e; injection e with e; have := HLT.out; omega)
  have G' : w.grownBy w56 (some g) := only_step G g' (fun _ h => .inl h)
  have P' : Rq lim w56 g (t8 s) := P'
  clear O R G P g'
  obtain ⟨c0, c1, c2, c3, c4, c5, c6, c7, c8, c9, c10⟩ := O'.cells
  have fq := O'.fr 8
  go_wp2_with fail
  obtain ⟨w66, hu⟩ : ∃ Z, w56.setCell ⟨w2.heap.size, 8, none⟩ (.int .i64 (vI (t7 s))) = Z := ⟨_, rfl⟩
  have O : OpB w66 w2.heap.size d0 d1 d2 (vI (t1 s)) (vI (t2 s)) (vI (t3 s)) (vT (t5 s)) (vT (t6 s)) (vI (t7 s)) (vI (t4 s)) (.slice none 0 0) := by subst hu; exact O'.set8 _
  have gu : w56.grownBy w66 (some w2.heap.size) := by subst hu; exact set_at (only_refl _ _) 8 _
  rw [hu]
  clear hu c0 c1 c2 c3 c4 c5 c6 c7 c8 c9 c10 fq
  have P := P'.later gu ⟨by have := HLM.out; have := ob.out.2; omega, by have := ob.out.2; omega⟩
  have R := R'.other gu (by intro e; injection e with e; have := ob.out.1; omega)
  have G : w.grownBy w66 (some g) := only_step G' gu (fun k hk => by cases hk; right; have := ob.out.1; omega)
  clear O' R' G' P' gu
  refine (rqInt g (t8 s) w66 P).mono ?_
  rintro _ wa ⟨rfl, Pa, ga⟩
  have HO0 := Lib.hid (O.other ga (by intro e; injection e with e; have := ob.out.2; omega))
  have HR0 := Lib.hid (R.other ga (by intro e; injection e with e; have := HLT.out; omega))
  have HG0 : Hid (w.grownBy wa (some g)) := only_step G ga (fun _ h => .inl h)
  have HP0 := Lib.hid Pa
  clear O R G P ga Pa
  obtain ⟨F3, hF3⟩ : ∃ x, vI (t1 s) = x := ⟨_, rfl⟩
  obtain ⟨F4, hF4⟩ : ∃ x, vI (t2 s) = x := ⟨_, rfl⟩
  obtain ⟨F5, hF5⟩ : ∃ x, vI (t3 s) = x := ⟨_, rfl⟩
  obtain ⟨F6, hF6⟩ : ∃ x, vT (t5 s) = x := ⟨_, rfl⟩
  obtain ⟨F7, hF7⟩ : ∃ x, vT (t6 s) = x := ⟨_, rfl⟩
  obtain ⟨F8, hF8⟩ : ∃ x, vI (t7 s) = x := ⟨_, rfl⟩
  obtain ⟨F9, hF9⟩ : ∃ x, vI (t4 s) = x := ⟨_, rfl⟩
  rw [hF3, hF4, hF5, hF6, hF7, hF8, hF9] at HO0
  have HF := Lib.hid (And.intro hd0 (And.intro hd1 (And.intro hd2 (And.intro hF3 (And.intro hF4 (And.intro hF5 (And.intro hF6 (And.intro hF7 (And.intro hF8 hF9)))))))))
  clear hd0 hd1 hd2 hF3 hF4 hF5 hF6 hF7 hF8 hF9
  have hnn : ¬ (0 ≤ vI (t8 s) ∧ vI (t8 s) ≤ 8) := by have := HC.out; omega
  have ht : t10 s = flS (stI (t8 s)) 4 := by unfold t10; rw [if_neg hnn]
  have hcn : cntS s = 0 := by unfold cntS; rw [if_neg hnn]
  have hee : endS s = flS (stI (t8 s)) 4 := by unfold endS; rw [hcn, ht]; rfl
  have HEE := Lib.hid hee
  obtain ⟨N, hN⟩ : ∃ x, vI (t8 s) = x := ⟨_, rfl⟩
  have hcc := HC.out
  rw [hN] at hcc ⊢
  have n0 : N < 0 := hcc
  clear hnn ht hcn hee hcc hN HC
  go_wp2_with fail
  refine (rqFail g _ 4 wa HP0.out).mono ?_
  rintro _ wb ⟨rfl, Pb, gb⟩
  have HP := Lib.hid Pb
  have HO := Lib.hid (HO0.out.other gb (by intro e; injection e with e; have := ob.out.2; omega))
  have HR := Lib.hid (HR0.out.other gb (by intro e; injection e with e; have := HLT.out; omega))
  have HG : Hid (w.grownBy wb (some g)) := only_step HG0.out gb (fun _ h => .inl h)
  have HW : Hid (wb.ownsRow w.heap.size 23 3 (.slice none 0 0) 0 (dc [])) := World.ownsRow_nil _ _ _ _
  clear gb Pb
  go_wp2_with fail
  go_loopw [5] (fun si wr => si = .int .i64 0 ∧ Hid (Rq lim wr g (flS (stI (t8 s)) 4)) ∧ Hid (OpB wr w2.heap.size d0 d1 d2 F3 F4 F5 F6 F7 F8 F9 (.slice none 0 0)) ∧ Hid (wr.ownsRow w.heap.size 23 3 (.slice none 0 0) 0 (dc [])) ∧ Hid (OpB wr w.heap.size 0 0 0 0 0 0 { data := #[] } { data := #[] } 0 0 (.slice none 0 0)) ∧ Hid (w.grownBy wr (some g)))
    (fun _ _ => 0)
  case atStart => exact ⟨rfl, HP, HO, HW, HR, HG⟩
  case round =>
    clear HP HO HR HG HW HP0 HO0 HR0 HG0
    obtain ⟨rfl, HP, HO, HW, HR, HG⟩ := hrel
    have n9 : ¬ (0 : Int) < N := by omega
    obtain ⟨c0, c1, c2, c3, c4, c5, c6, c7, c8, c9, c10⟩ := HO.out.cells
    obtain ⟨r0, r1, r2, r3, r4, r5, r6, r7, r8, r9, r10⟩ := HR.out.cells
    have f0 := HR.out.fr 0
    have f1 := HR.out.fr 1
    have f2 := HR.out.fr 2
    have f3 := HR.out.fr 3
    have f4 := HR.out.fr 4
    have f5 := HR.out.fr 5
    have f6 := HR.out.fr 6
    have f7 := HR.out.fr 7
    have f8 := HR.out.fr 8
    have f9 := HR.out.fr 9
    have f10 := HR.out.fr 10
    go_wp2_with fail
    obtain ⟨U, hU⟩ : ∃ Z, (((((((((((wr.setCell ⟨w.heap.size, 0, none⟩ (.int .i64 d0)).setCell ⟨w.heap.size, 1, none⟩ (.int .i64 d1)).setCell ⟨w.heap.size, 2, none⟩ (.int .i64 d2)).setCell ⟨w.heap.size, 3, none⟩ (.int .i64 F3)).setCell ⟨w.heap.size, 4, none⟩ (.int .i64 F4)).setCell ⟨w.heap.size, 5, none⟩ (.int .i64 F5)).setCell ⟨w.heap.size, 6, none⟩ (.string F6)).setCell ⟨w.heap.size, 7, none⟩ (.string F7)).setCell ⟨w.heap.size, 8, none⟩ (.int .i64 F8)).setCell ⟨w.heap.size, 9, none⟩ (.int .i64 F9)).setCell ⟨w.heap.size, 10, none⟩ (.slice none 0 0)) = Z := ⟨_, rfl⟩
    have RU : OpB U w.heap.size d0 d1 d2 F3 F4 F5 F6 F7 F8 F9 (.slice none 0 0) := by subst hU; exact (((((((((((HR.out.set0 _).set1 _).set2 _).set3 _).set4 _).set5 _).set6 _).set7 _).set8 _).set9 _).set10 _)
    have gU : wr.grownBy U (some w.heap.size) := by subst hU; exact (set_at (set_at (set_at (set_at (set_at (set_at (set_at (set_at (set_at (set_at (set_at (only_refl _ _) 0 _) 1 _) 2 _) 3 _) 4 _) 5 _) 6 _) 7 _) 8 _) 9 _) 10 _)
    rw [hU]
    clear hU c0 c1 c2 c3 c4 c5 c6 c7 c8 c9 c10 r0 r1 r2 r3 r4 r5 r6 r7 r8 r9 r10 f0 f1 f2 f3 f4 f5 f6 f7 f8 f9 f10
    obtain ⟨r0, r1, r2, r3, r4, r5, r6, r7, r8, r9, r10⟩ := RU.cells
    refine bodyPost_ret (v := .agg #[.int .i64 d0, .int .i64 d1, .int .i64 d2, .int .i64 F3, .int .i64 F4, .int .i64 F5, .string F6, .string F7, .int .i64 F8, .int .i64 F9, .slice none 0 0]) (by simp [results, Try.results43, go_sem, r0, r1, r2, r3, r4, r5, r6, r7, r8, r9, r10]) rfl ?_
    obtain ⟨e0, e1, e2, e3, e4, e5, e6, e7, e8, e9⟩ := HF.out
    refine ⟨[], none, 0, ?_, ?_, ?_, ?_, ?_, ?_, only_step HG.out gU (fun q hq => by cases hq; exact .inr (Nat.le_refl _))⟩
    · rw [← e0, ← e1, ← e2, ← e3, ← e4, ← e5, ← e6, ← e7, ← e8, ← e9]
      skip
      rfl
    · show World.ownsRow _ _ _ _ _ _ _
      exact HW.out.kept gU (own_apart HW.out HR.out)
    · exact Nat.zero_le _
    · intro p hp; cases hp
    · intro h0; rw [HEE.out] at h0; exact absurd h0 (fl_ne _)
    · have hend := HP.out.later gU ⟨by have := HLM.out; have := HLT.out; omega, by have := HLT.out; omega⟩
      rw [HEE.out]; exact hend
set_option maxRecDepth 100000 in
set_option maxHeartbeats 4000000 in
theorem rread_hi {lim : Nat} (g : Nat) (s : RS) (w : World) (h : Rq lim w g s) (hc : 8 < vI (t8 s)) : Calls Try.prog 43 #[.pointer (some ⟨g, 0, none⟩)] w (RReadP lim w g s) := by
  have H := Lib.hid h
  have HLT := Lib.hid h.lt
  have HLM := Lib.hid h.lim
  have HC := Lib.hid hc
  clear h hc
  obtain ⟨w1, hw1⟩ : ∃ Z, w.alloc (.cells #[.int .i64 0, .int .i64 0, .int .i64 0, .int .i64 0, .int .i64 0, .int .i64 0, .string { data := #[] }, .string { data := #[] }, .int .i64 0, .int .i64 0, .slice none 0 0] 26) = Z := ⟨_, rfl⟩
  have R1 : OpB w1 w.heap.size 0 0 0 0 0 0 { data := #[] } { data := #[] } 0 0 (.slice none 0 0) := by subst hw1; exact heap_alloc_new w _
  have g1 : w.grownBy w1 none := by subst hw1; exact World.grownBy_alloc w _ none
  go_enter Try.func43, Try.ntmps43
  go_wp2_with fail
  clear hw1
  refine (rdot_any g s w1 (H.out.off g1)).mono ?_
  rintro _ w2 ⟨rfl, P2, g2⟩
  have G2 : w.grownBy w2 (some g) := only_step (only_none g1 _) g2 (fun _ h => .inl h)
  have R2 := R1.other g2 (by intro e; injection e with e; have := HLT.out; omega)
  have z2 := R2.lt
  clear R1 g1 g2
  go_wp2_with fail
  obtain ⟨d0, hd0⟩ : ∃ x, (dotV s).1 = x := ⟨_, rfl⟩
  obtain ⟨d1, hd1⟩ : ∃ x, (dotV s).2.1 = x := ⟨_, rfl⟩
  obtain ⟨d2, hd2⟩ : ∃ x, (dotV s).2.2 = x := ⟨_, rfl⟩
  rw [hd0, hd1, hd2]
  obtain ⟨w4, hw4⟩ : ∃ Z, w2.alloc (.cells #[.int .i64 d0, .int .i64 d1, .int .i64 d2, .int .i64 0, .int .i64 0, .int .i64 0, .string { data := #[] }, .string { data := #[] }, .int .i64 0, .int .i64 0, .slice none 0 0] 26) = Z := ⟨_, rfl⟩
  have O : OpB w4 w2.heap.size d0 d1 d2 0 0 0 { data := #[] } { data := #[] } 0 0 (.slice none 0 0) := by subst hw4; exact heap_alloc_new w2 _
  have g4 : w2.grownBy w4 none := by subst hw4; exact World.grownBy_alloc w2 _ none
  rw [hw4]
  clear hw4
  have ob : Hid (w.heap.size < w2.heap.size ∧ g < w2.heap.size) := ⟨z2, by have := HLT.out; omega⟩
  have R := R2.other g4 (by simp)
  have P : Rq lim w4 g (t1 s) := P2.off g4
  have G : w.grownBy w4 (some g) := only_step G2 g4 (fun _ h => by cases h)
  clear R2 P2 G2 g4 z2
  refine (rqInt g (t1 s) w4 P).mono ?_
  rintro _ w50 ⟨rfl, P', g'⟩
  have O' := O.other g' (by intro e; injection e with e; have := ob.out.2; omega)
  have R' := R.other g' (by intro e; injection e with e; have := HLT.out; omega)
  have G' : w.grownBy w50 (some g) := only_step G g' (fun _ h => .inl h)
  have P' : Rq lim w50 g (t2 s) := P'
  clear O R G P g'
  obtain ⟨c0, c1, c2, c3, c4, c5, c6, c7, c8, c9, c10⟩ := O'.cells
  have fq := O'.fr 3
  go_wp2_with fail
  obtain ⟨w60, hu⟩ : ∃ Z, w50.setCell ⟨w2.heap.size, 3, none⟩ (.int .i64 (vI (t1 s))) = Z := ⟨_, rfl⟩
  have O : OpB w60 w2.heap.size d0 d1 d2 (vI (t1 s)) 0 0 { data := #[] } { data := #[] } 0 0 (.slice none 0 0) := by subst hu; exact O'.set3 _
  have gu : w50.grownBy w60 (some w2.heap.size) := by subst hu; exact set_at (only_refl _ _) 3 _
  rw [hu]
  clear hu c0 c1 c2 c3 c4 c5 c6 c7 c8 c9 c10 fq
  have P := P'.later gu ⟨by have := HLM.out; have := ob.out.2; omega, by have := ob.out.2; omega⟩
  have R := R'.other gu (by intro e; injection e with e; have := ob.out.1; omega)
  have G : w.grownBy w60 (some g) := only_step G' gu (fun k hk => by cases hk; right; have := ob.out.1; omega)
  clear O' R' G' P' gu
  refine (rqInt g (t2 s) w60 P).mono ?_
  rintro _ w51 ⟨rfl, P', g'⟩
  have O' := O.other g' (by intro e; injection e with e; have := ob.out.2; omega)
  have R' := R.other g' (by intro e; injection e with e; have := HLT.out; omega)
  have G' : w.grownBy w51 (some g) := only_step G g' (fun _ h => .inl h)
  have P' : Rq lim w51 g (t3 s) := P'
  clear O R G P g'
  obtain ⟨c0, c1, c2, c3, c4, c5, c6, c7, c8, c9, c10⟩ := O'.cells
  have fq := O'.fr 4
  go_wp2_with fail
  obtain ⟨w61, hu⟩ : ∃ Z, w51.setCell ⟨w2.heap.size, 4, none⟩ (.int .i64 (vI (t2 s))) = Z := ⟨_, rfl⟩
  have O : OpB w61 w2.heap.size d0 d1 d2 (vI (t1 s)) (vI (t2 s)) 0 { data := #[] } { data := #[] } 0 0 (.slice none 0 0) := by subst hu; exact O'.set4 _
  have gu : w51.grownBy w61 (some w2.heap.size) := by subst hu; exact set_at (only_refl _ _) 4 _
  rw [hu]
  clear hu c0 c1 c2 c3 c4 c5 c6 c7 c8 c9 c10 fq
  have P := P'.later gu ⟨by have := HLM.out; have := ob.out.2; omega, by have := ob.out.2; omega⟩
  have R := R'.other gu (by intro e; injection e with e; have := ob.out.1; omega)
  have G : w.grownBy w61 (some g) := only_step G' gu (fun k hk => by cases hk; right; have := ob.out.1; omega)
  clear O' R' G' P' gu
  refine (rqInt g (t3 s) w61 P).mono ?_
  rintro _ w52 ⟨rfl, P', g'⟩
  have O' := O.other g' (by intro e; injection e with e; have := ob.out.2; omega)
  have R' := R.other g' (by intro e; injection e with e; have := HLT.out; omega)
  have G' : w.grownBy w52 (some g) := only_step G g' (fun _ h => .inl h)
  have P' : Rq lim w52 g (t4 s) := P'
  clear O R G P g'
  obtain ⟨c0, c1, c2, c3, c4, c5, c6, c7, c8, c9, c10⟩ := O'.cells
  have fq := O'.fr 5
  go_wp2_with fail
  obtain ⟨w62, hu⟩ : ∃ Z, w52.setCell ⟨w2.heap.size, 5, none⟩ (.int .i64 (vI (t3 s))) = Z := ⟨_, rfl⟩
  have O : OpB w62 w2.heap.size d0 d1 d2 (vI (t1 s)) (vI (t2 s)) (vI (t3 s)) { data := #[] } { data := #[] } 0 0 (.slice none 0 0) := by subst hu; exact O'.set5 _
  have gu : w52.grownBy w62 (some w2.heap.size) := by subst hu; exact set_at (only_refl _ _) 5 _
  rw [hu]
  clear hu c0 c1 c2 c3 c4 c5 c6 c7 c8 c9 c10 fq
  have P := P'.later gu ⟨by have := HLM.out; have := ob.out.2; omega, by have := ob.out.2; omega⟩
  have R := R'.other gu (by intro e; injection e with e; have := ob.out.1; omega)
  have G : w.grownBy w62 (some g) := only_step G' gu (fun k hk => by cases hk; right; have := ob.out.1; omega)
  clear O' R' G' P' gu
  refine (rqInt g (t4 s) w62 P).mono ?_
  rintro _ w53 ⟨rfl, P', g'⟩
  have O' := O.other g' (by intro e; injection e with e; have := ob.out.2; omega)
  have R' := R.other g' (by intro e; injection e with e; have := HLT.out; omega)
  have G' : w.grownBy w53 (some g) := only_step G g' (fun _ h => .inl h)
  have P' : Rq lim w53 g (t5 s) := P'
  clear O R G P g'
  obtain ⟨c0, c1, c2, c3, c4, c5, c6, c7, c8, c9, c10⟩ := O'.cells
  have fq := O'.fr 9
  go_wp2_with fail
  obtain ⟨w63, hu⟩ : ∃ Z, w53.setCell ⟨w2.heap.size, 9, none⟩ (.int .i64 (vI (t4 s))) = Z := ⟨_, rfl⟩
  have O : OpB w63 w2.heap.size d0 d1 d2 (vI (t1 s)) (vI (t2 s)) (vI (t3 s)) { data := #[] } { data := #[] } 0 (vI (t4 s)) (.slice none 0 0) := by subst hu; exact O'.set9 _
  have gu : w53.grownBy w63 (some w2.heap.size) := by subst hu; exact set_at (only_refl _ _) 9 _
  rw [hu]
  clear hu c0 c1 c2 c3 c4 c5 c6 c7 c8 c9 c10 fq
  have P := P'.later gu ⟨by have := HLM.out; have := ob.out.2; omega, by have := ob.out.2; omega⟩
  have R := R'.other gu (by intro e; injection e with e; have := ob.out.1; omega)
  have G : w.grownBy w63 (some g) := only_step G' gu (fun k hk => by cases hk; right; have := ob.out.1; omega)
  clear O' R' G' P' gu
  refine (rqText g (t5 s) w63 P).mono ?_
  rintro _ w54 ⟨rfl, P', g'⟩
  have O' := O.other g' (by intro e; injection e with e; have := ob.out.2; omega)
  have R' := R.other g' (by intro e; injection e with e; have := HLT.out; omega)
  have G' : w.grownBy w54 (some g) := only_step G g' (fun _ h => .inl h)
  have P' : Rq lim w54 g (t6 s) := P'
  clear O R G P g'
  obtain ⟨c0, c1, c2, c3, c4, c5, c6, c7, c8, c9, c10⟩ := O'.cells
  have fq := O'.fr 6
  go_wp2_with fail
  obtain ⟨w64, hu⟩ : ∃ Z, w54.setCell ⟨w2.heap.size, 6, none⟩ (.string (vT (t5 s))) = Z := ⟨_, rfl⟩
  have O : OpB w64 w2.heap.size d0 d1 d2 (vI (t1 s)) (vI (t2 s)) (vI (t3 s)) (vT (t5 s)) { data := #[] } 0 (vI (t4 s)) (.slice none 0 0) := by subst hu; exact O'.set6 _
  have gu : w54.grownBy w64 (some w2.heap.size) := by subst hu; exact set_at (only_refl _ _) 6 _
  rw [hu]
  clear hu c0 c1 c2 c3 c4 c5 c6 c7 c8 c9 c10 fq
  have P := P'.later gu ⟨by have := HLM.out; have := ob.out.2; omega, by have := ob.out.2; omega⟩
  have R := R'.other gu (by intro e; injection e with e; have := ob.out.1; omega)
  have G : w.grownBy w64 (some g) := only_step G' gu (fun k hk => by cases hk; right; have := ob.out.1; omega)
  clear O' R' G' P' gu
  refine (rqText g (t6 s) w64 P).mono ?_
  rintro _ w55 ⟨rfl, P', g'⟩
  have O' := O.other g' (by intro e; injection e with e; have := ob.out.2; omega)
  have R' := R.other g' (by intro e; injection e with e; have := HLT.out; omega)
  have G' : w.grownBy w55 (some g) := only_step G g' (fun _ h => .inl h)
  have P' : Rq lim w55 g (t7 s) := P'
  clear O R G P g'
  obtain ⟨c0, c1, c2, c3, c4, c5, c6, c7, c8, c9, c10⟩ := O'.cells
  have fq := O'.fr 7
  go_wp2_with fail
  obtain ⟨w65, hu⟩ : ∃ Z, w55.setCell ⟨w2.heap.size, 7, none⟩ (.string (vT (t6 s))) = Z := ⟨_, rfl⟩
  have O : OpB w65 w2.heap.size d0 d1 d2 (vI (t1 s)) (vI (t2 s)) (vI (t3 s)) (vT (t5 s)) (vT (t6 s)) 0 (vI (t4 s)) (.slice none 0 0) := by subst hu; exact O'.set7 _
  have gu : w55.grownBy w65 (some w2.heap.size) := by subst hu; exact set_at (only_refl _ _) 7 _
  rw [hu]
  clear hu c0 c1 c2 c3 c4 c5 c6 c7 c8 c9 c10 fq
  have P := P'.later gu ⟨by have := HLM.out; have := ob.out.2; omega, by have := ob.out.2; omega⟩
  have R := R'.other gu (by intro e; injection e with e; have := ob.out.1; omega)
  have G : w.grownBy w65 (some g) := only_step G' gu (fun k hk => by cases hk; right; have := ob.out.1; omega)
  clear O' R' G' P' gu
  refine (rqInt g (t7 s) w65 P).mono ?_
  rintro _ w56 ⟨rfl, P', g'⟩
  have O' := O.other g' (by intro e; injection e with e; have := ob.out.2; omega)
  have R' := R.other g' (by intro e; injection e with e; have := HLT.out; omega)
  have G' : w.grownBy w56 (some g) := only_step G g' (fun _ h => .inl h)
  have P' : Rq lim w56 g (t8 s) := P'
  clear O R G P g'
  obtain ⟨c0, c1, c2, c3, c4, c5, c6, c7, c8, c9, c10⟩ := O'.cells
  have fq := O'.fr 8
  go_wp2_with fail
  obtain ⟨w66, hu⟩ : ∃ Z, w56.setCell ⟨w2.heap.size, 8, none⟩ (.int .i64 (vI (t7 s))) = Z := ⟨_, rfl⟩
  have O : OpB w66 w2.heap.size d0 d1 d2 (vI (t1 s)) (vI (t2 s)) (vI (t3 s)) (vT (t5 s)) (vT (t6 s)) (vI (t7 s)) (vI (t4 s)) (.slice none 0 0) := by subst hu; exact O'.set8 _
  have gu : w56.grownBy w66 (some w2.heap.size) := by subst hu; exact set_at (only_refl _ _) 8 _
  rw [hu]
  clear hu c0 c1 c2 c3 c4 c5 c6 c7 c8 c9 c10 fq
  have P := P'.later gu ⟨by have := HLM.out; have := ob.out.2; omega, by have := ob.out.2; omega⟩
  have R := R'.other gu (by intro e; injection e with e; have := ob.out.1; omega)
  have G : w.grownBy w66 (some g) := only_step G' gu (fun k hk => by cases hk; right; have := ob.out.1; omega)
  clear O' R' G' P' gu
  refine (rqInt g (t8 s) w66 P).mono ?_
  rintro _ wa ⟨rfl, Pa, ga⟩
  have HO0 := Lib.hid (O.other ga (by intro e; injection e with e; have := ob.out.2; omega))
  have HR0 := Lib.hid (R.other ga (by intro e; injection e with e; have := HLT.out; omega))
  have HG0 : Hid (w.grownBy wa (some g)) := only_step G ga (fun _ h => .inl h)
  have HP0 := Lib.hid Pa
  clear O R G P ga Pa
  obtain ⟨F3, hF3⟩ : ∃ x, vI (t1 s) = x := ⟨_, rfl⟩
  obtain ⟨F4, hF4⟩ : ∃ x, vI (t2 s) = x := ⟨_, rfl⟩
  obtain ⟨F5, hF5⟩ : ∃ x, vI (t3 s) = x := ⟨_, rfl⟩
  obtain ⟨F6, hF6⟩ : ∃ x, vT (t5 s) = x := ⟨_, rfl⟩
  obtain ⟨F7, hF7⟩ : ∃ x, vT (t6 s) = x := ⟨_, rfl⟩
  obtain ⟨F8, hF8⟩ : ∃ x, vI (t7 s) = x := ⟨_, rfl⟩
  obtain ⟨F9, hF9⟩ : ∃ x, vI (t4 s) = x := ⟨_, rfl⟩
  rw [hF3, hF4, hF5, hF6, hF7, hF8, hF9] at HO0
  have HF := Lib.hid (And.intro hd0 (And.intro hd1 (And.intro hd2 (And.intro hF3 (And.intro hF4 (And.intro hF5 (And.intro hF6 (And.intro hF7 (And.intro hF8 hF9)))))))))
  clear hd0 hd1 hd2 hF3 hF4 hF5 hF6 hF7 hF8 hF9
  have hnn : ¬ (0 ≤ vI (t8 s) ∧ vI (t8 s) ≤ 8) := by have := HC.out; omega
  have ht : t10 s = flS (stI (t8 s)) 4 := by unfold t10; rw [if_neg hnn]
  have hcn : cntS s = 0 := by unfold cntS; rw [if_neg hnn]
  have hee : endS s = flS (stI (t8 s)) 4 := by unfold endS; rw [hcn, ht]; rfl
  have HEE := Lib.hid hee
  obtain ⟨N, hN⟩ : ∃ x, vI (t8 s) = x := ⟨_, rfl⟩
  have hcc := HC.out
  rw [hN] at hcc ⊢
  have n8 : (8 : Int) < N := hcc
  have n0 : ¬ N < 0 := by omega
  clear hnn ht hcn hee hcc hN HC
  go_wp2_with fail
  refine (rqFail g _ 4 wa HP0.out).mono ?_
  rintro _ wb ⟨rfl, Pb, gb⟩
  have HP := Lib.hid Pb
  have HO := Lib.hid (HO0.out.other gb (by intro e; injection e with e; have := ob.out.2; omega))
  have HR := Lib.hid (HR0.out.other gb (by intro e; injection e with e; have := HLT.out; omega))
  have HG : Hid (w.grownBy wb (some g)) := only_step HG0.out gb (fun _ h => .inl h)
  have HW : Hid (wb.ownsRow w.heap.size 23 3 (.slice none 0 0) 0 (dc [])) := World.ownsRow_nil _ _ _ _
  clear gb Pb
  go_wp2_with fail
  go_loopw [5] (fun si wr => si = .int .i64 0 ∧ Hid (Rq lim wr g (flS (stI (t8 s)) 4)) ∧ Hid (OpB wr w2.heap.size d0 d1 d2 F3 F4 F5 F6 F7 F8 F9 (.slice none 0 0)) ∧ Hid (wr.ownsRow w.heap.size 23 3 (.slice none 0 0) 0 (dc [])) ∧ Hid (OpB wr w.heap.size 0 0 0 0 0 0 { data := #[] } { data := #[] } 0 0 (.slice none 0 0)) ∧ Hid (w.grownBy wr (some g)))
    (fun _ _ => 0)
  case atStart => exact ⟨rfl, HP, HO, HW, HR, HG⟩
  case round =>
    clear HP HO HR HG HW HP0 HO0 HR0 HG0
    obtain ⟨rfl, HP, HO, HW, HR, HG⟩ := hrel
    have n9 : (0 : Int) < N := by omega
    have cerr := HP.out.err
    have hb : ((flS (stI (t8 s)) 4).2 == 0) = false := by rw [beq_eq_false_iff_ne]; exact fl_ne _
    obtain ⟨c0, c1, c2, c3, c4, c5, c6, c7, c8, c9, c10⟩ := HO.out.cells
    obtain ⟨r0, r1, r2, r3, r4, r5, r6, r7, r8, r9, r10⟩ := HR.out.cells
    have f0 := HR.out.fr 0
    have f1 := HR.out.fr 1
    have f2 := HR.out.fr 2
    have f3 := HR.out.fr 3
    have f4 := HR.out.fr 4
    have f5 := HR.out.fr 5
    have f6 := HR.out.fr 6
    have f7 := HR.out.fr 7
    have f8 := HR.out.fr 8
    have f9 := HR.out.fr 9
    have f10 := HR.out.fr 10
    go_wp2_with fail
    obtain ⟨U, hU⟩ : ∃ Z, (((((((((((wr.setCell ⟨w.heap.size, 0, none⟩ (.int .i64 d0)).setCell ⟨w.heap.size, 1, none⟩ (.int .i64 d1)).setCell ⟨w.heap.size, 2, none⟩ (.int .i64 d2)).setCell ⟨w.heap.size, 3, none⟩ (.int .i64 F3)).setCell ⟨w.heap.size, 4, none⟩ (.int .i64 F4)).setCell ⟨w.heap.size, 5, none⟩ (.int .i64 F5)).setCell ⟨w.heap.size, 6, none⟩ (.string F6)).setCell ⟨w.heap.size, 7, none⟩ (.string F7)).setCell ⟨w.heap.size, 8, none⟩ (.int .i64 F8)).setCell ⟨w.heap.size, 9, none⟩ (.int .i64 F9)).setCell ⟨w.heap.size, 10, none⟩ (.slice none 0 0)) = Z := ⟨_, rfl⟩
    have RU : OpB U w.heap.size d0 d1 d2 F3 F4 F5 F6 F7 F8 F9 (.slice none 0 0) := by subst hU; exact (((((((((((HR.out.set0 _).set1 _).set2 _).set3 _).set4 _).set5 _).set6 _).set7 _).set8 _).set9 _).set10 _)
    have gU : wr.grownBy U (some w.heap.size) := by subst hU; exact (set_at (set_at (set_at (set_at (set_at (set_at (set_at (set_at (set_at (set_at (set_at (only_refl _ _) 0 _) 1 _) 2 _) 3 _) 4 _) 5 _) 6 _) 7 _) 8 _) 9 _) 10 _)
    rw [hU]
    clear hU c0 c1 c2 c3 c4 c5 c6 c7 c8 c9 c10 r0 r1 r2 r3 r4 r5 r6 r7 r8 r9 r10 f0 f1 f2 f3 f4 f5 f6 f7 f8 f9 f10
    obtain ⟨r0, r1, r2, r3, r4, r5, r6, r7, r8, r9, r10⟩ := RU.cells
    refine bodyPost_ret (v := .agg #[.int .i64 d0, .int .i64 d1, .int .i64 d2, .int .i64 F3, .int .i64 F4, .int .i64 F5, .string F6, .string F7, .int .i64 F8, .int .i64 F9, .slice none 0 0]) (by simp [results, Try.results43, go_sem, r0, r1, r2, r3, r4, r5, r6, r7, r8, r9, r10]) rfl ?_
    obtain ⟨e0, e1, e2, e3, e4, e5, e6, e7, e8, e9⟩ := HF.out
    refine ⟨[], none, 0, ?_, ?_, ?_, ?_, ?_, ?_, only_step HG.out gU (fun q hq => by cases hq; exact .inr (Nat.le_refl _))⟩
    · rw [← e0, ← e1, ← e2, ← e3, ← e4, ← e5, ← e6, ← e7, ← e8, ← e9]
      skip
      rfl
    · show World.ownsRow _ _ _ _ _ _ _
      exact HW.out.kept gU (own_apart HW.out HR.out)
    · exact Nat.zero_le _
    · intro p hp; cases hp
    · intro h0; rw [HEE.out] at h0; exact absurd h0 (fl_ne _)
    · have hend := HP.out.later gU ⟨by have := HLM.out; have := HLT.out; omega, by have := HLT.out; omega⟩
      rw [HEE.out]; exact hend
theorem rread_any {lim : Nat} (g : Nat) (s : RS) (w : World) (h : Rq lim w g s) : Calls Try.prog 43 #[.pointer (some ⟨g, 0, none⟩)] w (RReadP lim w g s) := by
  by_cases h1 : vI (t8 s) < 0
  · exact rread_lo g s w h h1
  · by_cases h2 : 8 < vI (t8 s)
    · exact rread_hi g s w h h2
    · exact rread_ok g s w h ⟨by omega, by omega⟩
end Go.Proofs.Ytcmpeohooiehcaa
