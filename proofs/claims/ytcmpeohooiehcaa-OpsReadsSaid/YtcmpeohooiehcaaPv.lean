/- ops.Parse and the reference's Parse, whatever the bytes. Conditions: fewer than 2^40 bytes. -/
import Derived.Test.YtcmpeohooiehcaaChq
import Derived.Test.YtcmpeohooiehcaaOcf
import Derived.Test.YtcmpeohooiehcaaOrl
namespace Go.Proofs.Ytcmpeohooiehcaa
open Go.RowKit Go.Deep Go.ChangeShapes
/-- An operation's values. -/
structure OpV where
  d : Int
  e : Int
  s : Int
  coll : Int
  ver : Int
  kind : Int
  n : Int
  time : Int
  key : ByteArray
  text : ByteArray
  l : List Dt
def OpV.agg (v : OpV) (A : Option Addr) (c : Nat) : Value := .agg #[.int .i64 v.d, .int .i64 v.e, .int .i64 v.s, .int .i64 v.coll, .int .i64 v.ver, .int .i64 v.kind, .string v.key, .string v.text, .int .i64 v.n, .int .i64 v.time, .slice A v.l.length c]
def OpV.check (v : OpV) : Int := checkF v.d v.e v.s v.coll v.ver v.kind v.n v.time v.key v.text v.l
def OpV.bytes (v : OpV) : List Int := opB v.d v.e v.s v.coll v.ver v.kind v.n v.time v.key v.text v.l
def zeroV : OpV := ⟨0, 0, 0, 0, 0, 0, 0, 0, { data := #[] }, { data := #[] }, []⟩
/-- What is read. -/
def opV (s : RS) : OpV := ⟨vI s, vI (stI s), vI (stI (stI s)), vI (t1 s), vI (t2 s), vI (t3 s), vI (t7 s), vI (t4 s), vT (t5 s), vT (t6 s), rdots s⟩
def endE (s : RS) : Int := endOf (endS s).1 (endS s).2
def readE (v : OpV) (en : Int) : Int := if en = 0 then v.check else en
def readV (v : OpV) (en : Int) : OpV := if readE v en = 0 then v else zeroV
def parseE (l : List Int) : Int := readE (opV (l, 0)) (endE (l, 0))
def parseV (l : List Int) : OpV := readV (opV (l, 0)) (endE (l, 0))
def ParseP (v : OpV) (en : Int) (e' : Ending) (w' : World) : Prop := ∃ (A : Option Addr) (c : Nat), e' = .returned (.tuple #[(readV v en).agg A c, .int .i64 (readE v en)]) ∧ ∃ base, w'.ownsRow base 23 3 (.slice A (readV v en).l.length c) (readV v en).l.length (dc (readV v en).l)
theorem pend (g : Nat) (s : RS) (w : World) (h : Rp w g s) : Calls Try.prog 41 #[.pointer (some ⟨g, 0, none⟩)] w fun e w' => e = .returned (.int .i64 (endOf s.1 s.2)) ∧ w = w' :=
  end_any g s.1 s.2 w h.1 h.2.1
theorem qend {lim : Nat} (g : Nat) (s : RS) (w : World) (h : Rq lim w g s) : Calls Try.prog 44 #[.pointer (some ⟨g, 0, none⟩)] w fun e w' => e = .returned (.int .i64 (endOf s.1 s.2)) ∧ w.grownBy w' none :=
  (rfEnd_any g s.1 s.2 w h.1).mono fun _ _ h => ⟨h.1, h.2.2⟩
set_option maxRecDepth 100000 in
set_option maxHeartbeats 4000000 in
theorem checked_any (v : OpV) (A : Option Addr) (c g base : Nat) (s : RS) (w : World) (h : Rp w g s) (hA : w.ownsRow base 23 3 (.slice A v.l.length c) v.l.length (dc v.l)) :
    Calls Try.prog 39 #[.agg #[.int .i64 v.d, .int .i64 v.e, .int .i64 v.s, .int .i64 v.coll, .int .i64 v.ver, .int .i64 v.kind, .string v.key, .string v.text, .int .i64 v.n, .int .i64 v.time, .slice A v.l.length c], .func (.func 41) #[.pointer (some ⟨g, 0, none⟩)] #[]] w fun e' w' => ParseP v (endOf s.1 s.2) e' w' ∧ w.grownBy w' none := by
  have H := Lib.hid h
  have HA := Lib.hid hA
  clear h hA
  obtain ⟨w2, hw2⟩ : ∃ Z, (w.alloc (.cells #[.int .i64 v.d, .int .i64 v.e, .int .i64 v.s, .int .i64 v.coll, .int .i64 v.ver, .int .i64 v.kind, .string v.key, .string v.text, .int .i64 v.n, .int .i64 v.time, .slice A v.l.length c] 26)).alloc (.cells #[.int .i64 0, .int .i64 0, .int .i64 0, .int .i64 0, .int .i64 0, .int .i64 0, .string { data := #[] }, .string { data := #[] }, .int .i64 0, .int .i64 0, .slice none 0 0] 26) = Z := ⟨_, rfl⟩
  have B0 : OpB w2 w.heap.size v.d v.e v.s v.coll v.ver v.kind v.key v.text v.n v.time (.slice A v.l.length c) := by subst hw2; exact (Below.heap_alloc _ _ _ (by simp)).trans (heap_alloc_new w _)
  have R0 : OpB w2 (w.heap.size + 1) 0 0 0 0 0 0 { data := #[] } { data := #[] } 0 0 (.slice none 0 0) := by
    subst hw2
    have := heap_alloc_new (w.alloc (.cells #[.int .i64 v.d, .int .i64 v.e, .int .i64 v.s, .int .i64 v.coll, .int .i64 v.ver, .int .i64 v.kind, .string v.key, .string v.text, .int .i64 v.n, .int .i64 v.time, .slice A v.l.length c] 26)) (.cells #[.int .i64 0, .int .i64 0, .int .i64 0, .int .i64 0, .int .i64 0, .int .i64 0, .string { data := #[] }, .string { data := #[] }, .int .i64 0, .int .i64 0, .slice none 0 0] 26)
    rwa [World.size_alloc] at this
  have g2 : w.grownBy w2 none := by subst hw2; exact only_alloc (only_alloc (only_refl _ _) _) _
  obtain ⟨en, hen⟩ : ∃ x, endOf s.1 s.2 = x := ⟨_, rfl⟩
  rw [hen]
  go_enter Try.func39, Try.ntmps39
  go_wp2_with fail
  clear hw2
  refine (pend g s w2 (H.out.off g2)).mono ?_
  rintro _ w3 ⟨rfl, rfl⟩
  rw [hen]
  clear hen
  by_cases h0 : en = 0
  · subst h0
    obtain ⟨c0, c1, c2, c3, c4, c5, c6, c7, c8, c9, c10⟩ := B0.cells
    go_wp2_with fail
    refine (check_f v.d v.e v.s v.coll v.ver v.kind v.n v.time v.key v.text A c v.l w2 (Has.own_w (HA.out.kept g2 (by cases (Value.slice A v.l.length c).ownBlock <;> simp)))).mono ?_
    rintro _ w4 ⟨rfl, g4⟩
    have B4 := B0.other g4 (by simp)
    have R4 := R0.other g4 (by simp)
    have G4 : w.grownBy w4 none := only_step g2 g4 (fun _ h => .inl h)
    obtain ⟨ck, hck⟩ : ∃ x, checkF v.d v.e v.s v.coll v.ver v.kind v.n v.time v.key v.text v.l = x := ⟨_, rfl⟩
    rw [hck]
    have HCK : Hid (readE v 0 = ck) := by unfold Hid readE OpV.check; rw [if_pos rfl, hck]
    clear hck c0 c1 c2 c3 c4 c5 c6 c7 c8 c9 c10 B0 R0 g2 g4
    obtain ⟨c0, c1, c2, c3, c4, c5, c6, c7, c8, c9, c10⟩ := B4.cells
    obtain ⟨r0, r1, r2, r3, r4, r5, r6, r7, r8, r9, r10⟩ := R4.cells
    have f0 := R4.fr 0
    have f1 := R4.fr 1
    have f2 := R4.fr 2
    have f3 := R4.fr 3
    have f4 := R4.fr 4
    have f5 := R4.fr 5
    have f6 := R4.fr 6
    have f7 := R4.fr 7
    have f8 := R4.fr 8
    have f9 := R4.fr 9
    have f10 := R4.fr 10
    by_cases h1 : ck = 0
    · subst h1
      go_wp2_with fail
      obtain ⟨U, hU⟩ : ∃ Z, (((((((((((w4.setCell ⟨w.heap.size + 1, 0, none⟩ (.int .i64 v.d)).setCell ⟨w.heap.size + 1, 1, none⟩ (.int .i64 v.e)).setCell ⟨w.heap.size + 1, 2, none⟩ (.int .i64 v.s)).setCell ⟨w.heap.size + 1, 3, none⟩ (.int .i64 v.coll)).setCell ⟨w.heap.size + 1, 4, none⟩ (.int .i64 v.ver)).setCell ⟨w.heap.size + 1, 5, none⟩ (.int .i64 v.kind)).setCell ⟨w.heap.size + 1, 6, none⟩ (.string v.key)).setCell ⟨w.heap.size + 1, 7, none⟩ (.string v.text)).setCell ⟨w.heap.size + 1, 8, none⟩ (.int .i64 v.n)).setCell ⟨w.heap.size + 1, 9, none⟩ (.int .i64 v.time)).setCell ⟨w.heap.size + 1, 10, none⟩ (.slice A v.l.length c)) = Z := ⟨_, rfl⟩
      have RU : OpB U (w.heap.size + 1) v.d v.e v.s v.coll v.ver v.kind v.key v.text v.n v.time (.slice A v.l.length c) := by subst hU; exact (((((((((((R4.set0 _).set1 _).set2 _).set3 _).set4 _).set5 _).set6 _).set7 _).set8 _).set9 _).set10 _)
      have gU : w4.grownBy U (some (w.heap.size + 1)) := by subst hU; exact (set_at (set_at (set_at (set_at (set_at (set_at (set_at (set_at (set_at (set_at (set_at (only_refl _ _) 0 _) 1 _) 2 _) 3 _) 4 _) 5 _) 6 _) 7 _) 8 _) 9 _) 10 _)
      rw [hU]
      clear hU r0 r1 r2 r3 r4 r5 r6 r7 r8 r9 r10
      obtain ⟨r0, r1, r2, r3, r4, r5, r6, r7, r8, r9, r10⟩ := RU.cells
      refine bodyPost_ret (v := .tuple #[.agg #[.int .i64 v.d, .int .i64 v.e, .int .i64 v.s, .int .i64 v.coll, .int .i64 v.ver, .int .i64 v.kind, .string v.key, .string v.text, .int .i64 v.n, .int .i64 v.time, .slice A v.l.length c], .int .i64 0]) (by simp [results, Try.results39, go_sem, r0, r1, r2, r3, r4, r5, r6, r7, r8, r9, r10]) rfl ⟨?_, only_step G4 gU (fun k hk => by cases hk; right; omega)⟩
      have hv : readV v 0 = v := by unfold readV; rw [if_pos HCK.out]
      unfold ParseP
      rw [hv, HCK.out]
      have o4 := HA.out.kept G4 (by cases (Value.slice A v.l.length c).ownBlock <;> simp)
      exact ⟨A, c, rfl, base, o4.kept gU (own_apart o4 R4)⟩
    · have hb : (ck != 0) = true := by rw [bne_iff_ne]; exact h1
      have HNE := Lib.hid h1
      clear h1
      go_wp2_with fail
      obtain ⟨U, hU⟩ : ∃ Z, (((((((((((w4.setCell ⟨w.heap.size + 1, 0, none⟩ (.int .i64 0)).setCell ⟨w.heap.size + 1, 1, none⟩ (.int .i64 0)).setCell ⟨w.heap.size + 1, 2, none⟩ (.int .i64 0)).setCell ⟨w.heap.size + 1, 3, none⟩ (.int .i64 0)).setCell ⟨w.heap.size + 1, 4, none⟩ (.int .i64 0)).setCell ⟨w.heap.size + 1, 5, none⟩ (.int .i64 0)).setCell ⟨w.heap.size + 1, 6, none⟩ (.string { data := #[] })).setCell ⟨w.heap.size + 1, 7, none⟩ (.string { data := #[] })).setCell ⟨w.heap.size + 1, 8, none⟩ (.int .i64 0)).setCell ⟨w.heap.size + 1, 9, none⟩ (.int .i64 0)).setCell ⟨w.heap.size + 1, 10, none⟩ (.slice none 0 0)) = Z := ⟨_, rfl⟩
      have RU : OpB U (w.heap.size + 1) 0 0 0 0 0 0 { data := #[] } { data := #[] } 0 0 (.slice none 0 0) := by subst hU; exact (((((((((((R4.set0 _).set1 _).set2 _).set3 _).set4 _).set5 _).set6 _).set7 _).set8 _).set9 _).set10 _)
      have gU : w4.grownBy U (some (w.heap.size + 1)) := by subst hU; exact (set_at (set_at (set_at (set_at (set_at (set_at (set_at (set_at (set_at (set_at (set_at (only_refl _ _) 0 _) 1 _) 2 _) 3 _) 4 _) 5 _) 6 _) 7 _) 8 _) 9 _) 10 _)
      rw [hU]
      clear hU r0 r1 r2 r3 r4 r5 r6 r7 r8 r9 r10
      obtain ⟨r0, r1, r2, r3, r4, r5, r6, r7, r8, r9, r10⟩ := RU.cells
      refine bodyPost_ret (v := .tuple #[.agg #[.int .i64 0, .int .i64 0, .int .i64 0, .int .i64 0, .int .i64 0, .int .i64 0, .string { data := #[] }, .string { data := #[] }, .int .i64 0, .int .i64 0, .slice none 0 0], .int .i64 ck]) (by simp [results, Try.results39, go_sem, r0, r1, r2, r3, r4, r5, r6, r7, r8, r9, r10]) rfl ⟨?_, only_step G4 gU (fun k hk => by cases hk; right; omega)⟩
      have hv : readV v 0 = zeroV := by unfold readV; rw [HCK.out, if_neg HNE.out]
      unfold ParseP
      rw [hv, HCK.out]
      exact ⟨none, 0, rfl, 0, World.ownsRow_nil _ _ _ _⟩
  · have hb : (en != 0) = true := by rw [bne_iff_ne]; exact h0
    have hb2 : (en == 0) = false := by rw [beq_eq_false_iff_ne]; exact h0
    have HNE := Lib.hid h0
    have HCK : Hid (readE v en = en) := by unfold Hid readE; rw [if_neg h0]
    clear h0
    have R4 := R0
    have G4 := g2
    obtain ⟨r0, r1, r2, r3, r4, r5, r6, r7, r8, r9, r10⟩ := R4.cells
    have f0 := R4.fr 0
    have f1 := R4.fr 1
    have f2 := R4.fr 2
    have f3 := R4.fr 3
    have f4 := R4.fr 4
    have f5 := R4.fr 5
    have f6 := R4.fr 6
    have f7 := R4.fr 7
    have f8 := R4.fr 8
    have f9 := R4.fr 9
    have f10 := R4.fr 10
    go_wp2_with fail
    obtain ⟨U, hU⟩ : ∃ Z, (((((((((((w2.setCell ⟨w.heap.size + 1, 0, none⟩ (.int .i64 0)).setCell ⟨w.heap.size + 1, 1, none⟩ (.int .i64 0)).setCell ⟨w.heap.size + 1, 2, none⟩ (.int .i64 0)).setCell ⟨w.heap.size + 1, 3, none⟩ (.int .i64 0)).setCell ⟨w.heap.size + 1, 4, none⟩ (.int .i64 0)).setCell ⟨w.heap.size + 1, 5, none⟩ (.int .i64 0)).setCell ⟨w.heap.size + 1, 6, none⟩ (.string { data := #[] })).setCell ⟨w.heap.size + 1, 7, none⟩ (.string { data := #[] })).setCell ⟨w.heap.size + 1, 8, none⟩ (.int .i64 0)).setCell ⟨w.heap.size + 1, 9, none⟩ (.int .i64 0)).setCell ⟨w.heap.size + 1, 10, none⟩ (.slice none 0 0)) = Z := ⟨_, rfl⟩
    have RU : OpB U (w.heap.size + 1) 0 0 0 0 0 0 { data := #[] } { data := #[] } 0 0 (.slice none 0 0) := by subst hU; exact (((((((((((R4.set0 _).set1 _).set2 _).set3 _).set4 _).set5 _).set6 _).set7 _).set8 _).set9 _).set10 _)
    have gU : w2.grownBy U (some (w.heap.size + 1)) := by subst hU; exact (set_at (set_at (set_at (set_at (set_at (set_at (set_at (set_at (set_at (set_at (set_at (only_refl _ _) 0 _) 1 _) 2 _) 3 _) 4 _) 5 _) 6 _) 7 _) 8 _) 9 _) 10 _)
    rw [hU]
    clear hU r0 r1 r2 r3 r4 r5 r6 r7 r8 r9 r10
    obtain ⟨r0, r1, r2, r3, r4, r5, r6, r7, r8, r9, r10⟩ := RU.cells
    refine bodyPost_ret (v := .tuple #[.agg #[.int .i64 0, .int .i64 0, .int .i64 0, .int .i64 0, .int .i64 0, .int .i64 0, .string { data := #[] }, .string { data := #[] }, .int .i64 0, .int .i64 0, .slice none 0 0], .int .i64 en]) (by simp [results, Try.results39, go_sem, r0, r1, r2, r3, r4, r5, r6, r7, r8, r9, r10]) rfl ⟨?_, only_step G4 gU (fun k hk => by cases hk; right; omega)⟩
    have hv : readV v en = zeroV := by unfold readV; rw [HCK.out, if_neg HNE.out]
    unfold ParseP
    rw [hv, HCK.out]
    exact ⟨none, 0, rfl, 0, World.ownsRow_nil _ _ _ _⟩
set_option maxRecDepth 100000 in
set_option maxHeartbeats 4000000 in
theorem pparse_any (A : Option Addr) (c : Nat) (l : List Int) (w : World) (h : Has w w.heap.size A (bs l)) (hl : l.length ≤ 1099511627776) (hb : bytesOk l) :
    Calls Try.prog 20 #[.slice A l.length c] w fun e' w' => ParseP (opV (l, 0)) (endE (l, 0)) e' w' ∧ w.grownBy w' none := by
  have H := Lib.hid h
  have HL := Lib.hid hl
  have HB := Lib.hid hb
  clear h hl hb
  obtain ⟨v, hv⟩ : ∃ x, opV (l, 0) = x := ⟨_, rfl⟩
  obtain ⟨en, hen⟩ : ∃ x, endE (l, 0) = x := ⟨_, rfl⟩
  rw [hv, hen]
  unfold ParseP
  obtain ⟨u, hu⟩ : ∃ x, readV v en = x := ⟨_, rfl⟩
  obtain ⟨ee, hee⟩ : ∃ x, readE v en = x := ⟨_, rfl⟩
  rw [hu, hee]
  unfold OpV.agg
  have HV := Lib.hid hv
  have HEN : Hid (endOf (endS (l, 0)).1 (endS (l, 0)).2 = en) := hen
  have HU := Lib.hid (And.intro hu hee)
  clear hv hen hu hee
  obtain ⟨w1, hw1⟩ : ∃ Z, w.alloc (.cells #[.int .i64 0, .int .i64 0, .int .i64 0, .int .i64 0, .int .i64 0, .int .i64 0, .string { data := #[] }, .string { data := #[] }, .int .i64 0, .int .i64 0, .slice none 0 0] 26) = Z := ⟨_, rfl⟩
  have R1 : OpB w1 w.heap.size 0 0 0 0 0 0 { data := #[] } { data := #[] } 0 0 (.slice none 0 0) := by subst hw1; exact heap_alloc_new w _
  have g1 : w.grownBy w1 none := by subst hw1; exact World.grownBy_alloc w _ none
  go_enter Try.func20, Try.ntmps20
  go_wp2_with fail
  clear hw1
  refine (new_any A c l w1 (H.out.up g1) HL.out).mono ?_
  rintro _ w2 ⟨g, rfl, hR, hg, g2⟩
  have P2 : Rp w2 g (l, 0) := ⟨hR, HL.out, HB.out⟩
  have G2 : w.grownBy w2 none := only_step g1 g2 (fun _ h => .inl h)
  have R2 := R1.other g2 (by simp)
  have hgw : w.heap.size < g := by have := R1.lt; omega
  clear hR g1 g2 R1 hg
  go_wp2_with fail
  refine (pop_any g (l, 0) w2 P2).mono ?_
  rintro _ w3 ⟨AL, cL, rfl, W3, P3, g3⟩
  have R3 := R2.other g3 (by intro e; injection e with e; omega)
  have G3 : w.grownBy w3 none := only_step G2 g3 (fun k hk => by cases hk; right; omega)
  have hlen : (rdots (l, 0)).length = cntS (l, 0) := dotsV_len _ _
  have hv := HV.out
  have h1 : (Value.agg #[.int .i64 (vI (l, 0)), .int .i64 (vI (stI (l, 0))), .int .i64 (vI (stI (stI (l, 0)))), .int .i64 (vI (t1 (l, 0))), .int .i64 (vI (t2 (l, 0))), .int .i64 (vI (t3 (l, 0))), .string (vT (t5 (l, 0))), .string (vT (t6 (l, 0))), .int .i64 (vI (t7 (l, 0))), .int .i64 (vI (t4 (l, 0))), .slice AL (cntS (l, 0)) cL]) = .agg #[.int .i64 v.d, .int .i64 v.e, .int .i64 v.s, .int .i64 v.coll, .int .i64 v.ver, .int .i64 v.kind, .string v.key, .string v.text, .int .i64 v.n, .int .i64 v.time, .slice AL v.l.length cL] := by
    rw [← hv, ← hlen]; rfl
  have HA3 : w3.ownsRow w2.heap.size 23 3 (.slice AL v.l.length cL) v.l.length (dc v.l) := by
    rw [← hv]
    show World.ownsRow _ _ _ _ (.slice AL (rdots (l, 0)).length cL) (rdots (l, 0)).length _
    rw [hlen]
    exact W3
  rw [h1]
  have HP3 := Lib.hid P3
  have HR3 := Lib.hid R3
  have HG3 := Lib.hid G3
  clear h1 hv hlen W3 P3 g3 R2 R3 G2 G3 P2
  go_wp2_with fail
  refine (checked_any v AL cL g _ (endS (l, 0)) w3 HP3.out HA3).mono ?_
  rintro e4 w4 ⟨hp, g4⟩
  unfold ParseP at hp
  rw [HEN.out, HU.out.1, HU.out.2] at hp
  unfold OpV.agg at hp
  obtain ⟨A4, c4, rfl, b4, HA4⟩ := hp
  have G4 : Hid (w.grownBy w4 none) := only_step HG3.out g4 (fun _ h => .inl h)
  have R4 := HR3.out.other g4 (by simp)
  have HA4' := Lib.hid HA4
  clear HA4 g4 HA3
  obtain ⟨r0, r1, r2, r3, r4, r5, r6, r7, r8, r9, r10⟩ := R4.cells
  have f0 := R4.fr 0
  have f1 := R4.fr 1
  have f2 := R4.fr 2
  have f3 := R4.fr 3
  have f4 := R4.fr 4
  have f5 := R4.fr 5
  have f6 := R4.fr 6
  have f7 := R4.fr 7
  have f8 := R4.fr 8
  have f9 := R4.fr 9
  have f10 := R4.fr 10
  go_wp2_with fail
  obtain ⟨U, hU⟩ : ∃ Z, (((((((((((w4.setCell ⟨w.heap.size, 0, none⟩ (.int .i64 u.d)).setCell ⟨w.heap.size, 1, none⟩ (.int .i64 u.e)).setCell ⟨w.heap.size, 2, none⟩ (.int .i64 u.s)).setCell ⟨w.heap.size, 3, none⟩ (.int .i64 u.coll)).setCell ⟨w.heap.size, 4, none⟩ (.int .i64 u.ver)).setCell ⟨w.heap.size, 5, none⟩ (.int .i64 u.kind)).setCell ⟨w.heap.size, 6, none⟩ (.string u.key)).setCell ⟨w.heap.size, 7, none⟩ (.string u.text)).setCell ⟨w.heap.size, 8, none⟩ (.int .i64 u.n)).setCell ⟨w.heap.size, 9, none⟩ (.int .i64 u.time)).setCell ⟨w.heap.size, 10, none⟩ (.slice A4 u.l.length c4)) = Z := ⟨_, rfl⟩
  have RU : OpB U w.heap.size u.d u.e u.s u.coll u.ver u.kind u.key u.text u.n u.time (.slice A4 u.l.length c4) := by subst hU; exact (((((((((((R4.set0 _).set1 _).set2 _).set3 _).set4 _).set5 _).set6 _).set7 _).set8 _).set9 _).set10 _)
  have gU : w4.grownBy U (some w.heap.size) := by subst hU; exact (set_at (set_at (set_at (set_at (set_at (set_at (set_at (set_at (set_at (set_at (set_at (only_refl _ _) 0 _) 1 _) 2 _) 3 _) 4 _) 5 _) 6 _) 7 _) 8 _) 9 _) 10 _)
  rw [hU]
  clear hU r0 r1 r2 r3 r4 r5 r6 r7 r8 r9 r10
  obtain ⟨r0, r1, r2, r3, r4, r5, r6, r7, r8, r9, r10⟩ := RU.cells
  exact bodyPost_ret (v := .tuple #[.agg #[.int .i64 u.d, .int .i64 u.e, .int .i64 u.s, .int .i64 u.coll, .int .i64 u.ver, .int .i64 u.kind, .string u.key, .string u.text, .int .i64 u.n, .int .i64 u.time, .slice A4 u.l.length c4], .int .i64 ee]) (by simp [results, Try.results20, go_sem, r0, r1, r2, r3, r4, r5, r6, r7, r8, r9, r10]) rfl ⟨⟨A4, c4, rfl, b4, HA4'.out.kept gU (own_apart HA4'.out R4)⟩, only_step G4.out gU (fun k hk => by cases hk; right; omega)⟩
end Go.Proofs.Ytcmpeohooiehcaa
