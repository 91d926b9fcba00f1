/- The law OpsBytes, walked: it returns true for every input. No condition. -/
import Derived.Test.YtcmpeohooiehcaaOj
namespace Go.Proofs.Ytcmpeohooiehcaa
open Go.RowKit Go.Deep Go.ChangeShapes
set_option maxRecDepth 100000 in
set_option maxHeartbeats 20000000 in
/-- The loop. -/
theorem ob_loop (va0 vb0 : OpV) (A0 B0 C : Option Addr) (ca0 cb0 cc : Nat) (fr : List Int) (w : World) (hA : Has w w.heap.size A0 (dc va0.l)) (hB : Has w w.heap.size B0 (dc vb0.l)) (hC : Has w w.heap.size C (bs fr)) (_ : fr.length ≤ cc) (fa : Fw va0) (fb : Fw vb0) (hfr : fr.length ≤ 100) (hca : va0.l.length ≤ ca0) (hcb : vb0.l.length ≤ cb0)
    (hfew : fewP va0.key va0.text va0.l = true) (hfew2 : fewP vb0.key vb0.text vb0.l = true) :
    Calls Try.prog 4 #[.agg #[.int .i64 va0.d, .int .i64 va0.e, .int .i64 va0.s, .int .i64 va0.coll, .int .i64 va0.ver, .int .i64 va0.kind, .string va0.key, .string va0.text, .int .i64 va0.n, .int .i64 va0.time, .slice A0 va0.l.length ca0], .agg #[.int .i64 vb0.d, .int .i64 vb0.e, .int .i64 vb0.s, .int .i64 vb0.coll, .int .i64 vb0.ver, .int .i64 vb0.kind, .string vb0.key, .string vb0.text, .int .i64 vb0.n, .int .i64 vb0.time, .slice B0 vb0.l.length cb0], .slice C fr.length cc] w fun e' w' => e' = .returned (.bool true) ∧ w.grownBy w' none := by
  have HA0 := Lib.hid hA
  have HB0 := Lib.hid hB
  have HC := Lib.hid hC
  have FA0 := Lib.hid fa
  have FB0 := Lib.hid fb
  have HCA := Lib.hid hca
  have HCB := Lib.hid hcb
  clear hA hB hC fa fb hca hcb
  have HFR := Lib.hid hfr
  obtain ⟨w1, hw1⟩ : ∃ Z, (w.alloc (.cells #[.int .i64 va0.d, .int .i64 va0.e, .int .i64 va0.s, .int .i64 va0.coll, .int .i64 va0.ver, .int .i64 va0.kind, .string va0.key, .string va0.text, .int .i64 va0.n, .int .i64 va0.time, .slice A0 va0.l.length ca0] 26)).alloc (.cells #[.int .i64 vb0.d, .int .i64 vb0.e, .int .i64 vb0.s, .int .i64 vb0.coll, .int .i64 vb0.ver, .int .i64 vb0.kind, .string vb0.key, .string vb0.text, .int .i64 vb0.n, .int .i64 vb0.time, .slice B0 vb0.l.length cb0] 26) = Z := ⟨_, rfl⟩
  have P1 : OpB w1 w.heap.size va0.d va0.e va0.s va0.coll va0.ver va0.kind va0.key va0.text va0.n va0.time (.slice A0 va0.l.length ca0) := by subst hw1; exact (Below.heap_alloc _ _ _ (by simp)).trans (heap_alloc_new w _)
  have P2 : OpB w1 (w.heap.size + 1) vb0.d vb0.e vb0.s vb0.coll vb0.ver vb0.kind vb0.key vb0.text vb0.n vb0.time (.slice B0 vb0.l.length cb0) := by
    subst hw1
    have := heap_alloc_new (w.alloc (.cells #[.int .i64 va0.d, .int .i64 va0.e, .int .i64 va0.s, .int .i64 va0.coll, .int .i64 va0.ver, .int .i64 va0.kind, .string va0.key, .string va0.text, .int .i64 va0.n, .int .i64 va0.time, .slice A0 va0.l.length ca0] 26)) (.cells #[.int .i64 vb0.d, .int .i64 vb0.e, .int .i64 vb0.s, .int .i64 vb0.coll, .int .i64 vb0.ver, .int .i64 vb0.kind, .string vb0.key, .string vb0.text, .int .i64 vb0.n, .int .i64 vb0.time, .slice B0 vb0.l.length cb0] 26)
    rwa [World.size_alloc] at this
  have g1 : w.grownBy w1 none := by subst hw1; exact only_alloc (only_alloc (only_refl _ _) _) _
  go_enter Try.func4, Try.ntmps4
  go_wp2_with fail
  clear hw1
  refine (known_any _).mono ?_
  rintro _ w2 ⟨rfl, gk⟩
  have G2 : w.grownBy w2 none := only_step g1 gk (fun _ h => .inl h)
  have Q21 := P1.other gk (by simp)
  have Q22 := P2.other gk (by simp)
  clear P1 P2 gk g1
  obtain ⟨c0, c1, c2, c3, c4, c5, c6, c7, c8, c9, c10⟩ := Q21.cells
  go_wp2_with fail
  refine (few_any va0.d va0.e va0.s va0.coll va0.ver va0.kind va0.n va0.time va0.key va0.text A0 ca0 va0.l _).mono ?_
  rintro _ w3 ⟨rfl, g3⟩
  rw [hfew]
  have G3 := only_step G2 g3 (fun _ h => .inl h)
  have Q31 := Q21.other g3 (by simp)
  have Q32 := Q22.other g3 (by simp)
  clear c0 c1 c2 c3 c4 c5 c6 c7 c8 c9 c10 Q21 Q22 G2 g3
  obtain ⟨c0, c1, c2, c3, c4, c5, c6, c7, c8, c9, c10⟩ := Q32.cells
  go_wp2_with fail
  refine (few_any vb0.d vb0.e vb0.s vb0.coll vb0.ver vb0.kind vb0.n vb0.time vb0.key vb0.text B0 cb0 vb0.l _).mono ?_
  rintro _ w4 ⟨rfl, g4⟩
  rw [hfew2]
  have G4 := only_step G3 g4 (fun _ h => .inl h)
  have Q41 := Q31.other g4 (by simp)
  have Q42 := Q32.other g4 (by simp)
  clear c0 c1 c2 c3 c4 c5 c6 c7 c8 c9 c10 Q31 Q32 G3 g4 hfew hfew2
  have n100 : ¬ (100 : Int) < (fr.length : Int) := by omega
  go_wp2_with fail
  have z4 := Q41.lt
  have z42 := Q42.lt
  go_loopw [7] (fun si wr => ∃ (k : Nat) (va vb : OpV) (A B : Option Addr) (ca cb : Nat), k ≤ 2 ∧ si = .int .i64 k ∧ Hid (OpB wr (w.heap.size) va.d va.e va.s va.coll va.ver va.kind va.key va.text va.n va.time (.slice A va.l.length ca)) ∧ Hid (OpB wr (w.heap.size + 1) vb.d vb.e vb.s vb.coll vb.ver vb.kind vb.key vb.text vb.n vb.time (.slice B vb.l.length cb)) ∧ Hid (Rw wr (w.heap.size) (w.heap.size + 1) A ca va.l) ∧ Hid (Rw wr (w.heap.size) (w.heap.size + 1) B cb vb.l) ∧ Hid (Fw va) ∧ Hid (Fw vb) ∧ Hid (k = 1 → Gd va) ∧ Hid (w.grownBy wr none))
    (fun si _ => 2 - (intOf si).toNat)
  case atStart => exact ⟨0, va0, vb0, A0, B0, ca0, cb0, by omega, rfl, Q41, Q42, Rw.of (HA0.out.kept G4 (Nat.le_refl _)) (Nat.le_refl _) (by omega) (by omega) HCA.out, Rw.of (HB0.out.kept G4 (Nat.le_refl _)) (Nat.le_refl _) (by omega) (by omega) HCB.out, FA0, FB0, (fun h => by cases h), G4⟩
  case round =>
    obtain ⟨k, va, vb, A, B, ca, cb, hk, rfl, BA, BB, RA, RB, FA, FB, HGD, GG⟩ := hrel
    clear Q41 Q42 G4 z4 z42 HA0 HB0 FA0 FB0 HCA HCB n100 hfr
    rcases (show k = 0 ∨ k = 1 ∨ k = 2 by omega) with rfl | rfl | rfl
    · have SA : ∀ W, wr.grownBy W none → Hid (W.cell? ⟨w.heap.size, 0, none⟩ = some (.int .i64 va.d) ∧ W.cell? ⟨w.heap.size, 1, none⟩ = some (.int .i64 va.e) ∧ W.cell? ⟨w.heap.size, 2, none⟩ = some (.int .i64 va.s) ∧ W.cell? ⟨w.heap.size, 3, none⟩ = some (.int .i64 va.coll) ∧ W.cell? ⟨w.heap.size, 4, none⟩ = some (.int .i64 va.ver) ∧ W.cell? ⟨w.heap.size, 5, none⟩ = some (.int .i64 va.kind) ∧ W.cell? ⟨w.heap.size, 6, none⟩ = some (.string va.key) ∧ W.cell? ⟨w.heap.size, 7, none⟩ = some (.string va.text) ∧ W.cell? ⟨w.heap.size, 8, none⟩ = some (.int .i64 va.n) ∧ W.cell? ⟨w.heap.size, 9, none⟩ = some (.int .i64 va.time) ∧ W.cell? ⟨w.heap.size, 10, none⟩ = some (.slice A va.l.length ca)) := fun W h => (BA.out.other h (by simp)).cells
      have SB : ∀ W, wr.grownBy W none → Hid (W.cell? ⟨w.heap.size + 1, 0, none⟩ = some (.int .i64 vb.d) ∧ W.cell? ⟨w.heap.size + 1, 1, none⟩ = some (.int .i64 vb.e) ∧ W.cell? ⟨w.heap.size + 1, 2, none⟩ = some (.int .i64 vb.s) ∧ W.cell? ⟨w.heap.size + 1, 3, none⟩ = some (.int .i64 vb.coll) ∧ W.cell? ⟨w.heap.size + 1, 4, none⟩ = some (.int .i64 vb.ver) ∧ W.cell? ⟨w.heap.size + 1, 5, none⟩ = some (.int .i64 vb.kind) ∧ W.cell? ⟨w.heap.size + 1, 6, none⟩ = some (.string vb.key) ∧ W.cell? ⟨w.heap.size + 1, 7, none⟩ = some (.string vb.text) ∧ W.cell? ⟨w.heap.size + 1, 8, none⟩ = some (.int .i64 vb.n) ∧ W.cell? ⟨w.heap.size + 1, 9, none⟩ = some (.int .i64 vb.time) ∧ W.cell? ⟨w.heap.size + 1, 10, none⟩ = some (.slice B vb.l.length cb)) := fun W h => (BB.out.other h (by simp)).cells
      have d0 : wr.grownBy wr.drew none := only_drew (only_refl _ _)
      have SA0 := SA _ d0
      obtain ⟨XO, hXO⟩ : ∃ x, va.bytes = x := ⟨_, rfl⟩
      have hXOl : XO.length ≤ 90 + 2097172 + 30 * va.l.length := by rw [← hXO]; exact opB_len _ _ _ _ _ _ _ _ _ _ _ FA.out.ok.dot FA.out.ok.nums FA.out.ok.n FA.out.ok.key FA.out.ok.text FA.out.ok.dots FA.out.ok.few
      have hXOb : bytesOk XO := by rw [← hXO]; exact opB_byte _ _ _ _ _ _ _ _ _ _ _
      have HXO := Lib.hid (And.intro hXOl hXOb)
      have HXE := Lib.hid hXO
      clear hXOl hXOb hXO
      have CB : ∀ W (C' : Option Addr) (c' : Nat), wr.grownBy W none → Has W W.heap.size C' (bs fr) → Hid (Calls Try.prog 16 #[.slice C' fr.length c', .agg #[.int .i64 va.d, .int .i64 va.e, .int .i64 va.s, .int .i64 va.coll, .int .i64 va.ver, .int .i64 va.kind, .string va.key, .string va.text, .int .i64 va.n, .int .i64 va.time, .slice A va.l.length ca]] W (Out W W.heap.size (.slice none 0 0) (bs (fr ++ XO)))) := fun W C' c' h hC => by
        rw [← HXE.out]
        exact bytes_any C' c' fr va.d va.e va.s va.coll va.ver va.kind va.n va.time va.key va.text A ca va.l W hC FA.out.ok.dot FA.out.ok.nums FA.out.ok.n FA.out.ok.key FA.out.ok.text (RA.out.has.up h) FA.out.ok.dots FA.out.ok.few (by have := HFR.out; omega)
      have CR : ∀ W (base : Nat) (v : Value), wr.grownBy W none → wr.heap.size ≤ base → base ≤ W.heap.size → W.ownsRow base 5 1 v (bs fr).length (bs fr) → Hid (Calls Try.prog 17 #[v, .agg #[.int .i64 va.d, .int .i64 va.e, .int .i64 va.s, .int .i64 va.coll, .int .i64 va.ver, .int .i64 va.kind, .string va.key, .string va.text, .int .i64 va.n, .int .i64 va.time, .slice A va.l.length ca]] W (Out W base v (bs fr ++ bs XO))) := fun W base v h hb hb2 ho => by
        rw [← HXE.out]
        exact rbytes_any base v (bs fr) va.d va.e va.s va.coll va.ver va.kind va.n va.time va.key va.text A ca va.l W ho hb2 FA.out.ok.dot FA.out.ok.nums FA.out.ok.n FA.out.ok.key FA.out.ok.text (((RA.out.has.kept h (Nat.le_refl _))).more hb) FA.out.ok.dots FA.out.ok.few (by rw [bs_len]; have := HFR.out; omega)
      go_upto_region 8 with fail
      refine wp_region_late [(4, fun W => W.cell? ⟨w.heap.size, 0, none⟩ = some (.int .i64 va.d) ∧ W.cell? ⟨w.heap.size, 1, none⟩ = some (.int .i64 va.e) ∧ W.cell? ⟨w.heap.size, 2, none⟩ = some (.int .i64 va.s) ∧ W.cell? ⟨w.heap.size, 3, none⟩ = some (.int .i64 va.coll) ∧ W.cell? ⟨w.heap.size, 4, none⟩ = some (.int .i64 va.ver) ∧ W.cell? ⟨w.heap.size, 5, none⟩ = some (.int .i64 va.kind) ∧ W.cell? ⟨w.heap.size, 6, none⟩ = some (.string va.key) ∧ W.cell? ⟨w.heap.size, 7, none⟩ = some (.string va.text) ∧ W.cell? ⟨w.heap.size, 8, none⟩ = some (.int .i64 va.n) ∧ W.cell? ⟨w.heap.size, 9, none⟩ = some (.int .i64 va.time) ∧ W.cell? ⟨w.heap.size, 10, none⟩ = some (.slice A va.l.length ca))] (by kernel_rfl) ?_
      refine wpAnyT_pure (i := 1) (oi := { dst := some 34, op := Op.move (Operand.tmp 2), type := 35, pos := "law.go:105", after := #[], guard := none }) (v := ?_) rfl (by kernel_rfl) (by kernel_rfl) (by kernel_rfl) (by kernel_rfl) (fun _ _ _ h => h) (Or.inl ⟨by rfl, ?_⟩) (holds1 (fun _ => SA0.out)) ?_
      rotate_left
      · (intro W; go_simp; try with_reducible rfl)
      try simp only [Act.put, List.setIfInBounds_toArray, List.set_cons_zero, List.set_cons_succ]
      refine wpAnyT_take 4 4 (i := 3) (oi := { dst := some 36, op := Op.load 26 (Operand.tmp 3), type := 26, pos := "law.go:105", after := #[], guard := none }) (v := ?_) (.head _) rfl (by kernel_rfl) (by kernel_rfl) (by kernel_rfl) (by kernel_rfl) (by kernel_rfl) (by kernel_rfl) (by rfl) (fun _ _ _ h => h) (by rfl) ?_ (holds1 (fun _ => SA0.out)) ?_
      rotate_left
      · (intro W hSw; (try dsimp only at hSw); go_simp; try with_reducible rfl)
      try simp only [Act.put, List.setIfInBounds_toArray, List.set_cons_zero, List.set_cons_succ]
      refine wpAnyT_ready (rs := [0]) (by kernel_rfl) (by simp) (AllT.cons (o := { dst := some 33, op := Op.buildSlice 35 0 #[], type := 35, pos := "law.go:105", after := #[], guard := none }) rfl (fun K hK => ?_) AllT.nil)
      go_simp
      obtain ⟨la8, hla8⟩ : ∃ Z, wr.drew.alloc (.cells #[] 5) = Z := ⟨_, rfl⟩
      have ga8 : wr.grownBy la8 none := by subst hla8; exact only_alloc (only_drew (only_refl wr none)) _
      have ol8 : la8.ownsRow wr.heap.size 5 1 (.slice (some ⟨wr.heap.size, 0, none⟩) 0 0) ([] : List Value).length [] := by subst hla8; exact own_lit0 wr.drew
      have gl8 : wr.grownBy la8 none := only_step (only_refl wr none) ga8 (fun _ h => .inl h)
      have sz8 : wr.heap.size ≤ la8.heap.size := ga8.size
      skip
      first | rw [hla8] | (rw [show (wr.alloc (.cells #[] 5)).drew = la8 from hla8])
      clear hla8
      refine hK.out _ _ (holds1 (fun _ => (SA _ gl8).out)) ?_
      clear hK K
      try simp only [Act.put, List.setIfInBounds_toArray, List.set_cons_zero, List.set_cons_succ]
      refine wpAnyT_ready (rs := [2]) (by kernel_rfl) (by simp) (AllT.cons (o := { dst := some 35, op := Op.call { callee := Callee.builtin Builtin.append, args := #[Operand.tmp 33, Operand.tmp 34], argTypes := #[35, 35] }, type := 35, pos := "law.go:105", after := #[{ on := 0, ground := Ground.data }, { on := 1, ground := Ground.data }], guard := none }) rfl (fun K hK => ?_) AllT.nil)
      refine step_app_bytes rfl _ _ 35 rfl wr.heap.size (.slice (some ⟨wr.heap.size, 0, none⟩) 0 0) [] rfl ol8 (.slice C fr.length cc) (bs fr) rfl (HC.out.srcAt (only_step GG.out gl8 (fun _ h => .inl h)) cc) (by rw [bs_len, List.length_nil]; have := HFR.out; omega) sz8 ?_
      intro v8 lb8 gb8
      rw [List.nil_append] at gb8
      have gm8 : wr.grownBy lb8 none := only_step gl8 gb8.only (fun q hq => by right; have := (ol8.lt q hq).1; have := (only_refl wr none).size; omega)
      have ob8 := gb8.own
      obtain ⟨Ab8, cb8, rfl⟩ := own_slice ob8
      refine hK.out _ _ (holds1 (fun _ => (SA _ gm8).out)) ?_
      clear hK K
      try simp only [Act.put, List.setIfInBounds_toArray, List.set_cons_zero, List.set_cons_succ]
      refine wpAnyT_ready (rs := [4]) (by kernel_rfl) (by simp) (AllT.cons (o := { dst := some 37, op := Op.call { callee := Callee.value (Operand.func 16), args := #[Operand.tmp 35, Operand.tmp 36], argTypes := #[35, 26] }, type := 35, pos := "law.go:105", after := #[{ on := 2, ground := Ground.data }, { on := 3, ground := Ground.data }, { on := 2, ground := Ground.chain }], guard := none }) rfl (fun K hK => ?_) AllT.nil)
      rw [show (bs fr).length = fr.length from bs_len fr]
      go_simp
      go_at_call 16
      refine (CB _ Ab8 cb8 gm8 (by
          have := Has.own ob8
          exact this)).out.mono ?_
      rintro _ b8 ⟨y8, rfl, e8⟩
      have gr8 : wr.grownBy b8 none := only_step gm8 (e8.none rfl) (fun _ h => .inl h)
      have ow8 := e8.own
      have lim8 : wr.heap.size ≤ lb8.heap.size := gm8.size
      refine hK.out _ _ (holds1 (late_no (by kernel_rfl))) ?_
      clear hK K
      try simp only [Act.put, List.setIfInBounds_toArray, List.set_cons_zero, List.set_cons_succ]
      refine wpAnyT_pure (i := 5) (oi := { dst := some 8, op := Op.assign (Operand.tmp 37), type := 35, pos := "law.go:105", after := #[{ on := 4, ground := Ground.data }, { on := 4, ground := Ground.chain }, { on := 0, ground := Ground.phase }, { on := 1, ground := Ground.phase }, { on := 2, ground := Ground.phase }, { on := 3, ground := Ground.phase }, { on := 4, ground := Ground.phase }], guard := none }) (v := ?_) rfl (by kernel_rfl) (by kernel_rfl) (by kernel_rfl) (by kernel_rfl) (fun _ _ _ h => h) (Or.inl ⟨by rfl, ?_⟩) (holds1 (late_no (by kernel_rfl))) ?_
      rotate_left
      · (intro W; go_simp; try with_reducible rfl)
      try simp only [Act.put, List.setIfInBounds_toArray, List.set_cons_zero, List.set_cons_succ]
      refine wpAnyT_done (by kernel_rfl) ?_ _
      clear e8 gb8 ob8 ol8 ga8 gl8 gm8 sz8
      have SA8 := SA _ (only_drew gr8)
      go_upto_region 9 with fail
      refine wp_region_late [(4, fun W => W.cell? ⟨w.heap.size, 0, none⟩ = some (.int .i64 va.d) ∧ W.cell? ⟨w.heap.size, 1, none⟩ = some (.int .i64 va.e) ∧ W.cell? ⟨w.heap.size, 2, none⟩ = some (.int .i64 va.s) ∧ W.cell? ⟨w.heap.size, 3, none⟩ = some (.int .i64 va.coll) ∧ W.cell? ⟨w.heap.size, 4, none⟩ = some (.int .i64 va.ver) ∧ W.cell? ⟨w.heap.size, 5, none⟩ = some (.int .i64 va.kind) ∧ W.cell? ⟨w.heap.size, 6, none⟩ = some (.string va.key) ∧ W.cell? ⟨w.heap.size, 7, none⟩ = some (.string va.text) ∧ W.cell? ⟨w.heap.size, 8, none⟩ = some (.int .i64 va.n) ∧ W.cell? ⟨w.heap.size, 9, none⟩ = some (.int .i64 va.time) ∧ W.cell? ⟨w.heap.size, 10, none⟩ = some (.slice A va.l.length ca))] (by kernel_rfl) ?_
      refine wpAnyT_pure (i := 1) (oi := { dst := some 39, op := Op.move (Operand.tmp 2), type := 35, pos := "law.go:106", after := #[], guard := none }) (v := ?_) rfl (by kernel_rfl) (by kernel_rfl) (by kernel_rfl) (by kernel_rfl) (fun _ _ _ h => h) (Or.inl ⟨by rfl, ?_⟩) (holds1 (fun _ => SA8.out)) ?_
      rotate_left
      · (intro W; go_simp; try with_reducible rfl)
      try simp only [Act.put, List.setIfInBounds_toArray, List.set_cons_zero, List.set_cons_succ]
      refine wpAnyT_take 4 4 (i := 3) (oi := { dst := some 41, op := Op.load 26 (Operand.tmp 3), type := 26, pos := "law.go:106", after := #[], guard := none }) (v := ?_) (.head _) rfl (by kernel_rfl) (by kernel_rfl) (by kernel_rfl) (by kernel_rfl) (by kernel_rfl) (by kernel_rfl) (by rfl) (fun _ _ _ h => h) (by rfl) ?_ (holds1 (fun _ => SA8.out)) ?_
      rotate_left
      · (intro W hSw; (try dsimp only at hSw); go_simp; try with_reducible rfl)
      try simp only [Act.put, List.setIfInBounds_toArray, List.set_cons_zero, List.set_cons_succ]
      refine wpAnyT_ready (rs := [0]) (by kernel_rfl) (by simp) (AllT.cons (o := { dst := some 38, op := Op.buildSlice 35 0 #[], type := 35, pos := "law.go:106", after := #[], guard := none }) rfl (fun K hK => ?_) AllT.nil)
      go_simp
      obtain ⟨la9, hla9⟩ : ∃ Z, b8.drew.alloc (.cells #[] 5) = Z := ⟨_, rfl⟩
      have ga9 : b8.grownBy la9 none := by subst hla9; exact only_alloc (only_drew (only_refl b8 none)) _
      have ol9 : la9.ownsRow b8.heap.size 5 1 (.slice (some ⟨b8.heap.size, 0, none⟩) 0 0) ([] : List Value).length [] := by subst hla9; exact own_lit0 b8.drew
      have gl9 : wr.grownBy la9 none := only_step gr8 ga9 (fun _ h => .inl h)
      have sz9 : b8.heap.size ≤ la9.heap.size := ga9.size
      skip
      first | rw [hla9] | (rw [show (b8.alloc (.cells #[] 5)).drew = la9 from hla9])
      clear hla9
      refine hK.out _ _ (holds1 (fun _ => (SA _ gl9).out)) ?_
      clear hK K
      try simp only [Act.put, List.setIfInBounds_toArray, List.set_cons_zero, List.set_cons_succ]
      refine wpAnyT_ready (rs := [2]) (by kernel_rfl) (by simp) (AllT.cons (o := { dst := some 40, op := Op.call { callee := Callee.builtin Builtin.append, args := #[Operand.tmp 38, Operand.tmp 39], argTypes := #[35, 35] }, type := 35, pos := "law.go:106", after := #[{ on := 0, ground := Ground.data }, { on := 1, ground := Ground.data }], guard := none }) rfl (fun K hK => ?_) AllT.nil)
      refine step_app_bytes rfl _ _ 35 rfl b8.heap.size (.slice (some ⟨b8.heap.size, 0, none⟩) 0 0) [] rfl ol9 (.slice C fr.length cc) (bs fr) rfl (HC.out.srcAt (only_step GG.out gl9 (fun _ h => .inl h)) cc) (by rw [bs_len, List.length_nil]; have := HFR.out; omega) sz9 ?_
      intro v9 lb9 gb9
      rw [List.nil_append] at gb9
      have gm9 : wr.grownBy lb9 none := only_step gl9 gb9.only (fun q hq => by right; have := (ol9.lt q hq).1; have := gr8.size; omega)
      have ob9 := gb9.own
      obtain ⟨Ab9, cb9, rfl⟩ := own_slice ob9
      refine hK.out _ _ (holds1 (fun _ => (SA _ gm9).out)) ?_
      clear hK K
      try simp only [Act.put, List.setIfInBounds_toArray, List.set_cons_zero, List.set_cons_succ]
      refine wpAnyT_ready (rs := [4]) (by kernel_rfl) (by simp) (AllT.cons (o := { dst := some 42, op := Op.call { callee := Callee.value (Operand.func 17), args := #[Operand.tmp 40, Operand.tmp 41], argTypes := #[35, 26] }, type := 35, pos := "law.go:106", after := #[{ on := 2, ground := Ground.data }, { on := 3, ground := Ground.data }, { on := 2, ground := Ground.chain }], guard := none }) rfl (fun K hK => ?_) AllT.nil)
      go_simp
      go_at_call 17
      refine (CR _ b8.heap.size _ gm9 gr8.size (by have := gb9.only.size; omega) ob9).out.mono ?_
      rintro _ b9 ⟨y9, rfl, e9⟩
      have gr9 : wr.grownBy b9 none := only_step gm9 e9.only (fun q hq => by right; have := (ob9.lt q hq).1; have := gr8.size; omega)
      have ow9 := e9.own
      refine hK.out _ _ (holds1 (late_no (by kernel_rfl))) ?_
      clear hK K
      try simp only [Act.put, List.setIfInBounds_toArray, List.set_cons_zero, List.set_cons_succ]
      refine wpAnyT_pure (i := 5) (oi := { dst := some 9, op := Op.assign (Operand.tmp 42), type := 35, pos := "law.go:106", after := #[{ on := 4, ground := Ground.data }, { on := 4, ground := Ground.chain }, { on := 0, ground := Ground.phase }, { on := 1, ground := Ground.phase }, { on := 2, ground := Ground.phase }, { on := 3, ground := Ground.phase }, { on := 4, ground := Ground.phase }], guard := none }) (v := ?_) rfl (by kernel_rfl) (by kernel_rfl) (by kernel_rfl) (by kernel_rfl) (fun _ _ _ h => h) (Or.inl ⟨by rfl, ?_⟩) (holds1 (late_no (by kernel_rfl))) ?_
      rotate_left
      · (intro W; go_simp; try with_reducible rfl)
      try simp only [Act.put, List.setIfInBounds_toArray, List.set_cons_zero, List.set_cons_succ]
      refine wpAnyT_done (by kernel_rfl) ?_ _
      have ow8' : b9.ownsRow lb8.heap.size 5 1 y8 (bs (fr ++ XO)).length (bs (fr ++ XO)) := ow8.kept (only_step (only_step (only_step (only_refl b8 none) ga9 (fun _ h => .inl h)) gb9.only (fun q hq => .inr (ol9.lt q hq).1)) e9.only (fun q hq => .inr (ob9.lt q hq).1)) (by cases y8.ownBlock <;> simp)
      have ow9' : b9.ownsRow b8.heap.size 5 1 y9 (bs (fr ++ XO)).length (bs (fr ++ XO)) := by rw [bs_append]; exact ow9
      clear e9 gb9 ob9 ol9 ga9 gl9 gm9 sz9 ow8 ow9 SA8 SA0 d0 gr8
      have d9 : wr.grownBy b9.drew none := only_drew gr9
      have SA9 := SA _ d9
      have SB9 := SB _ d9
      obtain ⟨sO, hsO⟩ : ∃ x, strOfNums (fr ++ XO) = x := ⟨_, rfl⟩
      have K8 : Hid ((convert 35 9 y8).run Try.prog b9.drew = .ok (.string sO) b9.drew ∧ (convert 35 9 y9).run Try.prog b9.drew = .ok (.string sO) b9.drew) := by rw [← hsO]; exact ⟨conv_own (w := b9.drew) ow8', conv_own (w := b9.drew) ow9'⟩
      clear hsO ow8'
      obtain ⟨r, hr⟩ : ∃ r : Bool, r = true ↔ (va.d = vb.d ∧ va.e = vb.e ∧ va.s = vb.s ∧ va.coll = vb.coll ∧ va.ver = vb.ver ∧ va.kind = vb.kind ∧ va.key = vb.key ∧ va.text = vb.text ∧ va.n = vb.n ∧ va.time = vb.time ∧ va.l = vb.l) := by classical exact ⟨decide _, decide_eq_true_iff⟩
      have C1 : ∀ W, wr.grownBy W none → Hid (Calls Try.prog 18 #[.agg #[.int .i64 va.d, .int .i64 va.e, .int .i64 va.s, .int .i64 va.coll, .int .i64 va.ver, .int .i64 va.kind, .string va.key, .string va.text, .int .i64 va.n, .int .i64 va.time, .slice A va.l.length ca], .agg #[.int .i64 vb.d, .int .i64 vb.e, .int .i64 vb.s, .int .i64 vb.coll, .int .i64 vb.ver, .int .i64 vb.kind, .string vb.key, .string vb.text, .int .i64 vb.n, .int .i64 vb.time, .slice B vb.l.length cb]] W fun e' w' => e' = .returned (.bool r) ∧ W.grownBy w' none) := fun W h => same_any va.d va.e va.s va.coll va.ver va.kind va.n va.time va.key va.text A ca va.l vb.d vb.e vb.s vb.coll vb.ver vb.kind vb.n vb.time vb.key vb.text B cb vb.l r hr W (RA.out.has.up h) (RB.out.has.up h) (by have := FA.out.few; omega)
      have C2 : ∀ W, wr.grownBy W none → Hid (Calls Try.prog 19 #[.agg #[.int .i64 va.d, .int .i64 va.e, .int .i64 va.s, .int .i64 va.coll, .int .i64 va.ver, .int .i64 va.kind, .string va.key, .string va.text, .int .i64 va.n, .int .i64 va.time, .slice A va.l.length ca], .agg #[.int .i64 vb.d, .int .i64 vb.e, .int .i64 vb.s, .int .i64 vb.coll, .int .i64 vb.ver, .int .i64 vb.kind, .string vb.key, .string vb.text, .int .i64 vb.n, .int .i64 vb.time, .slice B vb.l.length cb]] W fun e' w' => e' = .returned (.bool r) ∧ W.grownBy w' none) := fun W h => rsame_any va.d va.e va.s va.coll va.ver va.kind va.n va.time va.key va.text A ca va.l vb.d vb.e vb.s vb.coll vb.ver vb.kind vb.n vb.time vb.key vb.text B cb vb.l r hr W (RA.out.has.up h) (RB.out.has.up h) (by have := FA.out.few; omega)
      have C3 : ∀ W, wr.grownBy W none → Hid (Calls Try.prog 18 #[.agg #[.int .i64 va.d, .int .i64 va.e, .int .i64 va.s, .int .i64 va.coll, .int .i64 va.ver, .int .i64 va.kind, .string va.key, .string va.text, .int .i64 va.n, .int .i64 va.time, .slice A va.l.length ca], .agg #[.int .i64 va.d, .int .i64 va.e, .int .i64 va.s, .int .i64 va.coll, .int .i64 va.ver, .int .i64 va.kind, .string va.key, .string va.text, .int .i64 va.n, .int .i64 va.time, .slice A va.l.length ca]] W fun e' w' => e' = .returned (.bool true) ∧ W.grownBy w' none) := fun W h => same_any va.d va.e va.s va.coll va.ver va.kind va.n va.time va.key va.text A ca va.l va.d va.e va.s va.coll va.ver va.kind va.n va.time va.key va.text A ca va.l true (by simp) W (RA.out.has.up h) (RA.out.has.up h) (by have := FA.out.few; omega)
      clear hr
      go_upto_region 10 with fail
      refine wp_region_late [(17, fun W => W.cell? ⟨w.heap.size, 0, none⟩ = some (.int .i64 va.d) ∧ W.cell? ⟨w.heap.size, 1, none⟩ = some (.int .i64 va.e) ∧ W.cell? ⟨w.heap.size, 2, none⟩ = some (.int .i64 va.s) ∧ W.cell? ⟨w.heap.size, 3, none⟩ = some (.int .i64 va.coll) ∧ W.cell? ⟨w.heap.size, 4, none⟩ = some (.int .i64 va.ver) ∧ W.cell? ⟨w.heap.size, 5, none⟩ = some (.int .i64 va.kind) ∧ W.cell? ⟨w.heap.size, 6, none⟩ = some (.string va.key) ∧ W.cell? ⟨w.heap.size, 7, none⟩ = some (.string va.text) ∧ W.cell? ⟨w.heap.size, 8, none⟩ = some (.int .i64 va.n) ∧ W.cell? ⟨w.heap.size, 9, none⟩ = some (.int .i64 va.time) ∧ W.cell? ⟨w.heap.size, 10, none⟩ = some (.slice A va.l.length ca)), (17, fun W => W.cell? ⟨w.heap.size + 1, 0, none⟩ = some (.int .i64 vb.d) ∧ W.cell? ⟨w.heap.size + 1, 1, none⟩ = some (.int .i64 vb.e) ∧ W.cell? ⟨w.heap.size + 1, 2, none⟩ = some (.int .i64 vb.s) ∧ W.cell? ⟨w.heap.size + 1, 3, none⟩ = some (.int .i64 vb.coll) ∧ W.cell? ⟨w.heap.size + 1, 4, none⟩ = some (.int .i64 vb.ver) ∧ W.cell? ⟨w.heap.size + 1, 5, none⟩ = some (.int .i64 vb.kind) ∧ W.cell? ⟨w.heap.size + 1, 6, none⟩ = some (.string vb.key) ∧ W.cell? ⟨w.heap.size + 1, 7, none⟩ = some (.string vb.text) ∧ W.cell? ⟨w.heap.size + 1, 8, none⟩ = some (.int .i64 vb.n) ∧ W.cell? ⟨w.heap.size + 1, 9, none⟩ = some (.int .i64 vb.time) ∧ W.cell? ⟨w.heap.size + 1, 10, none⟩ = some (.slice B vb.l.length cb)), (4, fun W => (convert 35 9 y8).run Try.prog W = .ok (.string sO) W ∧ (convert 35 9 y9).run Try.prog W = .ok (.string sO) W)] (by kernel_rfl) ?_
      refine wpAnyT_pure (i := 0) (oi := { dst := some 43, op := Op.move (Operand.tmp 8), type := 35, pos := "law.go:107", after := #[], guard := none }) (v := ?_) rfl (by kernel_rfl) (by kernel_rfl) (by kernel_rfl) (by kernel_rfl) (fun _ _ _ h => h) (Or.inl ⟨by rfl, ?_⟩) (holds3 (fun _ => SA9.out) (fun _ => SB9.out) (fun _ => K8.out)) ?_
      rotate_left
      · (intro W; go_simp; try with_reducible rfl)
      try simp only [Act.put, List.setIfInBounds_toArray, List.set_cons_zero, List.set_cons_succ]
      refine wpAnyT_take 9 4 (i := 1) (oi := { dst := some 44, op := Op.convert 35 9 (Operand.tmp 43), type := 9, pos := "law.go:107", after := #[{ on := 0, ground := Ground.data }], guard := none }) (v := ?_) (.tail _ (.tail _ (.head _))) rfl (by kernel_rfl) (by kernel_rfl) (by kernel_rfl) (by kernel_rfl) (by kernel_rfl) (by kernel_rfl) (by rfl) (fun _ _ _ h => h) (by rfl) ?_ (holds3 (fun _ => SA9.out) (fun _ => SB9.out) (fun _ => K8.out)) ?_
      rotate_left
      · (intro W hSw; (try dsimp only at hSw); go_simp; try with_reducible rfl)
      try simp only [Act.put, List.setIfInBounds_toArray, List.set_cons_zero, List.set_cons_succ]
      refine wpAnyT_pure (i := 2) (oi := { dst := some 45, op := Op.move (Operand.tmp 9), type := 35, pos := "law.go:107", after := #[], guard := none }) (v := ?_) rfl (by kernel_rfl) (by kernel_rfl) (by kernel_rfl) (by kernel_rfl) (fun _ _ _ h => h) (Or.inl ⟨by rfl, ?_⟩) (holds3 (fun _ => SA9.out) (fun _ => SB9.out) (fun _ => K8.out)) ?_
      rotate_left
      · (intro W; go_simp; try with_reducible rfl)
      try simp only [Act.put, List.setIfInBounds_toArray, List.set_cons_zero, List.set_cons_succ]
      refine wpAnyT_take 9 4 (i := 3) (oi := { dst := some 46, op := Op.convert 35 9 (Operand.tmp 45), type := 9, pos := "law.go:107", after := #[{ on := 2, ground := Ground.data }], guard := none }) (v := ?_) (.tail _ (.tail _ (.head _))) rfl (by kernel_rfl) (by kernel_rfl) (by kernel_rfl) (by kernel_rfl) (by kernel_rfl) (by kernel_rfl) (by rfl) (fun _ _ _ h => h) (by rfl) ?_ (holds3 (fun _ => SA9.out) (fun _ => SB9.out) (fun _ => K8.out)) ?_
      rotate_left
      · (intro W hSw; (try dsimp only at hSw); go_simp; try with_reducible rfl)
      try simp only [Act.put, List.setIfInBounds_toArray, List.set_cons_zero, List.set_cons_succ]
      refine wpAnyT_ready (rs := [4]) (by kernel_rfl) (by simp) (AllT.cons (o := { dst := some 47, op := Op.binOp BinOp.neq 9 (Operand.tmp 44) (Operand.tmp 46) 9, type := 4, pos := "law.go:107", after := #[{ on := 1, ground := Ground.data }, { on := 3, ground := Ground.data }], guard := none }) rfl (fun K hK => ?_) AllT.nil)
      go_simp
      refine hK.out _ _ (holds3 (fun _ => SA9.out) (fun _ => SB9.out) (late_no (by kernel_rfl))) ?_
      clear hK K
      try simp only [Act.put, List.setIfInBounds_toArray, List.set_cons_zero, List.set_cons_succ]
      refine wpAnyT_pure (i := 5) (oi := { dst := some 48, op := Op.move (Operand.tmp 47), type := 4, pos := "law.go:107", after := #[{ on := 4, ground := Ground.data }], guard := none }) (v := ?_) rfl (by kernel_rfl) (by kernel_rfl) (by kernel_rfl) (by kernel_rfl) (fun _ _ _ h => h) (Or.inl ⟨by rfl, ?_⟩) (holds3 (fun _ => SA9.out) (fun _ => SB9.out) (late_no (by kernel_rfl))) ?_
      rotate_left
      · (intro W; go_simp; try with_reducible rfl)
      try simp only [Act.put, List.setIfInBounds_toArray, List.set_cons_zero, List.set_cons_succ]
      refine wpAnyT_take 9 17 (i := 6) (oi := { dst := some 49, op := Op.load 26 (Operand.tmp 3), type := 26, pos := "law.go:107", after := #[{ on := 5, ground := Ground.guard }], guard := some (5, false) }) (v := ?_) (.head _) rfl (by kernel_rfl) (by kernel_rfl) (by kernel_rfl) (by kernel_rfl) (by kernel_rfl) (by kernel_rfl) (by rfl) (fun _ _ _ h => h) (by rfl) ?_ (holds3 (fun _ => SA9.out) (fun _ => SB9.out) (late_no (by kernel_rfl))) ?_
      rotate_left
      · (intro W hSw; (try dsimp only at hSw); go_simp; try with_reducible rfl)
      try simp only [Act.put, List.setIfInBounds_toArray, List.set_cons_zero, List.set_cons_succ]
      refine wpAnyT_take 9 17 (i := 7) (oi := { dst := some 50, op := Op.load 26 (Operand.tmp 4), type := 26, pos := "law.go:107", after := #[{ on := 5, ground := Ground.guard }], guard := some (5, false) }) (v := ?_) (.tail _ (.head _)) rfl (by kernel_rfl) (by kernel_rfl) (by kernel_rfl) (by kernel_rfl) (by kernel_rfl) (by kernel_rfl) (by rfl) (fun _ _ _ h => h) (by rfl) ?_ (holds3 (fun _ => SA9.out) (fun _ => SB9.out) (late_no (by kernel_rfl))) ?_
      rotate_left
      · (intro W hSw; (try dsimp only at hSw); go_simp; try with_reducible rfl)
      try simp only [Act.put, List.setIfInBounds_toArray, List.set_cons_zero, List.set_cons_succ]
      refine wpAnyT_take 9 17 (i := 9) (oi := { dst := some 52, op := Op.load 26 (Operand.tmp 3), type := 26, pos := "law.go:107", after := #[{ on := 5, ground := Ground.guard }], guard := some (5, false) }) (v := ?_) (.head _) rfl (by kernel_rfl) (by kernel_rfl) (by kernel_rfl) (by kernel_rfl) (by kernel_rfl) (by kernel_rfl) (by rfl) (fun _ _ _ h => h) (by rfl) ?_ (holds3 (fun _ => SA9.out) (fun _ => SB9.out) (late_no (by kernel_rfl))) ?_
      rotate_left
      · (intro W hSw; (try dsimp only at hSw); go_simp; try with_reducible rfl)
      try simp only [Act.put, List.setIfInBounds_toArray, List.set_cons_zero, List.set_cons_succ]
      refine wpAnyT_take 9 17 (i := 10) (oi := { dst := some 53, op := Op.load 26 (Operand.tmp 4), type := 26, pos := "law.go:107", after := #[{ on := 5, ground := Ground.guard }], guard := some (5, false) }) (v := ?_) (.tail _ (.head _)) rfl (by kernel_rfl) (by kernel_rfl) (by kernel_rfl) (by kernel_rfl) (by kernel_rfl) (by kernel_rfl) (by rfl) (fun _ _ _ h => h) (by rfl) ?_ (holds3 (fun _ => SA9.out) (fun _ => SB9.out) (late_no (by kernel_rfl))) ?_
      rotate_left
      · (intro W hSw; (try dsimp only at hSw); go_simp; try with_reducible rfl)
      try simp only [Act.put, List.setIfInBounds_toArray, List.set_cons_zero, List.set_cons_succ]
      refine wpAnyT_ready (rs := [8]) (by kernel_rfl) (by simp) (AllT.cons (o := { dst := some 51, op := Op.call { callee := Callee.value (Operand.func 18), args := #[Operand.tmp 49, Operand.tmp 50], argTypes := #[26, 26] }, type := 4, pos := "law.go:107", after := #[{ on := 6, ground := Ground.data }, { on := 7, ground := Ground.data }, { on := 5, ground := Ground.chain }, { on := 5, ground := Ground.guard }], guard := some (5, false) }) rfl (fun K hK => ?_) AllT.nil)
      go_simp
      go_at_call 18
      refine (C1 _ d9).out.mono ?_
      rintro _ s1 ⟨rfl, h1⟩
      have dd1 : wr.grownBy s1 none := only_step d9 h1 (fun _ h => .inl h)
      refine hK.out _ _ (holds3 (fun _ => (SA _ dd1).out) (fun _ => (SB _ dd1).out) (late_no (by kernel_rfl))) ?_
      clear hK K
      try simp only [Act.put, List.setIfInBounds_toArray, List.set_cons_zero, List.set_cons_succ]
      refine wpAnyT_ready (rs := [11]) (by kernel_rfl) (by simp) (AllT.cons (o := { dst := some 54, op := Op.call { callee := Callee.value (Operand.func 19), args := #[Operand.tmp 52, Operand.tmp 53], argTypes := #[26, 26] }, type := 4, pos := "law.go:107", after := #[{ on := 9, ground := Ground.data }, { on := 10, ground := Ground.data }, { on := 8, ground := Ground.chain }, { on := 5, ground := Ground.guard }], guard := some (5, false) }) rfl (fun K hK => ?_) AllT.nil)
      go_simp
      go_at_call 19
      refine (C2 _ dd1).out.mono ?_
      rintro _ s2 ⟨rfl, h2⟩
      have dd2 : wr.grownBy s2 none := only_step dd1 h2 (fun _ h => .inl h)
      refine hK.out _ _ (holds3 (fun _ => (SA _ dd2).out) (fun _ => (SB _ dd2).out) (late_no (by kernel_rfl))) ?_
      clear hK K
      try simp only [Act.put, List.setIfInBounds_toArray, List.set_cons_zero, List.set_cons_succ]
      refine wpAnyT_pure (i := 12) (oi := { dst := some 55, op := Op.binOp BinOp.neq 4 (Operand.tmp 51) (Operand.tmp 54) 4, type := 4, pos := "law.go:107", after := #[{ on := 8, ground := Ground.data }, { on := 11, ground := Ground.data }, { on := 5, ground := Ground.guard }], guard := some (5, false) }) (v := ?_) rfl (by kernel_rfl) (by kernel_rfl) (by kernel_rfl) (by kernel_rfl) (fun _ _ _ h => h) (Or.inl ⟨by rfl, ?_⟩) (holds3 (fun _ => (SA _ dd2).out) (fun _ => (SB _ dd2).out) (late_no (by kernel_rfl))) ?_
      rotate_left
      · (intro W; go_simp; try with_reducible rfl)
      try simp only [Act.put, List.setIfInBounds_toArray, List.set_cons_zero, List.set_cons_succ]
      refine wpAnyT_pure (i := 13) (oi := { dst := some 56, op := Op.pick (Operand.tmp 48) (Operand.const (Value.bool true)) (Operand.tmp 55), type := 4, pos := "law.go:107", after := #[{ on := 5, ground := Ground.data }, { on := 12, ground := Ground.data }], guard := none }) (v := ?_) rfl (by kernel_rfl) (by kernel_rfl) (by kernel_rfl) (by kernel_rfl) (fun _ _ _ h => h) (Or.inl ⟨by rfl, ?_⟩) (holds3 (fun _ => (SA _ dd2).out) (fun _ => (SB _ dd2).out) (late_no (by kernel_rfl))) ?_
      rotate_left
      · (intro W; go_simp; try with_reducible rfl)
      try simp only [Act.put, List.setIfInBounds_toArray, List.set_cons_zero, List.set_cons_succ]
      refine wpAnyT_pure (i := 14) (oi := { dst := some 57, op := Op.move (Operand.tmp 56), type := 4, pos := "law.go:107", after := #[{ on := 13, ground := Ground.data }, { on := 11, ground := Ground.chain }], guard := none }) (v := ?_) rfl (by kernel_rfl) (by kernel_rfl) (by kernel_rfl) (by kernel_rfl) (fun _ _ _ h => h) (Or.inl ⟨by rfl, ?_⟩) (holds3 (fun _ => (SA _ dd2).out) (fun _ => (SB _ dd2).out) (late_no (by kernel_rfl))) ?_
      rotate_left
      · (intro W; go_simp; try with_reducible rfl)
      try simp only [Act.put, List.setIfInBounds_toArray, List.set_cons_zero, List.set_cons_succ]
      refine wpAnyT_take 9 17 (i := 15) (oi := { dst := some 58, op := Op.load 26 (Operand.tmp 3), type := 26, pos := "law.go:107", after := #[{ on := 14, ground := Ground.guard }], guard := some (14, false) }) (v := ?_) (.head _) rfl (by kernel_rfl) (by kernel_rfl) (by kernel_rfl) (by kernel_rfl) (by kernel_rfl) (by kernel_rfl) (by rfl) (fun _ _ _ h => h) (by rfl) ?_ (holds3 (fun _ => (SA _ dd2).out) (fun _ => (SB _ dd2).out) (late_no (by kernel_rfl))) ?_
      rotate_left
      · (intro W hSw; (try dsimp only at hSw); go_simp; try with_reducible rfl)
      try simp only [Act.put, List.setIfInBounds_toArray, List.set_cons_zero, List.set_cons_succ]
      refine wpAnyT_take 9 17 (i := 16) (oi := { dst := some 59, op := Op.load 26 (Operand.tmp 3), type := 26, pos := "law.go:107", after := #[{ on := 14, ground := Ground.guard }], guard := some (14, false) }) (v := ?_) (.head _) rfl (by kernel_rfl) (by kernel_rfl) (by kernel_rfl) (by kernel_rfl) (by kernel_rfl) (by kernel_rfl) (by rfl) (fun _ _ _ h => h) (by rfl) ?_ (holds3 (fun _ => (SA _ dd2).out) (fun _ => (SB _ dd2).out) (late_no (by kernel_rfl))) ?_
      rotate_left
      · (intro W hSw; (try dsimp only at hSw); go_simp; try with_reducible rfl)
      try simp only [Act.put, List.setIfInBounds_toArray, List.set_cons_zero, List.set_cons_succ]
      refine wpAnyT_ready (rs := [17]) (by kernel_rfl) (by simp) (AllT.cons (o := { dst := some 60, op := Op.call { callee := Callee.value (Operand.func 18), args := #[Operand.tmp 58, Operand.tmp 59], argTypes := #[26, 26] }, type := 4, pos := "law.go:107", after := #[{ on := 15, ground := Ground.data }, { on := 16, ground := Ground.data }, { on := 14, ground := Ground.chain }, { on := 14, ground := Ground.guard }], guard := some (14, false) }) rfl (fun K hK => ?_) AllT.nil)
      go_simp
      go_at_call 18
      refine (C3 _ dd2).out.mono ?_
      rintro _ s3 ⟨rfl, h3⟩
      have dd3 : wr.grownBy s3 none := only_step dd2 h3 (fun _ h => .inl h)
      refine hK.out _ _ (holds3 (late_no (by kernel_rfl)) (late_no (by kernel_rfl)) (late_no (by kernel_rfl))) ?_
      clear hK K
      try simp only [Act.put, List.setIfInBounds_toArray, List.set_cons_zero, List.set_cons_succ]
      refine wpAnyT_pure (i := 18) (oi := { dst := some 61, op := Op.unOp UnOp.not 4 (Operand.tmp 60), type := 4, pos := "law.go:107", after := #[{ on := 17, ground := Ground.data }, { on := 14, ground := Ground.guard }], guard := some (14, false) }) (v := ?_) rfl (by kernel_rfl) (by kernel_rfl) (by kernel_rfl) (by kernel_rfl) (fun _ _ _ h => h) (Or.inl ⟨by rfl, ?_⟩) (holds3 (late_no (by kernel_rfl)) (late_no (by kernel_rfl)) (late_no (by kernel_rfl))) ?_
      rotate_left
      · (intro W; go_simp; try with_reducible rfl)
      try simp only [Act.put, List.setIfInBounds_toArray, List.set_cons_zero, List.set_cons_succ]
      refine wpAnyT_pure (i := 19) (oi := { dst := some 62, op := Op.pick (Operand.tmp 57) (Operand.const (Value.bool true)) (Operand.tmp 61), type := 4, pos := "law.go:107", after := #[{ on := 14, ground := Ground.data }, { on := 18, ground := Ground.data }], guard := none }) (v := ?_) rfl (by kernel_rfl) (by kernel_rfl) (by kernel_rfl) (by kernel_rfl) (fun _ _ _ h => h) (Or.inl ⟨by rfl, ?_⟩) (holds3 (late_no (by kernel_rfl)) (late_no (by kernel_rfl)) (late_no (by kernel_rfl))) ?_
      rotate_left
      · (intro W; go_simp; try with_reducible rfl)
      try simp only [Act.put, List.setIfInBounds_toArray, List.set_cons_zero, List.set_cons_succ]
      refine wpAnyT_done (by kernel_rfl) ?_ _
      have g3 : b9.grownBy s3 none := only_step (only_step (only_step (only_drew (only_refl b9 none)) h1 (fun _ h => .inl h)) h2 (fun _ h => .inl h)) h3 (fun _ h => .inl h)
      have oy : s3.ownsRow b8.heap.size 5 1 y9 (bs (fr ++ XO)).length (bs (fr ++ XO)) := own_off ow9' g3
      have GS : wr.grownBy s3 none := dd3
      clear h1 h2 h3 dd1 dd2 dd3 g3 ow9' C1 C2 C3 K8 SA9 SB9 d9 gr9 CB CR
      obtain ⟨AY, cY, rfl⟩ := own_slice oy
      have hcapY := own_cap oy
      rw [bs_len] at hcapY
      have hYH : Has s3 s3.heap.size AY (bs (fr ++ XO)) := Has.own oy
      rw [show (bs (fr ++ XO)).length = (fr ++ XO).length from bs_len _]
      have HYH := Lib.hid hYH
      have HGS := Lib.hid GS
      clear oy hYH GS
      have u1 : (fr.length : Int) ≤ ((fr ++ XO).length : Int) := by rw [List.length_append]; omega
      have hfl := HFR.out
      have hXp : 0 < XO.length := by rw [← HXE.out]; exact opB_pos _ _ _ _ _ _ _ _ _ _ _ FA.out.ok.dot.1
      have hlq : fr.length < cY := by rw [List.length_append] at hcapY; omega
      have hlq2 : ¬ cY = fr.length := by omega
      have hlq3 : (fr.length : Int) < (cY : Int) := by omega
      go_wp2_with fail
      have hD : Has s3 s3.heap.size (AY.map (fun x => x.add fr.length)) (bs XO) := by
        have h := HYH.out.drop fr.length
        rwa [List.drop_left] at h
      have HDD := Lib.hid hD
      obtain ⟨AX, hAX⟩ : ∃ x, AY.map (fun x => x.add fr.length) = x := ⟨_, rfl⟩
      rw [hAX] at HDD
      rw [hAX]
      have HAX := Lib.hid hAX
      clear hD hAX HYH
      obtain ⟨cX, hcX⟩ : ∃ x, cY - fr.length = x := ⟨_, rfl⟩
      have hcXl : XO.length ≤ cX := by rw [← hcX]; rw [List.length_append] at hcapY; omega
      rw [hcX]
      have HCX := Lib.hid (And.intro hcX hcXl)
      clear hcX hcXl
      obtain ⟨vo, hvo⟩ : ∃ x, readV (opV (XO, 0)) (endE (XO, 0)) = x := ⟨_, rfl⟩
      obtain ⟨eo, heo⟩ : ∃ x, readE (opV (XO, 0)) (endE (XO, 0)) = x := ⟨_, rfl⟩
      have HVL : Hid (vo.l.length ≤ 8) := by rw [← hvo]; exact readV_few _ _
      have hXL : XO.length ≤ 1099511627776 := by have := HXO.out.1; have := FA.out.few; omega
      refine (pparse_any AX cX XO s3 HDD.out hXL HXO.out.2).mono ?_
      rintro e4 p1 ⟨hp, gp⟩
      unfold ParseP OpV.agg at hp
      rw [hvo, heo] at hp
      obtain ⟨AO, cO, rfl, bO, WO⟩ := hp
      have HWO := Lib.hid WO
      have HGP := Lib.hid (only_step HGS.out gp (fun _ h => .inl h))
      have HDP := Lib.hid (HDD.out.up gp)
      clear gp WO HDD
      go_wp2_with fail
      obtain ⟨p2, hp2⟩ : ∃ Z, p1.alloc (.cells #[.int .i64 vo.d, .int .i64 vo.e, .int .i64 vo.s, .int .i64 vo.coll, .int .i64 vo.ver, .int .i64 vo.kind, .string vo.key, .string vo.text, .int .i64 vo.n, .int .i64 vo.time, .slice AO vo.l.length cO] 26) = Z := ⟨_, rfl⟩
      have OO : Hid (OpB p2 p1.heap.size vo.d vo.e vo.s vo.coll vo.ver vo.kind vo.key vo.text vo.n vo.time (.slice AO vo.l.length cO)) := by subst hp2; exact heap_alloc_new p1 _
      have gp2 : p1.grownBy p2 none := by subst hp2; exact World.grownBy_alloc p1 _ none
      rw [hp2]
      clear hp2
      rw [HAX.out, HCX.out.1]
      have HWO2 := Lib.hid (own_off HWO.out gp2)
      have HGP2 := Lib.hid (only_step HGP.out gp2 (fun _ h => .inl h))
      refine (rparse_any AX cX XO p2 (HDP.out.up gp2) HCX.out.2 hXL HXO.out.2).mono ?_
      rintro e5 p3 ⟨hp, gp3⟩
      unfold ParseP OpV.agg at hp
      rw [hvo, heo] at hp
      obtain ⟨AP, cP, rfl, bP, WP⟩ := hp
      have HWP := Lib.hid WP
      have HWO3 := Lib.hid (own_off HWO2.out gp3)
      have HGP3 := Lib.hid (only_step HGP2.out gp3 (fun _ h => .inl h))
      have OO3 := Lib.hid (OO.out.other gp3 (by simp))
      clear gp2 gp3 WP HWO HWO2 HGP HGP2 HDP OO HAX HCX hcapY u1 hfl hlq hlq2 hlq3 hXp HGS
      clear hvo heo
      go_upto_region 14 with fail
      obtain ⟨p4, hp4⟩ : ∃ Z, p3.alloc (.cells #[.int .i64 vo.d, .int .i64 vo.e, .int .i64 vo.s, .int .i64 vo.coll, .int .i64 vo.ver, .int .i64 vo.kind, .string vo.key, .string vo.text, .int .i64 vo.n, .int .i64 vo.time, .slice AP vo.l.length cP] 26) = Z := ⟨_, rfl⟩
      have OP : OpB p4 p3.heap.size vo.d vo.e vo.s vo.coll vo.ver vo.kind vo.key vo.text vo.n vo.time (.slice AP vo.l.length cP) := by subst hp4; exact heap_alloc_new p3 _
      have gp4 : p3.grownBy p4 none := by subst hp4; exact World.grownBy_alloc p3 _ none
      rw [hp4]
      clear hp4
      have WO4 := own_off HWO3.out gp4
      have WP4 := own_off HWP.out gp4
      have OO4 := OO3.out.other gp4 (by simp)
      have G4 := only_step HGP3.out gp4 (fun _ h => .inl h)
      obtain ⟨o0, o1, o2, o3, o4, o5, o6, o7, o8, o9, o10⟩ := OO4.cells
      obtain ⟨k0, k1, k2, k3, k4, k5, k6, k7, k8, k9, k10⟩ := OP.cells
      clear HWO3 HWP OO3 HGP3
      have HOo := Lib.hid (Has.own_w WO4)
      have HPo := Lib.hid (Has.own_w WP4)
      skip
      clear WO4 WP4
      go_wp2_with (go_at_call 19; go_must (refine (rsame_any vo.d vo.e vo.s vo.coll vo.ver vo.kind vo.n vo.time vo.key vo.text AO cO vo.l vo.d vo.e vo.s vo.coll vo.ver vo.kind vo.n vo.time vo.key vo.text AP cP vo.l true (by simp) p4 HOo.out HPo.out (by have := HVL.out; omega)).mono ?_; rintro _ p5 ⟨rfl, g5⟩; have G5 := only_step G4 g5 (fun _ h => .inl h); obtain ⟨a0, a1, a2, a3, a4, a5, a6, a7, a8, a9, a10⟩ := (SA p5 G5).out))
      clear a0 a1 a2 a3 a4 a5 a6 a7 a8 a9 a10
      clear o0 o1 o2 o3 o4 o5 o6 o7 o8 o9 o10 k0 k1 k2 k3 k4 k5 k6 k7 k8 k9 k10 OO4 OP gp4 G4 HOo HPo HVL SA SB
      have BA5 := BA.out.other G5 (by simp)
      have BB5 := BB.out.other G5 (by simp)
      have RA5 := RA.out.keep G5 (fun _ e => by cases e)
      have RB5 := RB.out.keep G5 (fun _ e => by cases e)
      have GG5 := Lib.hid (only_step GG.out G5 (fun _ h => .inl h))
      refine (goodv_any va A ca p5 FA.out RA5.has RA5.2).mono ?_
      rintro _ q5 ⟨AG, cG, rfl, WG, gq⟩
      have BA6 := BA5.other gq (by simp)
      have BB6 := BB5.other gq (by simp)
      have RB6 := Lib.hid (RB5.keep gq (fun _ e => by cases e))
      have GG6 := Lib.hid (only_step GG5.out gq (fun _ h => .inl h))
      have GFW := Lib.hid (good_fw va FA.out.ok.n)
      obtain ⟨vg, hvg⟩ : ∃ x, goodV va = x := ⟨_, rfl⟩
      rw [hvg] at WG GFW
      rw [hvg]
      have HWG := Lib.hid WG
      clear hvg WG gq BA5 BB5 RA5 RB5 GG5
      have HB6 := Lib.hid BB6
      obtain ⟨a0, a1, a2, a3, a4, a5, a6, a7, a8, a9, a10⟩ := BA6.cells
      have f0 := BA6.fr 0
      have f1 := BA6.fr 1
      have f2 := BA6.fr 2
      have f3 := BA6.fr 3
      have f4 := BA6.fr 4
      have f5 := BA6.fr 5
      have f6 := BA6.fr 6
      have f7 := BA6.fr 7
      have f8 := BA6.fr 8
      have f9 := BA6.fr 9
      have f10 := BA6.fr 10
      obtain ⟨b0, b1, b2, b3, b4, b5, b6, b7, b8x, b9x, b10x⟩ := BB6.cells
      by_cases he : (vb.key.size : Int) % 2 = 0
      · have he2 : ((vb.key.size : Int) % 2 == 0) = true := by rw [beq_iff_eq]; exact he
        clear he
        go_upto_region 18 with fail
        obtain ⟨U, hU⟩ : ∃ Z, (((((((((((q5.setCell ⟨w.heap.size, 0, none⟩ (.int .i64 vg.d)).setCell ⟨w.heap.size, 1, none⟩ (.int .i64 vg.e)).setCell ⟨w.heap.size, 2, none⟩ (.int .i64 vg.s)).setCell ⟨w.heap.size, 3, none⟩ (.int .i64 vg.coll)).setCell ⟨w.heap.size, 4, none⟩ (.int .i64 vg.ver)).setCell ⟨w.heap.size, 5, none⟩ (.int .i64 vg.kind)).setCell ⟨w.heap.size, 6, none⟩ (.string vg.key)).setCell ⟨w.heap.size, 7, none⟩ (.string vg.text)).setCell ⟨w.heap.size, 8, none⟩ (.int .i64 vg.n)).setCell ⟨w.heap.size, 9, none⟩ (.int .i64 vg.time)).setCell ⟨w.heap.size, 10, none⟩ (.slice AG vg.l.length cG)) = Z := ⟨_, rfl⟩
        have BU : OpB U (w.heap.size) vg.d vg.e vg.s vg.coll vg.ver vg.kind vg.key vg.text vg.n vg.time (.slice AG vg.l.length cG) := by subst hU; exact (((((((((((BA6.set0 _).set1 _).set2 _).set3 _).set4 _).set5 _).set6 _).set7 _).set8 _).set9 _).set10 _)
        have gU : q5.grownBy U (some (w.heap.size)) := by subst hU; exact (set_at (set_at (set_at (set_at (set_at (set_at (set_at (set_at (set_at (set_at (set_at (only_refl _ _) 0 _) 1 _) 2 _) 3 _) 4 _) 5 _) 6 _) 7 _) 8 _) 9 _) 10 _)
        rw [hU]
        clear hU a0 a1 a2 a3 a4 a5 a6 a7 a8 a9 a10 f0 f1 f2 f3 f4 f5 f6 f7 f8 f9 f10
        clear b0 b1 b2 b3 b4 b5 b6 b7 b8x b9x b10x
        have BBU := HB6.out.other gU (by intro e; injection e with e; omega)
        have RBU := RB6.out.keep gU (fun k e => by injection e with e; exact .inl e.symm)
        have WGU := HWG.out.kept gU (own_apart HWG.out BA6)
        have RAU := Rw.own WGU BU BBU
        have GGU : w.grownBy U none := only_step GG6.out gU (fun k e => by injection e with e; right; omega)
        obtain ⟨a0, a1, a2, a3, a4, a5, a6, a7, a8, a9, a10⟩ := BU.cells
        obtain ⟨b0, b1, b2, b3, b4, b5, b6, b7, b8x, b9x, b10x⟩ := BBU.cells
        have f0 := BBU.fr 0
        have f1 := BBU.fr 1
        have f2 := BBU.fr 2
        have f3 := BBU.fr 3
        have f4 := BBU.fr 4
        have f5 := BBU.fr 5
        have f6 := BBU.fr 6
        have f7 := BBU.fr 7
        have f8 := BBU.fr 8
        have f9 := BBU.fr 9
        have f10 := BBU.fr 10
        go_wp2_with fail
        obtain ⟨U2, hU2⟩ : ∃ Z, (((((((((((U.setCell ⟨w.heap.size + 1, 0, none⟩ (.int .i64 vg.d)).setCell ⟨w.heap.size + 1, 1, none⟩ (.int .i64 vg.e)).setCell ⟨w.heap.size + 1, 2, none⟩ (.int .i64 vg.s)).setCell ⟨w.heap.size + 1, 3, none⟩ (.int .i64 vg.coll)).setCell ⟨w.heap.size + 1, 4, none⟩ (.int .i64 vg.ver)).setCell ⟨w.heap.size + 1, 5, none⟩ (.int .i64 vg.kind)).setCell ⟨w.heap.size + 1, 6, none⟩ (.string vg.key)).setCell ⟨w.heap.size + 1, 7, none⟩ (.string vg.text)).setCell ⟨w.heap.size + 1, 8, none⟩ (.int .i64 vg.n)).setCell ⟨w.heap.size + 1, 9, none⟩ (.int .i64 vg.time)).setCell ⟨w.heap.size + 1, 10, none⟩ (.slice AG vg.l.length cG)) = Z := ⟨_, rfl⟩
        have BU2 : OpB U2 (w.heap.size + 1) vg.d vg.e vg.s vg.coll vg.ver vg.kind vg.key vg.text vg.n vg.time (.slice AG vg.l.length cG) := by subst hU2; exact (((((((((((BBU.set0 _).set1 _).set2 _).set3 _).set4 _).set5 _).set6 _).set7 _).set8 _).set9 _).set10 _)
        have gU2 : U.grownBy U2 (some (w.heap.size + 1)) := by subst hU2; exact (set_at (set_at (set_at (set_at (set_at (set_at (set_at (set_at (set_at (set_at (set_at (only_refl _ _) 0 _) 1 _) 2 _) 3 _) 4 _) 5 _) 6 _) 7 _) 8 _) 9 _) 10 _)
        rw [hU2]
        clear hU2 a0 a1 a2 a3 a4 a5 a6 a7 a8 a9 a10 b0 b1 b2 b3 b4 b5 b6 b7 b8x b9x b10x f0 f1 f2 f3 f4 f5 f6 f7 f8 f9 f10
        have BA2 := BU.other gU2 (by intro e; injection e with e; omega)
        have WG2 := WGU.kept gU2 (own_apart WGU BBU)
        have RA2 := Rw.own WG2 BA2 BU2
        have GG2 : w.grownBy U2 none := only_step GGU gU2 (fun k e => by injection e with e; right; omega)
        go_roundw
        case rel => exact ⟨1, vg, vg, AG, AG, cG, cG, by omega, rfl, BA2, BU2, RA2, RA2, GFW.out.1, GFW.out.1, (fun _ => GFW.out.2), GG2⟩
        case measure => simp [intOf]
      · have he2 : ((vb.key.size : Int) % 2 == 0) = false := by rw [beq_eq_false_iff_ne]; exact he
        clear he
        go_wp2_with fail
        obtain ⟨U, hU⟩ : ∃ Z, (((((((((((q5.setCell ⟨w.heap.size, 0, none⟩ (.int .i64 vg.d)).setCell ⟨w.heap.size, 1, none⟩ (.int .i64 vg.e)).setCell ⟨w.heap.size, 2, none⟩ (.int .i64 vg.s)).setCell ⟨w.heap.size, 3, none⟩ (.int .i64 vg.coll)).setCell ⟨w.heap.size, 4, none⟩ (.int .i64 vg.ver)).setCell ⟨w.heap.size, 5, none⟩ (.int .i64 vg.kind)).setCell ⟨w.heap.size, 6, none⟩ (.string vg.key)).setCell ⟨w.heap.size, 7, none⟩ (.string vg.text)).setCell ⟨w.heap.size, 8, none⟩ (.int .i64 vg.n)).setCell ⟨w.heap.size, 9, none⟩ (.int .i64 vg.time)).setCell ⟨w.heap.size, 10, none⟩ (.slice AG vg.l.length cG)) = Z := ⟨_, rfl⟩
        have BU : OpB U (w.heap.size) vg.d vg.e vg.s vg.coll vg.ver vg.kind vg.key vg.text vg.n vg.time (.slice AG vg.l.length cG) := by subst hU; exact (((((((((((BA6.set0 _).set1 _).set2 _).set3 _).set4 _).set5 _).set6 _).set7 _).set8 _).set9 _).set10 _)
        have gU : q5.grownBy U (some (w.heap.size)) := by subst hU; exact (set_at (set_at (set_at (set_at (set_at (set_at (set_at (set_at (set_at (set_at (set_at (only_refl _ _) 0 _) 1 _) 2 _) 3 _) 4 _) 5 _) 6 _) 7 _) 8 _) 9 _) 10 _)
        rw [hU]
        clear hU a0 a1 a2 a3 a4 a5 a6 a7 a8 a9 a10 f0 f1 f2 f3 f4 f5 f6 f7 f8 f9 f10
        clear b0 b1 b2 b3 b4 b5 b6 b7 b8x b9x b10x
        have BBU := HB6.out.other gU (by intro e; injection e with e; omega)
        have RBU := RB6.out.keep gU (fun k e => by injection e with e; exact .inl e.symm)
        have WGU := HWG.out.kept gU (own_apart HWG.out BA6)
        have RAU := Rw.own WGU BU BBU
        have GGU : w.grownBy U none := only_step GG6.out gU (fun k e => by injection e with e; right; omega)
        go_roundw
        case rel => exact ⟨1, vg, vb, AG, B, cG, cb, by omega, rfl, BU, BBU, RAU, RBU, GFW.out.1, FB.out, (fun _ => GFW.out.2), GGU⟩
        case measure => simp [intOf]
    · have SA : ∀ W, wr.grownBy W none → Hid (W.cell? ⟨w.heap.size, 0, none⟩ = some (.int .i64 va.d) ∧ W.cell? ⟨w.heap.size, 1, none⟩ = some (.int .i64 va.e) ∧ W.cell? ⟨w.heap.size, 2, none⟩ = some (.int .i64 va.s) ∧ W.cell? ⟨w.heap.size, 3, none⟩ = some (.int .i64 va.coll) ∧ W.cell? ⟨w.heap.size, 4, none⟩ = some (.int .i64 va.ver) ∧ W.cell? ⟨w.heap.size, 5, none⟩ = some (.int .i64 va.kind) ∧ W.cell? ⟨w.heap.size, 6, none⟩ = some (.string va.key) ∧ W.cell? ⟨w.heap.size, 7, none⟩ = some (.string va.text) ∧ W.cell? ⟨w.heap.size, 8, none⟩ = some (.int .i64 va.n) ∧ W.cell? ⟨w.heap.size, 9, none⟩ = some (.int .i64 va.time) ∧ W.cell? ⟨w.heap.size, 10, none⟩ = some (.slice A va.l.length ca)) := fun W h => (BA.out.other h (by simp)).cells
      have SB : ∀ W, wr.grownBy W none → Hid (W.cell? ⟨w.heap.size + 1, 0, none⟩ = some (.int .i64 vb.d) ∧ W.cell? ⟨w.heap.size + 1, 1, none⟩ = some (.int .i64 vb.e) ∧ W.cell? ⟨w.heap.size + 1, 2, none⟩ = some (.int .i64 vb.s) ∧ W.cell? ⟨w.heap.size + 1, 3, none⟩ = some (.int .i64 vb.coll) ∧ W.cell? ⟨w.heap.size + 1, 4, none⟩ = some (.int .i64 vb.ver) ∧ W.cell? ⟨w.heap.size + 1, 5, none⟩ = some (.int .i64 vb.kind) ∧ W.cell? ⟨w.heap.size + 1, 6, none⟩ = some (.string vb.key) ∧ W.cell? ⟨w.heap.size + 1, 7, none⟩ = some (.string vb.text) ∧ W.cell? ⟨w.heap.size + 1, 8, none⟩ = some (.int .i64 vb.n) ∧ W.cell? ⟨w.heap.size + 1, 9, none⟩ = some (.int .i64 vb.time) ∧ W.cell? ⟨w.heap.size + 1, 10, none⟩ = some (.slice B vb.l.length cb)) := fun W h => (BB.out.other h (by simp)).cells
      have d0 : wr.grownBy wr.drew none := only_drew (only_refl _ _)
      have SA0 := SA _ d0
      obtain ⟨XO, hXO⟩ : ∃ x, va.bytes = x := ⟨_, rfl⟩
      have hXOl : XO.length ≤ 90 + 2097172 + 30 * va.l.length := by rw [← hXO]; exact opB_len _ _ _ _ _ _ _ _ _ _ _ FA.out.ok.dot FA.out.ok.nums FA.out.ok.n FA.out.ok.key FA.out.ok.text FA.out.ok.dots FA.out.ok.few
      have hXOb : bytesOk XO := by rw [← hXO]; exact opB_byte _ _ _ _ _ _ _ _ _ _ _
      have HXO := Lib.hid (And.intro hXOl hXOb)
      have HXE := Lib.hid hXO
      clear hXOl hXOb hXO
      have CB : ∀ W (C' : Option Addr) (c' : Nat), wr.grownBy W none → Has W W.heap.size C' (bs fr) → Hid (Calls Try.prog 16 #[.slice C' fr.length c', .agg #[.int .i64 va.d, .int .i64 va.e, .int .i64 va.s, .int .i64 va.coll, .int .i64 va.ver, .int .i64 va.kind, .string va.key, .string va.text, .int .i64 va.n, .int .i64 va.time, .slice A va.l.length ca]] W (Out W W.heap.size (.slice none 0 0) (bs (fr ++ XO)))) := fun W C' c' h hC => by
        rw [← HXE.out]
        exact bytes_any C' c' fr va.d va.e va.s va.coll va.ver va.kind va.n va.time va.key va.text A ca va.l W hC FA.out.ok.dot FA.out.ok.nums FA.out.ok.n FA.out.ok.key FA.out.ok.text (RA.out.has.up h) FA.out.ok.dots FA.out.ok.few (by have := HFR.out; omega)
      have CR : ∀ W (base : Nat) (v : Value), wr.grownBy W none → wr.heap.size ≤ base → base ≤ W.heap.size → W.ownsRow base 5 1 v (bs fr).length (bs fr) → Hid (Calls Try.prog 17 #[v, .agg #[.int .i64 va.d, .int .i64 va.e, .int .i64 va.s, .int .i64 va.coll, .int .i64 va.ver, .int .i64 va.kind, .string va.key, .string va.text, .int .i64 va.n, .int .i64 va.time, .slice A va.l.length ca]] W (Out W base v (bs fr ++ bs XO))) := fun W base v h hb hb2 ho => by
        rw [← HXE.out]
        exact rbytes_any base v (bs fr) va.d va.e va.s va.coll va.ver va.kind va.n va.time va.key va.text A ca va.l W ho hb2 FA.out.ok.dot FA.out.ok.nums FA.out.ok.n FA.out.ok.key FA.out.ok.text (((RA.out.has.kept h (Nat.le_refl _))).more hb) FA.out.ok.dots FA.out.ok.few (by rw [bs_len]; have := HFR.out; omega)
      go_upto_region 8 with fail
      refine wp_region_late [(4, fun W => W.cell? ⟨w.heap.size, 0, none⟩ = some (.int .i64 va.d) ∧ W.cell? ⟨w.heap.size, 1, none⟩ = some (.int .i64 va.e) ∧ W.cell? ⟨w.heap.size, 2, none⟩ = some (.int .i64 va.s) ∧ W.cell? ⟨w.heap.size, 3, none⟩ = some (.int .i64 va.coll) ∧ W.cell? ⟨w.heap.size, 4, none⟩ = some (.int .i64 va.ver) ∧ W.cell? ⟨w.heap.size, 5, none⟩ = some (.int .i64 va.kind) ∧ W.cell? ⟨w.heap.size, 6, none⟩ = some (.string va.key) ∧ W.cell? ⟨w.heap.size, 7, none⟩ = some (.string va.text) ∧ W.cell? ⟨w.heap.size, 8, none⟩ = some (.int .i64 va.n) ∧ W.cell? ⟨w.heap.size, 9, none⟩ = some (.int .i64 va.time) ∧ W.cell? ⟨w.heap.size, 10, none⟩ = some (.slice A va.l.length ca))] (by kernel_rfl) ?_
      refine wpAnyT_pure (i := 1) (oi := { dst := some 34, op := Op.move (Operand.tmp 2), type := 35, pos := "law.go:105", after := #[], guard := none }) (v := ?_) rfl (by kernel_rfl) (by kernel_rfl) (by kernel_rfl) (by kernel_rfl) (fun _ _ _ h => h) (Or.inl ⟨by rfl, ?_⟩) (holds1 (fun _ => SA0.out)) ?_
      rotate_left
      · (intro W; go_simp; try with_reducible rfl)
      try simp only [Act.put, List.setIfInBounds_toArray, List.set_cons_zero, List.set_cons_succ]
      refine wpAnyT_take 4 4 (i := 3) (oi := { dst := some 36, op := Op.load 26 (Operand.tmp 3), type := 26, pos := "law.go:105", after := #[], guard := none }) (v := ?_) (.head _) rfl (by kernel_rfl) (by kernel_rfl) (by kernel_rfl) (by kernel_rfl) (by kernel_rfl) (by kernel_rfl) (by rfl) (fun _ _ _ h => h) (by rfl) ?_ (holds1 (fun _ => SA0.out)) ?_
      rotate_left
      · (intro W hSw; (try dsimp only at hSw); go_simp; try with_reducible rfl)
      try simp only [Act.put, List.setIfInBounds_toArray, List.set_cons_zero, List.set_cons_succ]
      refine wpAnyT_ready (rs := [0]) (by kernel_rfl) (by simp) (AllT.cons (o := { dst := some 33, op := Op.buildSlice 35 0 #[], type := 35, pos := "law.go:105", after := #[], guard := none }) rfl (fun K hK => ?_) AllT.nil)
      go_simp
      obtain ⟨la8, hla8⟩ : ∃ Z, wr.drew.alloc (.cells #[] 5) = Z := ⟨_, rfl⟩
      have ga8 : wr.grownBy la8 none := by subst hla8; exact only_alloc (only_drew (only_refl wr none)) _
      have ol8 : la8.ownsRow wr.heap.size 5 1 (.slice (some ⟨wr.heap.size, 0, none⟩) 0 0) ([] : List Value).length [] := by subst hla8; exact own_lit0 wr.drew
      have gl8 : wr.grownBy la8 none := only_step (only_refl wr none) ga8 (fun _ h => .inl h)
      have sz8 : wr.heap.size ≤ la8.heap.size := ga8.size
      skip
      first | rw [hla8] | (rw [show (wr.alloc (.cells #[] 5)).drew = la8 from hla8])
      clear hla8
      refine hK.out _ _ (holds1 (fun _ => (SA _ gl8).out)) ?_
      clear hK K
      try simp only [Act.put, List.setIfInBounds_toArray, List.set_cons_zero, List.set_cons_succ]
      refine wpAnyT_ready (rs := [2]) (by kernel_rfl) (by simp) (AllT.cons (o := { dst := some 35, op := Op.call { callee := Callee.builtin Builtin.append, args := #[Operand.tmp 33, Operand.tmp 34], argTypes := #[35, 35] }, type := 35, pos := "law.go:105", after := #[{ on := 0, ground := Ground.data }, { on := 1, ground := Ground.data }], guard := none }) rfl (fun K hK => ?_) AllT.nil)
      refine step_app_bytes rfl _ _ 35 rfl wr.heap.size (.slice (some ⟨wr.heap.size, 0, none⟩) 0 0) [] rfl ol8 (.slice C fr.length cc) (bs fr) rfl (HC.out.srcAt (only_step GG.out gl8 (fun _ h => .inl h)) cc) (by rw [bs_len, List.length_nil]; have := HFR.out; omega) sz8 ?_
      intro v8 lb8 gb8
      rw [List.nil_append] at gb8
      have gm8 : wr.grownBy lb8 none := only_step gl8 gb8.only (fun q hq => by right; have := (ol8.lt q hq).1; have := (only_refl wr none).size; omega)
      have ob8 := gb8.own
      obtain ⟨Ab8, cb8, rfl⟩ := own_slice ob8
      refine hK.out _ _ (holds1 (fun _ => (SA _ gm8).out)) ?_
      clear hK K
      try simp only [Act.put, List.setIfInBounds_toArray, List.set_cons_zero, List.set_cons_succ]
      refine wpAnyT_ready (rs := [4]) (by kernel_rfl) (by simp) (AllT.cons (o := { dst := some 37, op := Op.call { callee := Callee.value (Operand.func 16), args := #[Operand.tmp 35, Operand.tmp 36], argTypes := #[35, 26] }, type := 35, pos := "law.go:105", after := #[{ on := 2, ground := Ground.data }, { on := 3, ground := Ground.data }, { on := 2, ground := Ground.chain }], guard := none }) rfl (fun K hK => ?_) AllT.nil)
      rw [show (bs fr).length = fr.length from bs_len fr]
      go_simp
      go_at_call 16
      refine (CB _ Ab8 cb8 gm8 (by
          have := Has.own ob8
          exact this)).out.mono ?_
      rintro _ b8 ⟨y8, rfl, e8⟩
      have gr8 : wr.grownBy b8 none := only_step gm8 (e8.none rfl) (fun _ h => .inl h)
      have ow8 := e8.own
      have lim8 : wr.heap.size ≤ lb8.heap.size := gm8.size
      refine hK.out _ _ (holds1 (late_no (by kernel_rfl))) ?_
      clear hK K
      try simp only [Act.put, List.setIfInBounds_toArray, List.set_cons_zero, List.set_cons_succ]
      refine wpAnyT_pure (i := 5) (oi := { dst := some 8, op := Op.assign (Operand.tmp 37), type := 35, pos := "law.go:105", after := #[{ on := 4, ground := Ground.data }, { on := 4, ground := Ground.chain }, { on := 0, ground := Ground.phase }, { on := 1, ground := Ground.phase }, { on := 2, ground := Ground.phase }, { on := 3, ground := Ground.phase }, { on := 4, ground := Ground.phase }], guard := none }) (v := ?_) rfl (by kernel_rfl) (by kernel_rfl) (by kernel_rfl) (by kernel_rfl) (fun _ _ _ h => h) (Or.inl ⟨by rfl, ?_⟩) (holds1 (late_no (by kernel_rfl))) ?_
      rotate_left
      · (intro W; go_simp; try with_reducible rfl)
      try simp only [Act.put, List.setIfInBounds_toArray, List.set_cons_zero, List.set_cons_succ]
      refine wpAnyT_done (by kernel_rfl) ?_ _
      clear e8 gb8 ob8 ol8 ga8 gl8 gm8 sz8
      have SA8 := SA _ (only_drew gr8)
      go_upto_region 9 with fail
      refine wp_region_late [(4, fun W => W.cell? ⟨w.heap.size, 0, none⟩ = some (.int .i64 va.d) ∧ W.cell? ⟨w.heap.size, 1, none⟩ = some (.int .i64 va.e) ∧ W.cell? ⟨w.heap.size, 2, none⟩ = some (.int .i64 va.s) ∧ W.cell? ⟨w.heap.size, 3, none⟩ = some (.int .i64 va.coll) ∧ W.cell? ⟨w.heap.size, 4, none⟩ = some (.int .i64 va.ver) ∧ W.cell? ⟨w.heap.size, 5, none⟩ = some (.int .i64 va.kind) ∧ W.cell? ⟨w.heap.size, 6, none⟩ = some (.string va.key) ∧ W.cell? ⟨w.heap.size, 7, none⟩ = some (.string va.text) ∧ W.cell? ⟨w.heap.size, 8, none⟩ = some (.int .i64 va.n) ∧ W.cell? ⟨w.heap.size, 9, none⟩ = some (.int .i64 va.time) ∧ W.cell? ⟨w.heap.size, 10, none⟩ = some (.slice A va.l.length ca))] (by kernel_rfl) ?_
      refine wpAnyT_pure (i := 1) (oi := { dst := some 39, op := Op.move (Operand.tmp 2), type := 35, pos := "law.go:106", after := #[], guard := none }) (v := ?_) rfl (by kernel_rfl) (by kernel_rfl) (by kernel_rfl) (by kernel_rfl) (fun _ _ _ h => h) (Or.inl ⟨by rfl, ?_⟩) (holds1 (fun _ => SA8.out)) ?_
      rotate_left
      · (intro W; go_simp; try with_reducible rfl)
      try simp only [Act.put, List.setIfInBounds_toArray, List.set_cons_zero, List.set_cons_succ]
      refine wpAnyT_take 4 4 (i := 3) (oi := { dst := some 41, op := Op.load 26 (Operand.tmp 3), type := 26, pos := "law.go:106", after := #[], guard := none }) (v := ?_) (.head _) rfl (by kernel_rfl) (by kernel_rfl) (by kernel_rfl) (by kernel_rfl) (by kernel_rfl) (by kernel_rfl) (by rfl) (fun _ _ _ h => h) (by rfl) ?_ (holds1 (fun _ => SA8.out)) ?_
      rotate_left
      · (intro W hSw; (try dsimp only at hSw); go_simp; try with_reducible rfl)
      try simp only [Act.put, List.setIfInBounds_toArray, List.set_cons_zero, List.set_cons_succ]
      refine wpAnyT_ready (rs := [0]) (by kernel_rfl) (by simp) (AllT.cons (o := { dst := some 38, op := Op.buildSlice 35 0 #[], type := 35, pos := "law.go:106", after := #[], guard := none }) rfl (fun K hK => ?_) AllT.nil)
      go_simp
      obtain ⟨la9, hla9⟩ : ∃ Z, b8.drew.alloc (.cells #[] 5) = Z := ⟨_, rfl⟩
      have ga9 : b8.grownBy la9 none := by subst hla9; exact only_alloc (only_drew (only_refl b8 none)) _
      have ol9 : la9.ownsRow b8.heap.size 5 1 (.slice (some ⟨b8.heap.size, 0, none⟩) 0 0) ([] : List Value).length [] := by subst hla9; exact own_lit0 b8.drew
      have gl9 : wr.grownBy la9 none := only_step gr8 ga9 (fun _ h => .inl h)
      have sz9 : b8.heap.size ≤ la9.heap.size := ga9.size
      skip
      first | rw [hla9] | (rw [show (b8.alloc (.cells #[] 5)).drew = la9 from hla9])
      clear hla9
      refine hK.out _ _ (holds1 (fun _ => (SA _ gl9).out)) ?_
      clear hK K
      try simp only [Act.put, List.setIfInBounds_toArray, List.set_cons_zero, List.set_cons_succ]
      refine wpAnyT_ready (rs := [2]) (by kernel_rfl) (by simp) (AllT.cons (o := { dst := some 40, op := Op.call { callee := Callee.builtin Builtin.append, args := #[Operand.tmp 38, Operand.tmp 39], argTypes := #[35, 35] }, type := 35, pos := "law.go:106", after := #[{ on := 0, ground := Ground.data }, { on := 1, ground := Ground.data }], guard := none }) rfl (fun K hK => ?_) AllT.nil)
      refine step_app_bytes rfl _ _ 35 rfl b8.heap.size (.slice (some ⟨b8.heap.size, 0, none⟩) 0 0) [] rfl ol9 (.slice C fr.length cc) (bs fr) rfl (HC.out.srcAt (only_step GG.out gl9 (fun _ h => .inl h)) cc) (by rw [bs_len, List.length_nil]; have := HFR.out; omega) sz9 ?_
      intro v9 lb9 gb9
      rw [List.nil_append] at gb9
      have gm9 : wr.grownBy lb9 none := only_step gl9 gb9.only (fun q hq => by right; have := (ol9.lt q hq).1; have := gr8.size; omega)
      have ob9 := gb9.own
      obtain ⟨Ab9, cb9, rfl⟩ := own_slice ob9
      refine hK.out _ _ (holds1 (fun _ => (SA _ gm9).out)) ?_
      clear hK K
      try simp only [Act.put, List.setIfInBounds_toArray, List.set_cons_zero, List.set_cons_succ]
      refine wpAnyT_ready (rs := [4]) (by kernel_rfl) (by simp) (AllT.cons (o := { dst := some 42, op := Op.call { callee := Callee.value (Operand.func 17), args := #[Operand.tmp 40, Operand.tmp 41], argTypes := #[35, 26] }, type := 35, pos := "law.go:106", after := #[{ on := 2, ground := Ground.data }, { on := 3, ground := Ground.data }, { on := 2, ground := Ground.chain }], guard := none }) rfl (fun K hK => ?_) AllT.nil)
      go_simp
      go_at_call 17
      refine (CR _ b8.heap.size _ gm9 gr8.size (by have := gb9.only.size; omega) ob9).out.mono ?_
      rintro _ b9 ⟨y9, rfl, e9⟩
      have gr9 : wr.grownBy b9 none := only_step gm9 e9.only (fun q hq => by right; have := (ob9.lt q hq).1; have := gr8.size; omega)
      have ow9 := e9.own
      refine hK.out _ _ (holds1 (late_no (by kernel_rfl))) ?_
      clear hK K
      try simp only [Act.put, List.setIfInBounds_toArray, List.set_cons_zero, List.set_cons_succ]
      refine wpAnyT_pure (i := 5) (oi := { dst := some 9, op := Op.assign (Operand.tmp 42), type := 35, pos := "law.go:106", after := #[{ on := 4, ground := Ground.data }, { on := 4, ground := Ground.chain }, { on := 0, ground := Ground.phase }, { on := 1, ground := Ground.phase }, { on := 2, ground := Ground.phase }, { on := 3, ground := Ground.phase }, { on := 4, ground := Ground.phase }], guard := none }) (v := ?_) rfl (by kernel_rfl) (by kernel_rfl) (by kernel_rfl) (by kernel_rfl) (fun _ _ _ h => h) (Or.inl ⟨by rfl, ?_⟩) (holds1 (late_no (by kernel_rfl))) ?_
      rotate_left
      · (intro W; go_simp; try with_reducible rfl)
      try simp only [Act.put, List.setIfInBounds_toArray, List.set_cons_zero, List.set_cons_succ]
      refine wpAnyT_done (by kernel_rfl) ?_ _
      have ow8' : b9.ownsRow lb8.heap.size 5 1 y8 (bs (fr ++ XO)).length (bs (fr ++ XO)) := ow8.kept (only_step (only_step (only_step (only_refl b8 none) ga9 (fun _ h => .inl h)) gb9.only (fun q hq => .inr (ol9.lt q hq).1)) e9.only (fun q hq => .inr (ob9.lt q hq).1)) (by cases y8.ownBlock <;> simp)
      have ow9' : b9.ownsRow b8.heap.size 5 1 y9 (bs (fr ++ XO)).length (bs (fr ++ XO)) := by rw [bs_append]; exact ow9
      clear e9 gb9 ob9 ol9 ga9 gl9 gm9 sz9 ow8 ow9 SA8 SA0 d0 gr8
      have d9 : wr.grownBy b9.drew none := only_drew gr9
      have SA9 := SA _ d9
      have SB9 := SB _ d9
      obtain ⟨sO, hsO⟩ : ∃ x, strOfNums (fr ++ XO) = x := ⟨_, rfl⟩
      have K8 : Hid ((convert 35 9 y8).run Try.prog b9.drew = .ok (.string sO) b9.drew ∧ (convert 35 9 y9).run Try.prog b9.drew = .ok (.string sO) b9.drew) := by rw [← hsO]; exact ⟨conv_own (w := b9.drew) ow8', conv_own (w := b9.drew) ow9'⟩
      clear hsO ow8'
      obtain ⟨r, hr⟩ : ∃ r : Bool, r = true ↔ (va.d = vb.d ∧ va.e = vb.e ∧ va.s = vb.s ∧ va.coll = vb.coll ∧ va.ver = vb.ver ∧ va.kind = vb.kind ∧ va.key = vb.key ∧ va.text = vb.text ∧ va.n = vb.n ∧ va.time = vb.time ∧ va.l = vb.l) := by classical exact ⟨decide _, decide_eq_true_iff⟩
      have C1 : ∀ W, wr.grownBy W none → Hid (Calls Try.prog 18 #[.agg #[.int .i64 va.d, .int .i64 va.e, .int .i64 va.s, .int .i64 va.coll, .int .i64 va.ver, .int .i64 va.kind, .string va.key, .string va.text, .int .i64 va.n, .int .i64 va.time, .slice A va.l.length ca], .agg #[.int .i64 vb.d, .int .i64 vb.e, .int .i64 vb.s, .int .i64 vb.coll, .int .i64 vb.ver, .int .i64 vb.kind, .string vb.key, .string vb.text, .int .i64 vb.n, .int .i64 vb.time, .slice B vb.l.length cb]] W fun e' w' => e' = .returned (.bool r) ∧ W.grownBy w' none) := fun W h => same_any va.d va.e va.s va.coll va.ver va.kind va.n va.time va.key va.text A ca va.l vb.d vb.e vb.s vb.coll vb.ver vb.kind vb.n vb.time vb.key vb.text B cb vb.l r hr W (RA.out.has.up h) (RB.out.has.up h) (by have := FA.out.few; omega)
      have C2 : ∀ W, wr.grownBy W none → Hid (Calls Try.prog 19 #[.agg #[.int .i64 va.d, .int .i64 va.e, .int .i64 va.s, .int .i64 va.coll, .int .i64 va.ver, .int .i64 va.kind, .string va.key, .string va.text, .int .i64 va.n, .int .i64 va.time, .slice A va.l.length ca], .agg #[.int .i64 vb.d, .int .i64 vb.e, .int .i64 vb.s, .int .i64 vb.coll, .int .i64 vb.ver, .int .i64 vb.kind, .string vb.key, .string vb.text, .int .i64 vb.n, .int .i64 vb.time, .slice B vb.l.length cb]] W fun e' w' => e' = .returned (.bool r) ∧ W.grownBy w' none) := fun W h => rsame_any va.d va.e va.s va.coll va.ver va.kind va.n va.time va.key va.text A ca va.l vb.d vb.e vb.s vb.coll vb.ver vb.kind vb.n vb.time vb.key vb.text B cb vb.l r hr W (RA.out.has.up h) (RB.out.has.up h) (by have := FA.out.few; omega)
      have C3 : ∀ W, wr.grownBy W none → Hid (Calls Try.prog 18 #[.agg #[.int .i64 va.d, .int .i64 va.e, .int .i64 va.s, .int .i64 va.coll, .int .i64 va.ver, .int .i64 va.kind, .string va.key, .string va.text, .int .i64 va.n, .int .i64 va.time, .slice A va.l.length ca], .agg #[.int .i64 va.d, .int .i64 va.e, .int .i64 va.s, .int .i64 va.coll, .int .i64 va.ver, .int .i64 va.kind, .string va.key, .string va.text, .int .i64 va.n, .int .i64 va.time, .slice A va.l.length ca]] W fun e' w' => e' = .returned (.bool true) ∧ W.grownBy w' none) := fun W h => same_any va.d va.e va.s va.coll va.ver va.kind va.n va.time va.key va.text A ca va.l va.d va.e va.s va.coll va.ver va.kind va.n va.time va.key va.text A ca va.l true (by simp) W (RA.out.has.up h) (RA.out.has.up h) (by have := FA.out.few; omega)
      clear hr
      go_upto_region 10 with fail
      refine wp_region_late [(17, fun W => W.cell? ⟨w.heap.size, 0, none⟩ = some (.int .i64 va.d) ∧ W.cell? ⟨w.heap.size, 1, none⟩ = some (.int .i64 va.e) ∧ W.cell? ⟨w.heap.size, 2, none⟩ = some (.int .i64 va.s) ∧ W.cell? ⟨w.heap.size, 3, none⟩ = some (.int .i64 va.coll) ∧ W.cell? ⟨w.heap.size, 4, none⟩ = some (.int .i64 va.ver) ∧ W.cell? ⟨w.heap.size, 5, none⟩ = some (.int .i64 va.kind) ∧ W.cell? ⟨w.heap.size, 6, none⟩ = some (.string va.key) ∧ W.cell? ⟨w.heap.size, 7, none⟩ = some (.string va.text) ∧ W.cell? ⟨w.heap.size, 8, none⟩ = some (.int .i64 va.n) ∧ W.cell? ⟨w.heap.size, 9, none⟩ = some (.int .i64 va.time) ∧ W.cell? ⟨w.heap.size, 10, none⟩ = some (.slice A va.l.length ca)), (17, fun W => W.cell? ⟨w.heap.size + 1, 0, none⟩ = some (.int .i64 vb.d) ∧ W.cell? ⟨w.heap.size + 1, 1, none⟩ = some (.int .i64 vb.e) ∧ W.cell? ⟨w.heap.size + 1, 2, none⟩ = some (.int .i64 vb.s) ∧ W.cell? ⟨w.heap.size + 1, 3, none⟩ = some (.int .i64 vb.coll) ∧ W.cell? ⟨w.heap.size + 1, 4, none⟩ = some (.int .i64 vb.ver) ∧ W.cell? ⟨w.heap.size + 1, 5, none⟩ = some (.int .i64 vb.kind) ∧ W.cell? ⟨w.heap.size + 1, 6, none⟩ = some (.string vb.key) ∧ W.cell? ⟨w.heap.size + 1, 7, none⟩ = some (.string vb.text) ∧ W.cell? ⟨w.heap.size + 1, 8, none⟩ = some (.int .i64 vb.n) ∧ W.cell? ⟨w.heap.size + 1, 9, none⟩ = some (.int .i64 vb.time) ∧ W.cell? ⟨w.heap.size + 1, 10, none⟩ = some (.slice B vb.l.length cb)), (4, fun W => (convert 35 9 y8).run Try.prog W = .ok (.string sO) W ∧ (convert 35 9 y9).run Try.prog W = .ok (.string sO) W)] (by kernel_rfl) ?_
      refine wpAnyT_pure (i := 0) (oi := { dst := some 43, op := Op.move (Operand.tmp 8), type := 35, pos := "law.go:107", after := #[], guard := none }) (v := ?_) rfl (by kernel_rfl) (by kernel_rfl) (by kernel_rfl) (by kernel_rfl) (fun _ _ _ h => h) (Or.inl ⟨by rfl, ?_⟩) (holds3 (fun _ => SA9.out) (fun _ => SB9.out) (fun _ => K8.out)) ?_
      rotate_left
      · (intro W; go_simp; try with_reducible rfl)
      try simp only [Act.put, List.setIfInBounds_toArray, List.set_cons_zero, List.set_cons_succ]
      refine wpAnyT_take 9 4 (i := 1) (oi := { dst := some 44, op := Op.convert 35 9 (Operand.tmp 43), type := 9, pos := "law.go:107", after := #[{ on := 0, ground := Ground.data }], guard := none }) (v := ?_) (.tail _ (.tail _ (.head _))) rfl (by kernel_rfl) (by kernel_rfl) (by kernel_rfl) (by kernel_rfl) (by kernel_rfl) (by kernel_rfl) (by rfl) (fun _ _ _ h => h) (by rfl) ?_ (holds3 (fun _ => SA9.out) (fun _ => SB9.out) (fun _ => K8.out)) ?_
      rotate_left
      · (intro W hSw; (try dsimp only at hSw); go_simp; try with_reducible rfl)
      try simp only [Act.put, List.setIfInBounds_toArray, List.set_cons_zero, List.set_cons_succ]
      refine wpAnyT_pure (i := 2) (oi := { dst := some 45, op := Op.move (Operand.tmp 9), type := 35, pos := "law.go:107", after := #[], guard := none }) (v := ?_) rfl (by kernel_rfl) (by kernel_rfl) (by kernel_rfl) (by kernel_rfl) (fun _ _ _ h => h) (Or.inl ⟨by rfl, ?_⟩) (holds3 (fun _ => SA9.out) (fun _ => SB9.out) (fun _ => K8.out)) ?_
      rotate_left
      · (intro W; go_simp; try with_reducible rfl)
      try simp only [Act.put, List.setIfInBounds_toArray, List.set_cons_zero, List.set_cons_succ]
      refine wpAnyT_take 9 4 (i := 3) (oi := { dst := some 46, op := Op.convert 35 9 (Operand.tmp 45), type := 9, pos := "law.go:107", after := #[{ on := 2, ground := Ground.data }], guard := none }) (v := ?_) (.tail _ (.tail _ (.head _))) rfl (by kernel_rfl) (by kernel_rfl) (by kernel_rfl) (by kernel_rfl) (by kernel_rfl) (by kernel_rfl) (by rfl) (fun _ _ _ h => h) (by rfl) ?_ (holds3 (fun _ => SA9.out) (fun _ => SB9.out) (fun _ => K8.out)) ?_
      rotate_left
      · (intro W hSw; (try dsimp only at hSw); go_simp; try with_reducible rfl)
      try simp only [Act.put, List.setIfInBounds_toArray, List.set_cons_zero, List.set_cons_succ]
      refine wpAnyT_ready (rs := [4]) (by kernel_rfl) (by simp) (AllT.cons (o := { dst := some 47, op := Op.binOp BinOp.neq 9 (Operand.tmp 44) (Operand.tmp 46) 9, type := 4, pos := "law.go:107", after := #[{ on := 1, ground := Ground.data }, { on := 3, ground := Ground.data }], guard := none }) rfl (fun K hK => ?_) AllT.nil)
      go_simp
      refine hK.out _ _ (holds3 (fun _ => SA9.out) (fun _ => SB9.out) (late_no (by kernel_rfl))) ?_
      clear hK K
      try simp only [Act.put, List.setIfInBounds_toArray, List.set_cons_zero, List.set_cons_succ]
      refine wpAnyT_pure (i := 5) (oi := { dst := some 48, op := Op.move (Operand.tmp 47), type := 4, pos := "law.go:107", after := #[{ on := 4, ground := Ground.data }], guard := none }) (v := ?_) rfl (by kernel_rfl) (by kernel_rfl) (by kernel_rfl) (by kernel_rfl) (fun _ _ _ h => h) (Or.inl ⟨by rfl, ?_⟩) (holds3 (fun _ => SA9.out) (fun _ => SB9.out) (late_no (by kernel_rfl))) ?_
      rotate_left
      · (intro W; go_simp; try with_reducible rfl)
      try simp only [Act.put, List.setIfInBounds_toArray, List.set_cons_zero, List.set_cons_succ]
      refine wpAnyT_take 9 17 (i := 6) (oi := { dst := some 49, op := Op.load 26 (Operand.tmp 3), type := 26, pos := "law.go:107", after := #[{ on := 5, ground := Ground.guard }], guard := some (5, false) }) (v := ?_) (.head _) rfl (by kernel_rfl) (by kernel_rfl) (by kernel_rfl) (by kernel_rfl) (by kernel_rfl) (by kernel_rfl) (by rfl) (fun _ _ _ h => h) (by rfl) ?_ (holds3 (fun _ => SA9.out) (fun _ => SB9.out) (late_no (by kernel_rfl))) ?_
      rotate_left
      · (intro W hSw; (try dsimp only at hSw); go_simp; try with_reducible rfl)
      try simp only [Act.put, List.setIfInBounds_toArray, List.set_cons_zero, List.set_cons_succ]
      refine wpAnyT_take 9 17 (i := 7) (oi := { dst := some 50, op := Op.load 26 (Operand.tmp 4), type := 26, pos := "law.go:107", after := #[{ on := 5, ground := Ground.guard }], guard := some (5, false) }) (v := ?_) (.tail _ (.head _)) rfl (by kernel_rfl) (by kernel_rfl) (by kernel_rfl) (by kernel_rfl) (by kernel_rfl) (by kernel_rfl) (by rfl) (fun _ _ _ h => h) (by rfl) ?_ (holds3 (fun _ => SA9.out) (fun _ => SB9.out) (late_no (by kernel_rfl))) ?_
      rotate_left
      · (intro W hSw; (try dsimp only at hSw); go_simp; try with_reducible rfl)
      try simp only [Act.put, List.setIfInBounds_toArray, List.set_cons_zero, List.set_cons_succ]
      refine wpAnyT_take 9 17 (i := 9) (oi := { dst := some 52, op := Op.load 26 (Operand.tmp 3), type := 26, pos := "law.go:107", after := #[{ on := 5, ground := Ground.guard }], guard := some (5, false) }) (v := ?_) (.head _) rfl (by kernel_rfl) (by kernel_rfl) (by kernel_rfl) (by kernel_rfl) (by kernel_rfl) (by kernel_rfl) (by rfl) (fun _ _ _ h => h) (by rfl) ?_ (holds3 (fun _ => SA9.out) (fun _ => SB9.out) (late_no (by kernel_rfl))) ?_
      rotate_left
      · (intro W hSw; (try dsimp only at hSw); go_simp; try with_reducible rfl)
      try simp only [Act.put, List.setIfInBounds_toArray, List.set_cons_zero, List.set_cons_succ]
      refine wpAnyT_take 9 17 (i := 10) (oi := { dst := some 53, op := Op.load 26 (Operand.tmp 4), type := 26, pos := "law.go:107", after := #[{ on := 5, ground := Ground.guard }], guard := some (5, false) }) (v := ?_) (.tail _ (.head _)) rfl (by kernel_rfl) (by kernel_rfl) (by kernel_rfl) (by kernel_rfl) (by kernel_rfl) (by kernel_rfl) (by rfl) (fun _ _ _ h => h) (by rfl) ?_ (holds3 (fun _ => SA9.out) (fun _ => SB9.out) (late_no (by kernel_rfl))) ?_
      rotate_left
      · (intro W hSw; (try dsimp only at hSw); go_simp; try with_reducible rfl)
      try simp only [Act.put, List.setIfInBounds_toArray, List.set_cons_zero, List.set_cons_succ]
      refine wpAnyT_ready (rs := [8]) (by kernel_rfl) (by simp) (AllT.cons (o := { dst := some 51, op := Op.call { callee := Callee.value (Operand.func 18), args := #[Operand.tmp 49, Operand.tmp 50], argTypes := #[26, 26] }, type := 4, pos := "law.go:107", after := #[{ on := 6, ground := Ground.data }, { on := 7, ground := Ground.data }, { on := 5, ground := Ground.chain }, { on := 5, ground := Ground.guard }], guard := some (5, false) }) rfl (fun K hK => ?_) AllT.nil)
      go_simp
      go_at_call 18
      refine (C1 _ d9).out.mono ?_
      rintro _ s1 ⟨rfl, h1⟩
      have dd1 : wr.grownBy s1 none := only_step d9 h1 (fun _ h => .inl h)
      refine hK.out _ _ (holds3 (fun _ => (SA _ dd1).out) (fun _ => (SB _ dd1).out) (late_no (by kernel_rfl))) ?_
      clear hK K
      try simp only [Act.put, List.setIfInBounds_toArray, List.set_cons_zero, List.set_cons_succ]
      refine wpAnyT_ready (rs := [11]) (by kernel_rfl) (by simp) (AllT.cons (o := { dst := some 54, op := Op.call { callee := Callee.value (Operand.func 19), args := #[Operand.tmp 52, Operand.tmp 53], argTypes := #[26, 26] }, type := 4, pos := "law.go:107", after := #[{ on := 9, ground := Ground.data }, { on := 10, ground := Ground.data }, { on := 8, ground := Ground.chain }, { on := 5, ground := Ground.guard }], guard := some (5, false) }) rfl (fun K hK => ?_) AllT.nil)
      go_simp
      go_at_call 19
      refine (C2 _ dd1).out.mono ?_
      rintro _ s2 ⟨rfl, h2⟩
      have dd2 : wr.grownBy s2 none := only_step dd1 h2 (fun _ h => .inl h)
      refine hK.out _ _ (holds3 (fun _ => (SA _ dd2).out) (fun _ => (SB _ dd2).out) (late_no (by kernel_rfl))) ?_
      clear hK K
      try simp only [Act.put, List.setIfInBounds_toArray, List.set_cons_zero, List.set_cons_succ]
      refine wpAnyT_pure (i := 12) (oi := { dst := some 55, op := Op.binOp BinOp.neq 4 (Operand.tmp 51) (Operand.tmp 54) 4, type := 4, pos := "law.go:107", after := #[{ on := 8, ground := Ground.data }, { on := 11, ground := Ground.data }, { on := 5, ground := Ground.guard }], guard := some (5, false) }) (v := ?_) rfl (by kernel_rfl) (by kernel_rfl) (by kernel_rfl) (by kernel_rfl) (fun _ _ _ h => h) (Or.inl ⟨by rfl, ?_⟩) (holds3 (fun _ => (SA _ dd2).out) (fun _ => (SB _ dd2).out) (late_no (by kernel_rfl))) ?_
      rotate_left
      · (intro W; go_simp; try with_reducible rfl)
      try simp only [Act.put, List.setIfInBounds_toArray, List.set_cons_zero, List.set_cons_succ]
      refine wpAnyT_pure (i := 13) (oi := { dst := some 56, op := Op.pick (Operand.tmp 48) (Operand.const (Value.bool true)) (Operand.tmp 55), type := 4, pos := "law.go:107", after := #[{ on := 5, ground := Ground.data }, { on := 12, ground := Ground.data }], guard := none }) (v := ?_) rfl (by kernel_rfl) (by kernel_rfl) (by kernel_rfl) (by kernel_rfl) (fun _ _ _ h => h) (Or.inl ⟨by rfl, ?_⟩) (holds3 (fun _ => (SA _ dd2).out) (fun _ => (SB _ dd2).out) (late_no (by kernel_rfl))) ?_
      rotate_left
      · (intro W; go_simp; try with_reducible rfl)
      try simp only [Act.put, List.setIfInBounds_toArray, List.set_cons_zero, List.set_cons_succ]
      refine wpAnyT_pure (i := 14) (oi := { dst := some 57, op := Op.move (Operand.tmp 56), type := 4, pos := "law.go:107", after := #[{ on := 13, ground := Ground.data }, { on := 11, ground := Ground.chain }], guard := none }) (v := ?_) rfl (by kernel_rfl) (by kernel_rfl) (by kernel_rfl) (by kernel_rfl) (fun _ _ _ h => h) (Or.inl ⟨by rfl, ?_⟩) (holds3 (fun _ => (SA _ dd2).out) (fun _ => (SB _ dd2).out) (late_no (by kernel_rfl))) ?_
      rotate_left
      · (intro W; go_simp; try with_reducible rfl)
      try simp only [Act.put, List.setIfInBounds_toArray, List.set_cons_zero, List.set_cons_succ]
      refine wpAnyT_take 9 17 (i := 15) (oi := { dst := some 58, op := Op.load 26 (Operand.tmp 3), type := 26, pos := "law.go:107", after := #[{ on := 14, ground := Ground.guard }], guard := some (14, false) }) (v := ?_) (.head _) rfl (by kernel_rfl) (by kernel_rfl) (by kernel_rfl) (by kernel_rfl) (by kernel_rfl) (by kernel_rfl) (by rfl) (fun _ _ _ h => h) (by rfl) ?_ (holds3 (fun _ => (SA _ dd2).out) (fun _ => (SB _ dd2).out) (late_no (by kernel_rfl))) ?_
      rotate_left
      · (intro W hSw; (try dsimp only at hSw); go_simp; try with_reducible rfl)
      try simp only [Act.put, List.setIfInBounds_toArray, List.set_cons_zero, List.set_cons_succ]
      refine wpAnyT_take 9 17 (i := 16) (oi := { dst := some 59, op := Op.load 26 (Operand.tmp 3), type := 26, pos := "law.go:107", after := #[{ on := 14, ground := Ground.guard }], guard := some (14, false) }) (v := ?_) (.head _) rfl (by kernel_rfl) (by kernel_rfl) (by kernel_rfl) (by kernel_rfl) (by kernel_rfl) (by kernel_rfl) (by rfl) (fun _ _ _ h => h) (by rfl) ?_ (holds3 (fun _ => (SA _ dd2).out) (fun _ => (SB _ dd2).out) (late_no (by kernel_rfl))) ?_
      rotate_left
      · (intro W hSw; (try dsimp only at hSw); go_simp; try with_reducible rfl)
      try simp only [Act.put, List.setIfInBounds_toArray, List.set_cons_zero, List.set_cons_succ]
      refine wpAnyT_ready (rs := [17]) (by kernel_rfl) (by simp) (AllT.cons (o := { dst := some 60, op := Op.call { callee := Callee.value (Operand.func 18), args := #[Operand.tmp 58, Operand.tmp 59], argTypes := #[26, 26] }, type := 4, pos := "law.go:107", after := #[{ on := 15, ground := Ground.data }, { on := 16, ground := Ground.data }, { on := 14, ground := Ground.chain }, { on := 14, ground := Ground.guard }], guard := some (14, false) }) rfl (fun K hK => ?_) AllT.nil)
      go_simp
      go_at_call 18
      refine (C3 _ dd2).out.mono ?_
      rintro _ s3 ⟨rfl, h3⟩
      have dd3 : wr.grownBy s3 none := only_step dd2 h3 (fun _ h => .inl h)
      refine hK.out _ _ (holds3 (late_no (by kernel_rfl)) (late_no (by kernel_rfl)) (late_no (by kernel_rfl))) ?_
      clear hK K
      try simp only [Act.put, List.setIfInBounds_toArray, List.set_cons_zero, List.set_cons_succ]
      refine wpAnyT_pure (i := 18) (oi := { dst := some 61, op := Op.unOp UnOp.not 4 (Operand.tmp 60), type := 4, pos := "law.go:107", after := #[{ on := 17, ground := Ground.data }, { on := 14, ground := Ground.guard }], guard := some (14, false) }) (v := ?_) rfl (by kernel_rfl) (by kernel_rfl) (by kernel_rfl) (by kernel_rfl) (fun _ _ _ h => h) (Or.inl ⟨by rfl, ?_⟩) (holds3 (late_no (by kernel_rfl)) (late_no (by kernel_rfl)) (late_no (by kernel_rfl))) ?_
      rotate_left
      · (intro W; go_simp; try with_reducible rfl)
      try simp only [Act.put, List.setIfInBounds_toArray, List.set_cons_zero, List.set_cons_succ]
      refine wpAnyT_pure (i := 19) (oi := { dst := some 62, op := Op.pick (Operand.tmp 57) (Operand.const (Value.bool true)) (Operand.tmp 61), type := 4, pos := "law.go:107", after := #[{ on := 14, ground := Ground.data }, { on := 18, ground := Ground.data }], guard := none }) (v := ?_) rfl (by kernel_rfl) (by kernel_rfl) (by kernel_rfl) (by kernel_rfl) (fun _ _ _ h => h) (Or.inl ⟨by rfl, ?_⟩) (holds3 (late_no (by kernel_rfl)) (late_no (by kernel_rfl)) (late_no (by kernel_rfl))) ?_
      rotate_left
      · (intro W; go_simp; try with_reducible rfl)
      try simp only [Act.put, List.setIfInBounds_toArray, List.set_cons_zero, List.set_cons_succ]
      refine wpAnyT_done (by kernel_rfl) ?_ _
      have g3 : b9.grownBy s3 none := only_step (only_step (only_step (only_drew (only_refl b9 none)) h1 (fun _ h => .inl h)) h2 (fun _ h => .inl h)) h3 (fun _ h => .inl h)
      have oy : s3.ownsRow b8.heap.size 5 1 y9 (bs (fr ++ XO)).length (bs (fr ++ XO)) := own_off ow9' g3
      have GS : wr.grownBy s3 none := dd3
      clear h1 h2 h3 dd1 dd2 dd3 g3 ow9' C1 C2 C3 K8 SA9 SB9 d9 gr9 CB CR
      obtain ⟨AY, cY, rfl⟩ := own_slice oy
      have hcapY := own_cap oy
      rw [bs_len] at hcapY
      have hYH : Has s3 s3.heap.size AY (bs (fr ++ XO)) := Has.own oy
      rw [show (bs (fr ++ XO)).length = (fr ++ XO).length from bs_len _]
      have HYH := Lib.hid hYH
      have HGS := Lib.hid GS
      clear oy hYH GS
      have u1 : (fr.length : Int) ≤ ((fr ++ XO).length : Int) := by rw [List.length_append]; omega
      have hfl := HFR.out
      have hXp : 0 < XO.length := by rw [← HXE.out]; exact opB_pos _ _ _ _ _ _ _ _ _ _ _ FA.out.ok.dot.1
      have hlq : fr.length < cY := by rw [List.length_append] at hcapY; omega
      have hlq2 : ¬ cY = fr.length := by omega
      have hlq3 : (fr.length : Int) < (cY : Int) := by omega
      go_wp2_with fail
      have hD : Has s3 s3.heap.size (AY.map (fun x => x.add fr.length)) (bs XO) := by
        have h := HYH.out.drop fr.length
        rwa [List.drop_left] at h
      have HDD := Lib.hid hD
      obtain ⟨AX, hAX⟩ : ∃ x, AY.map (fun x => x.add fr.length) = x := ⟨_, rfl⟩
      rw [hAX] at HDD
      rw [hAX]
      have HAX := Lib.hid hAX
      clear hD hAX HYH
      obtain ⟨cX, hcX⟩ : ∃ x, cY - fr.length = x := ⟨_, rfl⟩
      have hcXl : XO.length ≤ cX := by rw [← hcX]; rw [List.length_append] at hcapY; omega
      rw [hcX]
      have HCX := Lib.hid (And.intro hcX hcXl)
      clear hcX hcXl
      obtain ⟨vo, hvo⟩ : ∃ x, readV (opV (XO, 0)) (endE (XO, 0)) = x := ⟨_, rfl⟩
      obtain ⟨eo, heo⟩ : ∃ x, readE (opV (XO, 0)) (endE (XO, 0)) = x := ⟨_, rfl⟩
      have HVL : Hid (vo.l.length ≤ 8) := by rw [← hvo]; exact readV_few _ _
      have hXL : XO.length ≤ 1099511627776 := by have := HXO.out.1; have := FA.out.few; omega
      refine (pparse_any AX cX XO s3 HDD.out hXL HXO.out.2).mono ?_
      rintro e4 p1 ⟨hp, gp⟩
      unfold ParseP OpV.agg at hp
      rw [hvo, heo] at hp
      obtain ⟨AO, cO, rfl, bO, WO⟩ := hp
      have HWO := Lib.hid WO
      have HGP := Lib.hid (only_step HGS.out gp (fun _ h => .inl h))
      have HDP := Lib.hid (HDD.out.up gp)
      clear gp WO HDD
      go_wp2_with fail
      obtain ⟨p2, hp2⟩ : ∃ Z, p1.alloc (.cells #[.int .i64 vo.d, .int .i64 vo.e, .int .i64 vo.s, .int .i64 vo.coll, .int .i64 vo.ver, .int .i64 vo.kind, .string vo.key, .string vo.text, .int .i64 vo.n, .int .i64 vo.time, .slice AO vo.l.length cO] 26) = Z := ⟨_, rfl⟩
      have OO : Hid (OpB p2 p1.heap.size vo.d vo.e vo.s vo.coll vo.ver vo.kind vo.key vo.text vo.n vo.time (.slice AO vo.l.length cO)) := by subst hp2; exact heap_alloc_new p1 _
      have gp2 : p1.grownBy p2 none := by subst hp2; exact World.grownBy_alloc p1 _ none
      rw [hp2]
      clear hp2
      rw [HAX.out, HCX.out.1]
      have HWO2 := Lib.hid (own_off HWO.out gp2)
      have HGP2 := Lib.hid (only_step HGP.out gp2 (fun _ h => .inl h))
      refine (rparse_any AX cX XO p2 (HDP.out.up gp2) HCX.out.2 hXL HXO.out.2).mono ?_
      rintro e5 p3 ⟨hp, gp3⟩
      unfold ParseP OpV.agg at hp
      rw [hvo, heo] at hp
      obtain ⟨AP, cP, rfl, bP, WP⟩ := hp
      have HWP := Lib.hid WP
      have HWO3 := Lib.hid (own_off HWO2.out gp3)
      have HGP3 := Lib.hid (only_step HGP2.out gp3 (fun _ h => .inl h))
      have OO3 := Lib.hid (OO.out.other gp3 (by simp))
      clear gp2 gp3 WP HWO HWO2 HGP HGP2 HDP OO HAX HCX hcapY u1 hfl hlq hlq2 hlq3 hXp HGS
      have hgd := HGD.out (by first | rfl | trivial)
      have hpb := parse_bytes va FA.out.ok (by have := FA.out.key; omega) (by have := FA.out.text; omega) hgd.2
      rw [HXE.out] at hpb
      have he0 : eo = 0 := by rw [← heo, hpb.1, hpb.2]; unfold readE; rw [if_pos rfl]; exact hgd.1
      have hv0 : va = vo := by rw [← hvo, hpb.1, hpb.2]; unfold readV readE; rw [if_pos rfl, hgd.1, if_pos rfl]
      clear hvo heo hpb hgd
      subst he0
      subst hv0
      go_upto_region 14 with fail
      obtain ⟨p4, hp4⟩ : ∃ Z, p3.alloc (.cells #[.int .i64 va.d, .int .i64 va.e, .int .i64 va.s, .int .i64 va.coll, .int .i64 va.ver, .int .i64 va.kind, .string va.key, .string va.text, .int .i64 va.n, .int .i64 va.time, .slice AP va.l.length cP] 26) = Z := ⟨_, rfl⟩
      have OP : OpB p4 p3.heap.size va.d va.e va.s va.coll va.ver va.kind va.key va.text va.n va.time (.slice AP va.l.length cP) := by subst hp4; exact heap_alloc_new p3 _
      have gp4 : p3.grownBy p4 none := by subst hp4; exact World.grownBy_alloc p3 _ none
      rw [hp4]
      clear hp4
      have WO4 := own_off HWO3.out gp4
      have WP4 := own_off HWP.out gp4
      have OO4 := OO3.out.other gp4 (by simp)
      have G4 := only_step HGP3.out gp4 (fun _ h => .inl h)
      obtain ⟨o0, o1, o2, o3, o4, o5, o6, o7, o8, o9, o10⟩ := OO4.cells
      obtain ⟨k0, k1, k2, k3, k4, k5, k6, k7, k8, k9, k10⟩ := OP.cells
      clear HWO3 HWP OO3 HGP3
      have HOo := Lib.hid (Has.own_w WO4)
      have HPo := Lib.hid (Has.own_w WP4)
      skip
      obtain ⟨a0, a1, a2, a3, a4, a5, a6, a7, a8, a9, a10⟩ := (SA p4 G4).out
      clear WO4 WP4
      go_wp2_with (first
        | (go_at_call 19; refine (rsame_any va.d va.e va.s va.coll va.ver va.kind va.n va.time va.key va.text AO cO va.l va.d va.e va.s va.coll va.ver va.kind va.n va.time va.key va.text A ca va.l true (by simp) p5 HO5.out HA5.out (by have := HVL.out; omega)).mono ?_; rintro _ p6 ⟨rfl, g6⟩; have G6 := only_step G5 g6 (fun _ h => .inl h); obtain ⟨ab0, ab1, ab2, ab3, ab4, ab5, ab6, ab7, ab8, ab9, ab10⟩ := (SA p6 G6).out)
        | (go_at_call 19; go_must (refine (rsame_any va.d va.e va.s va.coll va.ver va.kind va.n va.time va.key va.text AO cO va.l va.d va.e va.s va.coll va.ver va.kind va.n va.time va.key va.text AP cP va.l true (by simp) p4 HOo.out HPo.out (by have := HVL.out; omega)).mono ?_; rintro _ p5 ⟨rfl, g5⟩; have OO5 := OO4.other g5 (by simp); obtain ⟨oo0, oo1, oo2, oo3, oo4, oo5, oo6, oo7, oo8, oo9, oo10⟩ := OO5.cells; have G5 := only_step G4 g5 (fun _ h => .inl h); obtain ⟨aa0, aa1, aa2, aa3, aa4, aa5, aa6, aa7, aa8, aa9, aa10⟩ := (SA p5 G5).out; have HO5 := Lib.hid (HOo.out.up g5); have HA5 := Lib.hid (RA.out.has.up G5))))
      clear oo0 oo1 oo2 oo3 oo4 oo5 oo6 oo7 oo8 oo9 oo10 aa0 aa1 aa2 aa3 aa4 aa5 aa6 aa7 aa8 aa9 aa10 a0 a1 a2 a3 a4 a5 a6 a7 a8 a9 a10 ab0 ab1 ab2 ab3 ab4 ab5 ab6 ab7 ab8 ab9 ab10
      clear o0 o1 o2 o3 o4 o5 o6 o7 o8 o9 o10 k0 k1 k2 k3 k4 k5 k6 k7 k8 k9 k10 OO4 OP gp4 G4 HOo HPo HVL SA SB
      have BA5 := BA.out.other G6 (by simp)
      have BB5 := BB.out.other G6 (by simp)
      have RA5 := RA.out.keep G6 (fun _ e => by cases e)
      have RB5 := RB.out.keep G6 (fun _ e => by cases e)
      have GG5 := Lib.hid (only_step GG.out G6 (fun _ h => .inl h))
      refine (goodv_any va A ca p6 FA.out RA5.has RA5.2).mono ?_
      rintro _ q5 ⟨AG, cG, rfl, WG, gq⟩
      have BA6 := BA5.other gq (by simp)
      have BB6 := BB5.other gq (by simp)
      have RB6 := Lib.hid (RB5.keep gq (fun _ e => by cases e))
      have GG6 := Lib.hid (only_step GG5.out gq (fun _ h => .inl h))
      have GFW := Lib.hid (good_fw va FA.out.ok.n)
      obtain ⟨vg, hvg⟩ : ∃ x, goodV va = x := ⟨_, rfl⟩
      rw [hvg] at WG GFW
      rw [hvg]
      have HWG := Lib.hid WG
      clear hvg WG gq BA5 BB5 RA5 RB5 GG5
      have HB6 := Lib.hid BB6
      obtain ⟨a0, a1, a2, a3, a4, a5, a6, a7, a8, a9, a10⟩ := BA6.cells
      have f0 := BA6.fr 0
      have f1 := BA6.fr 1
      have f2 := BA6.fr 2
      have f3 := BA6.fr 3
      have f4 := BA6.fr 4
      have f5 := BA6.fr 5
      have f6 := BA6.fr 6
      have f7 := BA6.fr 7
      have f8 := BA6.fr 8
      have f9 := BA6.fr 9
      have f10 := BA6.fr 10
      go_wp2_with fail
      obtain ⟨U, hU⟩ : ∃ Z, (((((((((((q5.setCell ⟨w.heap.size, 0, none⟩ (.int .i64 vg.d)).setCell ⟨w.heap.size, 1, none⟩ (.int .i64 vg.e)).setCell ⟨w.heap.size, 2, none⟩ (.int .i64 vg.s)).setCell ⟨w.heap.size, 3, none⟩ (.int .i64 vg.coll)).setCell ⟨w.heap.size, 4, none⟩ (.int .i64 vg.ver)).setCell ⟨w.heap.size, 5, none⟩ (.int .i64 vg.kind)).setCell ⟨w.heap.size, 6, none⟩ (.string vg.key)).setCell ⟨w.heap.size, 7, none⟩ (.string vg.text)).setCell ⟨w.heap.size, 8, none⟩ (.int .i64 vg.n)).setCell ⟨w.heap.size, 9, none⟩ (.int .i64 vg.time)).setCell ⟨w.heap.size, 10, none⟩ (.slice AG vg.l.length cG)) = Z := ⟨_, rfl⟩
      have BU : OpB U (w.heap.size) vg.d vg.e vg.s vg.coll vg.ver vg.kind vg.key vg.text vg.n vg.time (.slice AG vg.l.length cG) := by subst hU; exact (((((((((((BA6.set0 _).set1 _).set2 _).set3 _).set4 _).set5 _).set6 _).set7 _).set8 _).set9 _).set10 _)
      have gU : q5.grownBy U (some (w.heap.size)) := by subst hU; exact (set_at (set_at (set_at (set_at (set_at (set_at (set_at (set_at (set_at (set_at (set_at (only_refl _ _) 0 _) 1 _) 2 _) 3 _) 4 _) 5 _) 6 _) 7 _) 8 _) 9 _) 10 _)
      rw [hU]
      clear hU a0 a1 a2 a3 a4 a5 a6 a7 a8 a9 a10 f0 f1 f2 f3 f4 f5 f6 f7 f8 f9 f10
      have BBU := HB6.out.other gU (by intro e; injection e with e; omega)
      have RBU := RB6.out.keep gU (fun k e => by injection e with e; exact .inl e.symm)
      have WGU := HWG.out.kept gU (own_apart HWG.out BA6)
      have RAU := Rw.own WGU BU BBU
      have GGU : w.grownBy U none := only_step GG6.out gU (fun k e => by injection e with e; right; omega)
      go_roundw
      case rel => exact ⟨2, vg, vb, AG, B, cG, cb, by omega, rfl, BU, BBU, RAU, RBU, GFW.out.1, FB.out, (fun _ => GFW.out.2), GGU⟩
      case measure => simp [intOf]
    · go_wp2_with fail
      go_ret
      exact ⟨rfl, GG.out⟩
end Go.Proofs.Ytcmpeohooiehcaa
