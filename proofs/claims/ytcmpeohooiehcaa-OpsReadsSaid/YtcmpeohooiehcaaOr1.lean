/- The law OpsReads, walked at an operation that is not too much. Conditions: no more than 300 bytes behind. -/
import Derived.Test.YtcmpeohooiehcaaOk
namespace Go.Proofs.Ytcmpeohooiehcaa
open Go.RowKit Go.Deep Go.ChangeShapes
set_option maxRecDepth 100000 in
set_option maxHeartbeats 20000000 in
theorem or_core (va : OpV) (A T B R : Option Addr) (ca ct cb cr : Nat) (at_ by_ raw : List Int) (cut : Int) (w : World) (hA : Has w w.heap.size A (dc va.l)) (fa : Fw va) (hca : va.l.length ≤ ca) (hfew : fewP va.key va.text va.l = true)
    (hT : Has w w.heap.size T (is at_)) (hTi : ∀ n ∈ at_, I64 n) (hB : Has w w.heap.size B (bs by_)) (hBb : bytesOk by_) (hR : Has w w.heap.size R (bs raw)) (hRb : bytesOk raw) (hRc : raw.length ≤ cr) (hRl : raw.length ≤ 300) (hcut : I64 cut) (hTl : at_.length ≤ maxLen) (hBl : by_.length ≤ maxLen) :
    Calls Try.prog 5 #[.agg #[.int .i64 va.d, .int .i64 va.e, .int .i64 va.s, .int .i64 va.coll, .int .i64 va.ver, .int .i64 va.kind, .string va.key, .string va.text, .int .i64 va.n, .int .i64 va.time, .slice A va.l.length ca], .slice T at_.length ct, .slice B by_.length cb, .int .i64 cut, .slice R raw.length cr] w fun e' w' => e' = .returned (.bool true) ∧ w.grownBy w' none := by
  have HA0 := Lib.hid hA
  have FA := Lib.hid fa
  have HCA := Lib.hid hca
  have HT := Lib.hid (And.intro hT hTi)
  have HB := Lib.hid (And.intro hB hBb)
  have HR := Lib.hid (And.intro hR (And.intro hRb (And.intro hRc hRl)))
  have HCU := Lib.hid hcut
  have n300 : ¬ (300 : Int) < (raw.length : Int) := by omega
  unfold maxLen at hTl hBl
  have HLN := Lib.hid (And.intro hTl hBl)
  clear hA fa hca hT hTi hB hBb hR hRb hRc hRl hcut hTl hBl
  obtain ⟨w1, hw1⟩ : ∃ Z, w.alloc (.cells #[.int .i64 va.d, .int .i64 va.e, .int .i64 va.s, .int .i64 va.coll, .int .i64 va.ver, .int .i64 va.kind, .string va.key, .string va.text, .int .i64 va.n, .int .i64 va.time, .slice A va.l.length ca] 26) = Z := ⟨_, rfl⟩
  have P1 : OpB w1 w.heap.size va.d va.e va.s va.coll va.ver va.kind va.key va.text va.n va.time (.slice A va.l.length ca) := by subst hw1; exact heap_alloc_new w _
  have g1 : w.grownBy w1 none := by subst hw1; exact World.grownBy_alloc w _ none
  go_enter Try.func5, Try.ntmps5
  go_wp2_with fail
  clear hw1
  refine (known_any _).mono ?_
  rintro _ w2 ⟨rfl, gk⟩
  have G2 : w.grownBy w2 none := only_step g1 gk (fun _ h => .inl h)
  have P2 := P1.other gk (by simp)
  clear P1 gk g1
  obtain ⟨c0, c1, c2, c3, c4, c5, c6, c7, c8, c9, c10⟩ := P2.cells
  go_wp2_with fail
  refine (few_any va.d va.e va.s va.coll va.ver va.kind va.n va.time va.key va.text A ca va.l _).mono ?_
  rintro _ w3 ⟨rfl, g3⟩
  rw [hfew]
  have G3 := only_step G2 g3 (fun _ h => .inl h)
  have P3 := P2.other g3 (by simp)
  clear c0 c1 c2 c3 c4 c5 c6 c7 c8 c9 c10 P2 G2 g3 hfew
  obtain ⟨c0, c1, c2, c3, c4, c5, c6, c7, c8, c9, c10⟩ := P3.cells
  go_wp2_with fail
  clear n300
  refine (goodv_any va A ca w3 FA.out (HA0.out.up G3) HCA.out).mono ?_
  rintro _ w4 ⟨AG, cG, rfl, WG, g4⟩
  have GFW := Lib.hid (good_fw va FA.out.ok.n)
  obtain ⟨vg, hvg⟩ : ∃ x, goodV va = x := ⟨_, rfl⟩
  rw [hvg] at WG GFW
  rw [hvg]
  have HWG := Lib.hid WG
  have G4 := only_step G3 g4 (fun _ h => .inl h)
  clear hvg WG g4 P3 G3 c0 c1 c2 c3 c4 c5 c6 c7 c8 c9 c10 HA0 FA HCA
  obtain ⟨XO, hXO⟩ : ∃ x, vg.bytes = x := ⟨_, rfl⟩
  have hX1 : XO.length ≤ 3000000 := by rw [← hXO]; have := opB_len _ _ _ _ _ _ _ _ _ _ _ GFW.out.1.ok.dot GFW.out.1.ok.nums GFW.out.1.ok.n GFW.out.1.ok.key GFW.out.1.ok.text GFW.out.1.ok.dots GFW.out.1.ok.few; have := GFW.out.1.few; unfold OpV.bytes; omega
  have hX2 : bytesOk XO := by rw [← hXO]; exact opB_byte _ _ _ _ _ _ _ _ _ _ _
  have hX3 : 0 < XO.length := by rw [← hXO]; exact opB_pos _ _ _ _ _ _ _ _ _ _ _ GFW.out.1.ok.dot.1
  have CR := Lib.hid (rbytes_any w4.heap.size (.slice none 0 0) [] vg.d vg.e vg.s vg.coll vg.ver vg.kind vg.n vg.time vg.key vg.text AG cG vg.l w4 (World.ownsRow_nil _ _ _ _) (Nat.le_refl _) GFW.out.1.ok.dot GFW.out.1.ok.nums GFW.out.1.ok.n GFW.out.1.ok.key GFW.out.1.ok.text (Has.own_w HWG.out) GFW.out.1.ok.dots GFW.out.1.ok.few (by simp))
  rw [List.nil_append, show opB vg.d vg.e vg.s vg.coll vg.ver vg.kind vg.n vg.time vg.key vg.text vg.l = XO from hXO] at CR
  clear hXO
  go_wp2_with fail
  refine CR.out.mono ?_
  rintro _ w5 ⟨y5, rfl, g5⟩
  have G5 := only_step G4 (g5.none rfl) (fun _ h => .inl h)
  have o5 := g5.own
  rw [bs_len] at o5
  obtain ⟨gb, cp, rfl, hgb⟩ := own_form o5 hX3
  have hG4 := G4.size
  clear CR g5 HWG GFW G4 w1
  obtain ⟨N, hN⟩ : ∃ x, XO.length = x := ⟨_, rfl⟩
  rw [hN] at o5 hX1 hX3
  rw [hN]
  have HX0 := Lib.hid (And.intro hN (And.intro hX1 (And.intro hX2 hX3)))
  have HGB := Lib.hid (show w.heap.size ≤ gb by omega)
  have HO5 := Lib.hid o5
  have HG5 := Lib.hid G5
  clear hN hX1 hX2 hX3 hgb hG4 o5 G5
  go_upto_block 0 with fail
  go_cut [12] (fun s12 wx => ∃ (i : Nat) (X : List Int), s12 = .int .i64 i ∧ Hid (X.length = N ∧ bytesOk X) ∧ Hid (wx.ownsRow w4.heap.size 5 1 (.slice (some ⟨gb, 0, none⟩) N cp) N (bs X)) ∧ Hid (w.grownBy wx none))
  case first =>
    go_wp2_with fail
    go_loopw [12] (fun si wr => ∃ (i : Nat) (X : List Int), i ≤ 3 ∧ si = .int .i64 i ∧ Hid (X.length = N ∧ bytesOk X) ∧ Hid (wr.ownsRow w4.heap.size 5 1 (.slice (some ⟨gb, 0, none⟩) N cp) N (bs X)) ∧ Hid (w.grownBy wr none))
      (fun si _ => 3 - (intOf si).toNat)
    case atStart => exact ⟨0, XO, by omega, rfl, ⟨HX0.out.1, HX0.out.2.2.1⟩, HO5, HG5⟩
    case round =>
      clear HO5 HG5
      obtain ⟨i, X, hi, rfl, HX, HO, HG⟩ := hrel
      by_cases h1 : i < at_.length
      · by_cases h2 : i < by_.length
        · by_cases h3 : i < 3
          · obtain ⟨a, ha⟩ : ∃ a, a = at_[i] := ⟨_, rfl⟩
            obtain ⟨z, hz⟩ : ∃ z, z = by_[i] := ⟨_, rfl⟩
            have HAI := Lib.hid (show I64 a by rw [ha]; exact HT.out.2 _ (List.getElem_mem h1))
            have HZ := Lib.hid (show 0 ≤ z ∧ z ≤ 255 by rw [hz]; exact HB.out.2 _ (List.getElem_mem h2))
            have hat : (is at_)[i]? = some (.int .i64 a) := by rw [ha]; simp [is, h1]
            have hby : (bs by_)[i]? = some (.int .u8 z) := by rw [hz]; simp [bs, h2]
            obtain ⟨tb, toff, rfl, htb, hct⟩ : ∃ b off, T = some ⟨b, off, none⟩ ∧ b < w.heap.size ∧ wr.cell? ⟨b, off + i, none⟩ = some (.int .i64 a) := by
              rcases HT.out.1 with h0 | ⟨b, off, hA', hb, hc⟩
              · rw [h0] at hat; cases hat
              · exact ⟨b, off, hA', hb, (World.cell?_of_block (HG.out.block b hb (by simp))).trans (hc i _ hat)⟩
            obtain ⟨bb, boff, rfl, hbb, hcb⟩ : ∃ b off, B = some ⟨b, off, none⟩ ∧ b < w.heap.size ∧ wr.cell? ⟨b, off + i, none⟩ = some (.int .u8 z) := by
              rcases HB.out.1 with h0 | ⟨b, off, hA', hb, hc⟩
              · rw [h0] at hby; cases hby
              · exact ⟨b, off, hA', hb, (World.cell?_of_block (HG.out.block b hb (by simp))).trans (hc i _ hby)⟩
            have m1 := Int.emod_nonneg a (show (N : Int) ≠ 0 by have := HX0.out.2.2.2; omega)
            have m2 := Int.emod_lt_of_pos a (show (0 : Int) < (N : Int) by have := HX0.out.2.2.2; omega)
            obtain ⟨m, hm⟩ : ∃ m : Nat, a % (N : Int) = m := ⟨(a % (N : Int)).toNat, by omega⟩
            have HW : ∀ W, Hid (Calls Try.prog 15 #[.int .i64 a, .int .i64 N] W fun e w' => e = .returned (.int .i64 m) ∧ W = w') := fun W => by rw [← hm]; exact within_any a N HAI.out.1 HAI.out.2 (by have := HX0.out.2.2.2; omega) (by have := HX0.out.2.1; omega) W
            rw [hm] at m1 m2
            have hmN : m < N := by omega
            obtain ⟨x, hx⟩ : ∃ x, X[m]? = some x := ⟨_, List.getElem?_eq_getElem (by rw [HX.out.1]; exact hmN)⟩
            have hxb : 0 ≤ x ∧ x ≤ 255 := HX.out.2 x (List.mem_of_getElem? hx)
            have cx : wr.cell? ⟨gb, m, none⟩ = some (.int .u8 x) := by rw [HO.out.cellAt m (by omega)]; simp [bs, hx]
            have fx : wr.frozen? ⟨gb, m, none⟩ = false := HO.out.frozenAt m
            have HXB := Lib.hid hxb
            have HHM := Lib.hid hm
            clear ha hz hat hby hm hx hxb
            have u0 : (0 : Int) ≤ (i : Int) := by omega
            have u1 : (i : Int) < (at_.length : Int) := by omega
            have u2 : (i : Int) < (by_.length : Int) := by omega
            have u3 : (m : Int) < (N : Int) := by omega
            have u4 : (0 : Int) ≤ (m : Int) := by omega
            obtain ⟨y, hy⟩ : ∃ y, IntKind.u8.wrap (x + z) = y := ⟨_, rfl⟩
            have HY : Hid (0 ≤ y ∧ y ≤ 255) := by unfold Hid; rw [← hy, IntKind.wrap_u8]; omega
            have hTL := HLN.out.1
            have hBL := HLN.out.2
            go_wp2_with fail
            refine wp_region_late [(16, fun V => V.cell? ⟨tb, toff + i, none⟩ = some (.int .i64 a) ∧ V.cell? ⟨bb, boff + i, none⟩ = some (.int .u8 z) ∧ V.cell? ⟨gb, m, none⟩ = some (.int .u8 x))] (by kernel_rfl) ?_
            refine wpAnyT_pure (i := 0) (oi := { dst := some 48, op := Op.move (Operand.tmp 11), type := 35, pos := "law.go:133", after := #[], guard := none }) (v := ?_) rfl (by kernel_rfl) (by kernel_rfl) (by kernel_rfl) (by kernel_rfl) (fun _ _ _ h => h) (Or.inl ⟨by rfl, ?_⟩) (holds1 (fun _ => (show wr.drew.cell? ⟨tb, toff + i, none⟩ = some (.int .i64 a) ∧ wr.drew.cell? ⟨bb, boff + i, none⟩ = some (.int .u8 z) ∧ wr.drew.cell? ⟨gb, m, none⟩ = some (.int .u8 x) from ⟨hct, hcb, cx⟩))) ?_
            rotate_left
            · (intro W; go_simp; try with_reducible rfl)
            try simp only [Act.put, List.setIfInBounds_toArray, List.set_cons_zero, List.set_cons_succ]
            refine wpAnyT_pure (i := 1) (oi := { dst := some 49, op := Op.move (Operand.tmp 1), type := 43, pos := "law.go:133", after := #[], guard := none }) (v := ?_) rfl (by kernel_rfl) (by kernel_rfl) (by kernel_rfl) (by kernel_rfl) (fun _ _ _ h => h) (Or.inl ⟨by rfl, ?_⟩) (holds1 (fun _ => (show wr.drew.cell? ⟨tb, toff + i, none⟩ = some (.int .i64 a) ∧ wr.drew.cell? ⟨bb, boff + i, none⟩ = some (.int .u8 z) ∧ wr.drew.cell? ⟨gb, m, none⟩ = some (.int .u8 x) from ⟨hct, hcb, cx⟩))) ?_
            rotate_left
            · (intro W; go_simp; try with_reducible rfl)
            try simp only [Act.put, List.setIfInBounds_toArray, List.set_cons_zero, List.set_cons_succ]
            refine wpAnyT_pure (i := 2) (oi := { dst := some 50, op := Op.move (Operand.tmp 12), type := 3, pos := "law.go:133", after := #[], guard := none }) (v := ?_) rfl (by kernel_rfl) (by kernel_rfl) (by kernel_rfl) (by kernel_rfl) (fun _ _ _ h => h) (Or.inl ⟨by rfl, ?_⟩) (holds1 (fun _ => (show wr.drew.cell? ⟨tb, toff + i, none⟩ = some (.int .i64 a) ∧ wr.drew.cell? ⟨bb, boff + i, none⟩ = some (.int .u8 z) ∧ wr.drew.cell? ⟨gb, m, none⟩ = some (.int .u8 x) from ⟨hct, hcb, cx⟩))) ?_
            rotate_left
            · (intro W; go_simp; try with_reducible rfl)
            try simp only [Act.put, List.setIfInBounds_toArray, List.set_cons_zero, List.set_cons_succ]
            refine wpAnyT_pure (i := 3) (oi := { dst := some 51, op := Op.indexAddr 43 (Operand.tmp 49) (Operand.tmp 50), type := 0, pos := "law.go:133", after := #[{ on := 1, ground := Ground.data }, { on := 2, ground := Ground.data }], guard := none }) (v := ?_) rfl (by kernel_rfl) (by kernel_rfl) (by kernel_rfl) (by kernel_rfl) (fun _ _ _ h => h) (Or.inl ⟨by rfl, ?_⟩) (holds1 (fun _ => (show wr.drew.cell? ⟨tb, toff + i, none⟩ = some (.int .i64 a) ∧ wr.drew.cell? ⟨bb, boff + i, none⟩ = some (.int .u8 z) ∧ wr.drew.cell? ⟨gb, m, none⟩ = some (.int .u8 x) from ⟨hct, hcb, cx⟩))) ?_
            rotate_left
            · (intro W; go_simp; try with_reducible rfl)
            try simp only [Act.put, List.setIfInBounds_toArray, List.set_cons_zero, List.set_cons_succ]
            refine wpAnyT_take 6 16 (i := 4) (oi := { dst := some 52, op := Op.load 3 (Operand.tmp 51), type := 3, pos := "law.go:133", after := #[{ on := 3, ground := Ground.data }], guard := none }) (v := ?_) (.head _) rfl (by kernel_rfl) (by kernel_rfl) (by kernel_rfl) (by kernel_rfl) (by kernel_rfl) (by kernel_rfl) (by rfl) (fun _ _ _ h => h) (by rfl) ?_ (holds1 (fun _ => (show wr.drew.cell? ⟨tb, toff + i, none⟩ = some (.int .i64 a) ∧ wr.drew.cell? ⟨bb, boff + i, none⟩ = some (.int .u8 z) ∧ wr.drew.cell? ⟨gb, m, none⟩ = some (.int .u8 x) from ⟨hct, hcb, cx⟩))) ?_
            rotate_left
            · (intro W hSw; (try dsimp only at hSw); go_simp; try with_reducible rfl)
            try simp only [Act.put, List.setIfInBounds_toArray, List.set_cons_zero, List.set_cons_succ]
            refine wpAnyT_pure (i := 5) (oi := { dst := some 53, op := Op.move (Operand.tmp 11), type := 35, pos := "law.go:133", after := #[], guard := none }) (v := ?_) rfl (by kernel_rfl) (by kernel_rfl) (by kernel_rfl) (by kernel_rfl) (fun _ _ _ h => h) (Or.inl ⟨by rfl, ?_⟩) (holds1 (fun _ => (show wr.drew.cell? ⟨tb, toff + i, none⟩ = some (.int .i64 a) ∧ wr.drew.cell? ⟨bb, boff + i, none⟩ = some (.int .u8 z) ∧ wr.drew.cell? ⟨gb, m, none⟩ = some (.int .u8 x) from ⟨hct, hcb, cx⟩))) ?_
            rotate_left
            · (intro W; go_simp; try with_reducible rfl)
            try simp only [Act.put, List.setIfInBounds_toArray, List.set_cons_zero, List.set_cons_succ]
            refine wpAnyT_pure (i := 6) (oi := { dst := some 54, op := Op.call { callee := Callee.builtin Builtin.len, args := #[Operand.tmp 53], argTypes := #[35] }, type := 3, pos := "law.go:133", after := #[{ on := 5, ground := Ground.data }], guard := none }) (v := ?_) rfl (by kernel_rfl) (by kernel_rfl) (by kernel_rfl) (by kernel_rfl) (fun _ _ _ h => h) (Or.inl ⟨by rfl, ?_⟩) (holds1 (fun _ => (show wr.drew.cell? ⟨tb, toff + i, none⟩ = some (.int .i64 a) ∧ wr.drew.cell? ⟨bb, boff + i, none⟩ = some (.int .u8 z) ∧ wr.drew.cell? ⟨gb, m, none⟩ = some (.int .u8 x) from ⟨hct, hcb, cx⟩))) ?_
            rotate_left
            · (intro W; go_simp; try with_reducible rfl)
            try simp only [Act.put, List.setIfInBounds_toArray, List.set_cons_zero, List.set_cons_succ]
            refine wpAnyT_call 6 16 (i := 7) (oi := { dst := some 55, op := Op.call { callee := Callee.value (Operand.func 15), args := #[Operand.tmp 52, Operand.tmp 54], argTypes := #[3, 3] }, type := 3, pos := "law.go:133", after := #[{ on := 4, ground := Ground.data }, { on := 6, ground := Ground.data }], guard := none }) (v := ?_) (g := 15) (args := ?_) (.head _) rfl (by kernel_rfl) (by kernel_rfl) (by kernel_rfl) (by kernel_rfl) (by kernel_rfl) (by kernel_rfl) (by rfl) (fun _ _ _ h => h) (by rfl) ?_ ?_ (holds1 (fun _ => (show wr.drew.cell? ⟨tb, toff + i, none⟩ = some (.int .i64 a) ∧ wr.drew.cell? ⟨bb, boff + i, none⟩ = some (.int .u8 z) ∧ wr.drew.cell? ⟨gb, m, none⟩ = some (.int .u8 x) from ⟨hct, hcb, cx⟩))) ?_
            rotate_left 2
            · (intro W hSw; (try dsimp only at hSw); go_simp; with_reducible rfl)
            · (intro W hSw; (try dsimp only at hSw); exact (HW W).out)
            try simp only [Act.put, List.setIfInBounds_toArray, List.set_cons_zero, List.set_cons_succ]
            refine wpAnyT_pure (i := 8) (oi := { dst := some 56, op := Op.indexAddr 35 (Operand.tmp 48) (Operand.tmp 55), type := 0, pos := "law.go:133", after := #[{ on := 0, ground := Ground.data }, { on := 7, ground := Ground.data }], guard := none }) (v := ?_) rfl (by kernel_rfl) (by kernel_rfl) (by kernel_rfl) (by kernel_rfl) (fun _ _ _ h => h) (Or.inl ⟨by rfl, ?_⟩) (holds1 (fun _ => (show wr.drew.cell? ⟨tb, toff + i, none⟩ = some (.int .i64 a) ∧ wr.drew.cell? ⟨bb, boff + i, none⟩ = some (.int .u8 z) ∧ wr.drew.cell? ⟨gb, m, none⟩ = some (.int .u8 x) from ⟨hct, hcb, cx⟩))) ?_
            rotate_left
            · (intro W; go_simp; try with_reducible rfl)
            try simp only [Act.put, List.setIfInBounds_toArray, List.set_cons_zero, List.set_cons_succ]
            refine wpAnyT_take 6 16 (i := 9) (oi := { dst := some 57, op := Op.load 5 (Operand.tmp 56), type := 5, pos := "law.go:133", after := #[{ on := 8, ground := Ground.data }], guard := none }) (v := ?_) (.head _) rfl (by kernel_rfl) (by kernel_rfl) (by kernel_rfl) (by kernel_rfl) (by kernel_rfl) (by kernel_rfl) (by rfl) (fun _ _ _ h => h) (by rfl) ?_ (holds1 (fun _ => (show wr.drew.cell? ⟨tb, toff + i, none⟩ = some (.int .i64 a) ∧ wr.drew.cell? ⟨bb, boff + i, none⟩ = some (.int .u8 z) ∧ wr.drew.cell? ⟨gb, m, none⟩ = some (.int .u8 x) from ⟨hct, hcb, cx⟩))) ?_
            rotate_left
            · (intro W hSw; (try dsimp only at hSw); go_simp; try with_reducible rfl)
            try simp only [Act.put, List.setIfInBounds_toArray, List.set_cons_zero, List.set_cons_succ]
            refine wpAnyT_pure (i := 10) (oi := { dst := some 58, op := Op.move (Operand.tmp 2), type := 35, pos := "law.go:133", after := #[], guard := none }) (v := ?_) rfl (by kernel_rfl) (by kernel_rfl) (by kernel_rfl) (by kernel_rfl) (fun _ _ _ h => h) (Or.inl ⟨by rfl, ?_⟩) (holds1 (fun _ => (show wr.drew.cell? ⟨tb, toff + i, none⟩ = some (.int .i64 a) ∧ wr.drew.cell? ⟨bb, boff + i, none⟩ = some (.int .u8 z) ∧ wr.drew.cell? ⟨gb, m, none⟩ = some (.int .u8 x) from ⟨hct, hcb, cx⟩))) ?_
            rotate_left
            · (intro W; go_simp; try with_reducible rfl)
            try simp only [Act.put, List.setIfInBounds_toArray, List.set_cons_zero, List.set_cons_succ]
            refine wpAnyT_pure (i := 11) (oi := { dst := some 59, op := Op.move (Operand.tmp 12), type := 3, pos := "law.go:133", after := #[], guard := none }) (v := ?_) rfl (by kernel_rfl) (by kernel_rfl) (by kernel_rfl) (by kernel_rfl) (fun _ _ _ h => h) (Or.inl ⟨by rfl, ?_⟩) (holds1 (fun _ => (show wr.drew.cell? ⟨tb, toff + i, none⟩ = some (.int .i64 a) ∧ wr.drew.cell? ⟨bb, boff + i, none⟩ = some (.int .u8 z) ∧ wr.drew.cell? ⟨gb, m, none⟩ = some (.int .u8 x) from ⟨hct, hcb, cx⟩))) ?_
            rotate_left
            · (intro W; go_simp; try with_reducible rfl)
            try simp only [Act.put, List.setIfInBounds_toArray, List.set_cons_zero, List.set_cons_succ]
            refine wpAnyT_pure (i := 12) (oi := { dst := some 60, op := Op.indexAddr 35 (Operand.tmp 58) (Operand.tmp 59), type := 0, pos := "law.go:133", after := #[{ on := 10, ground := Ground.data }, { on := 11, ground := Ground.data }], guard := none }) (v := ?_) rfl (by kernel_rfl) (by kernel_rfl) (by kernel_rfl) (by kernel_rfl) (fun _ _ _ h => h) (Or.inl ⟨by rfl, ?_⟩) (holds1 (fun _ => (show wr.drew.cell? ⟨tb, toff + i, none⟩ = some (.int .i64 a) ∧ wr.drew.cell? ⟨bb, boff + i, none⟩ = some (.int .u8 z) ∧ wr.drew.cell? ⟨gb, m, none⟩ = some (.int .u8 x) from ⟨hct, hcb, cx⟩))) ?_
            rotate_left
            · (intro W; go_simp; try with_reducible rfl)
            try simp only [Act.put, List.setIfInBounds_toArray, List.set_cons_zero, List.set_cons_succ]
            refine wpAnyT_take 6 16 (i := 13) (oi := { dst := some 61, op := Op.load 5 (Operand.tmp 60), type := 5, pos := "law.go:133", after := #[{ on := 12, ground := Ground.data }], guard := none }) (v := ?_) (.head _) rfl (by kernel_rfl) (by kernel_rfl) (by kernel_rfl) (by kernel_rfl) (by kernel_rfl) (by kernel_rfl) (by rfl) (fun _ _ _ h => h) (by rfl) ?_ (holds1 (fun _ => (show wr.drew.cell? ⟨tb, toff + i, none⟩ = some (.int .i64 a) ∧ wr.drew.cell? ⟨bb, boff + i, none⟩ = some (.int .u8 z) ∧ wr.drew.cell? ⟨gb, m, none⟩ = some (.int .u8 x) from ⟨hct, hcb, cx⟩))) ?_
            rotate_left
            · (intro W hSw; (try dsimp only at hSw); go_simp; try with_reducible rfl)
            try simp only [Act.put, List.setIfInBounds_toArray, List.set_cons_zero, List.set_cons_succ]
            refine wpAnyT_pure (i := 14) (oi := { dst := some 62, op := Op.binOp BinOp.add 5 (Operand.tmp 57) (Operand.tmp 61) 5, type := 5, pos := "law.go:133", after := #[{ on := 9, ground := Ground.data }, { on := 13, ground := Ground.data }], guard := none }) (v := ?_) rfl (by kernel_rfl) (by kernel_rfl) (by kernel_rfl) (by kernel_rfl) (fun _ _ _ h => h) (Or.inl ⟨by rfl, ?_⟩) (holds1 (fun _ => (show wr.drew.cell? ⟨tb, toff + i, none⟩ = some (.int .i64 a) ∧ wr.drew.cell? ⟨bb, boff + i, none⟩ = some (.int .u8 z) ∧ wr.drew.cell? ⟨gb, m, none⟩ = some (.int .u8 x) from ⟨hct, hcb, cx⟩))) ?_
            rotate_left
            · (intro W; go_simp; try with_reducible rfl)
            try simp only [Act.put, List.setIfInBounds_toArray, List.set_cons_zero, List.set_cons_succ]
            refine wpAnyT_pure (i := 15) (oi := { dst := some 63, op := Op.indexAddr 35 (Operand.tmp 48) (Operand.tmp 55), type := 0, pos := "law.go:133", after := #[{ on := 0, ground := Ground.data }, { on := 7, ground := Ground.data }, { on := 0, ground := Ground.phase }, { on := 1, ground := Ground.phase }, { on := 2, ground := Ground.phase }, { on := 3, ground := Ground.phase }, { on := 4, ground := Ground.phase }, { on := 5, ground := Ground.phase }, { on := 6, ground := Ground.phase }, { on := 7, ground := Ground.phase }, { on := 8, ground := Ground.phase }, { on := 9, ground := Ground.phase }, { on := 10, ground := Ground.phase }, { on := 11, ground := Ground.phase }, { on := 12, ground := Ground.phase }, { on := 13, ground := Ground.phase }, { on := 14, ground := Ground.phase }], guard := none }) (v := ?_) rfl (by kernel_rfl) (by kernel_rfl) (by kernel_rfl) (by kernel_rfl) (fun _ _ _ h => h) (Or.inl ⟨by rfl, ?_⟩) (holds1 (fun _ => (show wr.drew.cell? ⟨tb, toff + i, none⟩ = some (.int .i64 a) ∧ wr.drew.cell? ⟨bb, boff + i, none⟩ = some (.int .u8 z) ∧ wr.drew.cell? ⟨gb, m, none⟩ = some (.int .u8 x) from ⟨hct, hcb, cx⟩))) ?_
            rotate_left
            · (intro W; go_simp; try with_reducible rfl)
            try simp only [Act.put, List.setIfInBounds_toArray, List.set_cons_zero, List.set_cons_succ]
            refine wpAnyT_ready (rs := [16]) (by kernel_rfl) (by simp) (AllT.cons (o := { dst := none, op := Op.store 5 (Operand.tmp 63) (Operand.tmp 62), type := 0, pos := "law.go:133", after := #[{ on := 15, ground := Ground.data }, { on := 14, ground := Ground.data }, { on := 7, ground := Ground.chain }, { on := 0, ground := Ground.phase }, { on := 1, ground := Ground.phase }, { on := 2, ground := Ground.phase }, { on := 3, ground := Ground.phase }, { on := 4, ground := Ground.phase }, { on := 5, ground := Ground.phase }, { on := 6, ground := Ground.phase }, { on := 7, ground := Ground.phase }, { on := 8, ground := Ground.phase }, { on := 9, ground := Ground.phase }, { on := 10, ground := Ground.phase }, { on := 11, ground := Ground.phase }, { on := 12, ground := Ground.phase }, { on := 13, ground := Ground.phase }, { on := 14, ground := Ground.phase }], guard := none }) rfl (fun K hK => ?_) AllT.nil)
            go_simp
            obtain ⟨U, hU⟩ : ∃ Z, (wr.setCell ⟨gb, m, none⟩ (.int .u8 y)).drew = Z := ⟨_, rfl⟩
            have OU : Hid (U.ownsRow w4.heap.size 5 1 (.slice (some ⟨gb, 0, none⟩) N cp) N (bs (X.set m y))) := by
              subst hU
              have := (HO.out.stored m (.int .u8 y)).1
              rw [show (bs X).set m (.int .u8 y) = bs (X.set m y) by simp [bs, List.map_set]] at this
              exact this
            have GU : Hid (w.grownBy U none) := by subst hU; exact only_drew (only_set HG.out (.inr HGB.out) _)
            rw [hU]
            clear hU
            refine hK.out _ _ (holds1 (late_no (by kernel_rfl))) ?_
            clear hK K
            try simp only [Act.put, List.setIfInBounds_toArray, List.set_cons_zero, List.set_cons_succ]
            refine wpAnyT_done (by kernel_rfl) ?_ _
            go_wp2_with fail
            go_roundw
            case rel => exact ⟨i + 1, X.set m y, by omega, by go_num, ⟨by rw [List.length_set]; exact HX.out.1, bytes_set HX.out.2 m y HY.out.1 HY.out.2⟩, OU, GU⟩
            case measure => simp [intOf]; omega
          · have HLA := HLN.out
            go_wp2_with fail
            go_meet
            exact ⟨i, X, rfl, HX, HO, HG⟩
        · have HLA := HLN.out
          go_wp2_with fail
          go_meet
          exact ⟨i, X, rfl, HX, HO, HG⟩
      · have HLA := HLN.out
        go_wp2_with fail
        go_meet
        exact ⟨i, X, rfl, HX, HO, HG⟩
  case rest =>
    clear HO5 HG5
    obtain ⟨i, X, rfl, HX, HO, HG⟩ := hcut
    have HXR : Hid (Bw wc (some ⟨gb, 0, none⟩) cp X) := ⟨by
      have h := HO.out
      have h2 := Has.own h
      exact h2, by have := own_cap HO.out; rw [HX.out.1]; exact this, HX.out.2, by rw [HX.out.1]; have := HX0.out.2.1; omega⟩
    rw [← HX.out.1]
    clear HO HT HB
    go_upto_if 66 with fail
    go_cut [11] (fun s11 wx => ∃ (AB : Option Addr) (cB : Nat) (Y : List Int), s11 = .slice AB Y.length cB ∧ Hid (Bw wx AB cB Y) ∧ Hid (w.grownBy wx none) ∧ Hid (Y.length ≤ 3000000))
    case first =>
      by_cases he : Int.tmod cut 2 = 1
      · have he2 : (Int.tmod cut 2 == 1) = true := by rw [beq_iff_eq]; exact he
        obtain ⟨q, hq⟩ : ∃ q, Int.tdiv cut 2 = q := ⟨_, rfl⟩
        have hqb : I64 q := hq ▸ tdiv_i64 HCU.out
        have m1 := Int.emod_nonneg q (show ((X.length : Int) + 1) ≠ 0 by omega)
        have m2 := Int.emod_lt_of_pos q (show (0 : Int) < (X.length : Int) + 1 by omega)
        obtain ⟨m, hm⟩ : ∃ m : Nat, q % ((X.length : Int) + 1) = m := ⟨(q % ((X.length : Int) + 1)).toNat, by omega⟩
        have hXl : X.length ≤ 3000000 := by rw [HX.out.1]; exact HX0.out.2.1
        have HW : ∀ W, Hid (Calls Try.prog 15 #[.int .i64 q, .int .i64 ((X.length : Int) + 1)] W fun e w' => e = .returned (.int .i64 m) ∧ W = w') := fun W => by rw [← hm]; exact within_any q _ hqb.1 hqb.2 (by omega) (by omega) W
        rw [hm] at m1 m2
        have hmX : m ≤ X.length := by omega
        have hcap := HXR.out.cap
        have hwr : IntKind.i64.wrap ((X.length : Int) + 1) = (X.length : Int) + 1 := by rw [IntKind.wrap_i64]; omega
        have hwq : RowKit.wrap64 q = q := by
          have := hqb
          unfold I64 at this
          unfold RowKit.wrap64
          omega
        clear hm hqb
        go_wp2_with (go_at_call 15; refine (HW _).out.mono ?_; rintro _ wd ⟨rfl, rfl⟩)
        have hl : (X.take m).length = m := by rw [List.length_take]; omega
        have HB' : Hid (Bw wc (some ⟨gb, 0, none⟩) cp (X.take m)) := ⟨by
          have := HXR.out.has.front m
          rwa [show (bs X).take m = bs (X.take m) by simp [bs, List.map_take]] at this, by omega, bytes_take HXR.out.byt m, by omega⟩
        go_meet
        exact ⟨some ⟨gb, 0, none⟩, cp, X.take m, by rw [hl], HB', HG, by unfold Hid; omega⟩
      · have he2 : (Int.tmod cut 2 == 1) = false := by rw [beq_eq_false_iff_ne]; exact he
        clear he
        go_wp2_with fail
        go_meet
        exact ⟨some ⟨gb, 0, none⟩, cp, X, rfl, HXR, HG, by unfold Hid; rw [HX.out.1]; exact HX0.out.2.1⟩
    case rest =>
      clear HX HXR HG
      obtain ⟨AB, cB, Y, rfl, HY, HG, HYL⟩ := hcut
      have lit : Hid ((wc.alloc (.cells #[] 5)).ownsRow wc.heap.size 5 1 (.slice (some ⟨wc.heap.size, 0, none⟩) 0 0) [].length []) := own_lit0 wc
      have sr1 : Hid (Src Try.prog 1 35 (.slice AB Y.length cB) (bs Y).length (bs Y) (wc.alloc (.cells #[] 5))) := HY.out.has.srcAt (World.grownBy_alloc wc _ none) cB
      have bz1 : wc.heap.size ≤ (wc.alloc (.cells #[] 5)).heap.size := (World.grownBy_alloc _ _ none).size
      have hl1 : (bs Y).length ≤ 3000000 := by rw [bs_len]; exact HYL.out
      have hr1 : (bs raw).length ≤ 300 := by rw [bs_len]; exact HR.out.2.2.2
      go_upto_block 2 with (first
       | (at_builtin; (refine app_bytes rfl _ _ 35 rfl wc.heap.size (.slice A1 (bs Y).length c1) (bs Y) rfl o1.out (.slice R raw.length cr) (bs raw) rfl sr2.out (by omega) gz1 ?_; intro v2 wb g2; have o2 := Lib.hid g2.own; have gw2 := Lib.hid (only_step gw1.out g2.only (fun q hq => .inr (o1.out.lt q hq).1)); clear g2; obtain ⟨A2, c2, rfl⟩ := own_slice o2.out))
       | (at_builtin; go_must (refine app_bytes rfl _ _ 35 rfl wc.heap.size (.slice (some ⟨wc.heap.size, 0, none⟩) 0 0) [] rfl lit.out (.slice AB Y.length cB) (bs Y) rfl sr1.out (by simp only [List.length_nil]; omega) bz1 ?_; intro v1 wa g1; rw [List.nil_append] at g1; have o1 := Lib.hid g1.own; have gw1 := Lib.hid (only_step (only_alloc (only_refl wc none) (.cells #[] 5)) g1.only (fun q hq => .inr (lit.out.lt q hq).1)); clear g1; obtain ⟨A1, c1, rfl⟩ := own_slice o1.out; have gz1 := gw1.out.size; have sr2 : Hid (Src Try.prog 1 35 (.slice R raw.length cr) (bs raw).length (bs raw) wa) := HR.out.1.srcAt (only_step HG.out gw1.out (fun _ h => .inl h)) cr)))
      have hl2 : (bs Y ++ bs raw).length = (Y ++ raw).length := by rw [← bs_append, bs_len]
      obtain ⟨w6, hw6⟩ : ∃ Z, wb.alloc (.cells #[.slice AB Y.length cB, .slice A2 (Y ++ raw).length c2, .slice R raw.length cr] 35) = Z := ⟨_, rfl⟩
      have g6 : wb.grownBy w6 none := by subst hw6; exact World.grownBy_alloc wb _ none
      have Q6 : w6.heap[wb.heap.size]? = some (.cells #[.slice AB Y.length cB, .slice A2 (Y ++ raw).length c2, .slice R raw.length cr] 35 (0, 0)) := by subst hw6; exact heap_alloc_new wb _
      have hw6' : wb.alloc (.cells #[.slice AB Y.length cB, .slice A2 ((bs Y).length + (bs raw).length) c2, .slice R raw.length cr] 35) = w6 := by rw [← hw6, ← hl2, List.length_append]
      first | rw [hw6'] | skip
      clear hw6 hw6'
      have G6 : Hid (w.grownBy w6 none) := only_step (only_step HG.out gw2.out (fun _ h => .inl h)) g6 (fun _ h => .inl h)
      have RW : Hid (∀ j : Nat, j < 3 → ∃ (Ak : Option Addr) (ck : Nat) (Lk : List Int), w6.cell? ⟨wb.heap.size, j, none⟩ = some (.slice Ak Lk.length ck) ∧ Bw w6 Ak ck Lk) := fun j hj => by
        rcases (show j = 0 ∨ j = 1 ∨ j = 2 by omega) with rfl | rfl | rfl
        · exact ⟨AB, cB, Y, by simp [World.cell?, Q6], (HY.out.up gw2.out).up g6⟩
        · refine ⟨A2, c2, Y ++ raw, by simp [World.cell?, Q6], ?_, ?_, bytes_app HY.out.byt HR.out.2.1, by rw [List.length_append]; have := HYL.out; have := HR.out.2.2.2; omega⟩
          · have h := (Has.own o2.out).up g6
            rwa [← bs_append] at h
          · have := own_cap o2.out
            rw [hl2] at this
            exact this
        · exact ⟨R, cr, raw, by simp [World.cell?, Q6], HR.out.1.up G6.out, HR.out.2.2.1, HR.out.2.1, by have := HR.out.2.2.2; omega⟩
      have hzb := (Array.getElem?_eq_some_iff.1 Q6).1
      clear Q6 g6 gw2 o2 sr1 lit bz1 hl1 hr1 HY HYL HG hl2 HR
      go_wp2_with fail
      go_loopw [14] (fun si wr => ∃ k : Nat, k ≤ 3 ∧ si = .int .i64 k ∧ Hid (w6.grownBy wr none))
        (fun si _ => 3 - (intOf si).toNat)
      case atStart => exact ⟨0, by omega, rfl, only_refl _ _⟩
      case round =>
        obtain ⟨k, hk, rfl, HG⟩ := hrel
        by_cases hlt : k < 3
        · obtain ⟨Ak, ck, Lk, hck, hBk⟩ := RW.out k hlt
          have hcell : ∀ W, wr.grownBy W none → Hid (W.cell? ⟨wb.heap.size, k, none⟩ = some (.slice Ak Lk.length ck)) := fun W h => (World.cell?_of_block ((only_step HG.out h (fun _ e => .inl e)).block wb.heap.size hzb (by simp))).trans hck
          have HBK : Hid (Bw wr Ak ck Lk) := hBk.up HG.out
          clear hck hBk
          have ck0 := (hcell wr (only_refl _ _)).out
          have cka := fun o => (hcell (wr.alloc o) (World.grownBy_alloc wr o none)).out
          have lit : Hid ((wr.alloc (.cells #[] 5)).ownsRow wr.heap.size 5 1 (.slice (some ⟨wr.heap.size, 0, none⟩) 0 0) [].length []) := own_lit0 wr
          have sr1 : Hid (Src Try.prog 1 35 (.slice Ak Lk.length ck) (bs Lk).length (bs Lk) (wr.alloc (.cells #[] 5))) := HBK.out.has.srcAt (World.grownBy_alloc wr _ none) ck
          have bz1 : wr.heap.size ≤ (wr.alloc (.cells #[] 5)).heap.size := (World.grownBy_alloc _ _ none).size
          have hl1 : (bs Lk).length ≤ 1073741824 := by rw [bs_len]; exact HBK.out.len
          have u1 : (k : Int) < 3 := by omega
          have u0 : (0 : Int) ≤ (k : Int) := by omega
          go_wp2_with (at_builtin; go_must (refine app_bytes rfl _ _ 35 rfl wr.heap.size (.slice (some ⟨wr.heap.size, 0, none⟩) 0 0) [] rfl lit.out (.slice Ak Lk.length ck) (bs Lk) rfl sr1.out (by simp only [List.length_nil]; omega) bz1 ?_; intro v1 wa g1; rw [List.nil_append] at g1; have o1 := Lib.hid g1.own; have gw1 := Lib.hid (only_step (only_alloc (only_refl wr none) (.cells #[] 5)) g1.only (fun q hq => .inr (lit.out.lt q hq).1)); clear g1; obtain ⟨A1, c1, rfl⟩ := own_slice o1.out))
          rw [show (bs Lk).length = Lk.length from bs_len _]
          clear ck0 cka lit sr1 bz1 hl1
          obtain ⟨vo, hvo⟩ : ∃ x, readV (opV (Lk, 0)) (endE (Lk, 0)) = x := ⟨_, rfl⟩
          obtain ⟨eo, heo⟩ : ∃ x, readE (opV (Lk, 0)) (endE (Lk, 0)) = x := ⟨_, rfl⟩
          have HVL : Hid (vo.l.length ≤ 8) := by rw [← hvo]; exact readV_few _ _
          have hXL : Lk.length ≤ 1099511627776 := by have := HBK.out.len; omega
          have HVE := Lib.hid (And.intro hvo heo)
          have h1 : Has wa wa.heap.size A1 (bs Lk) := Has.own o1.out
          refine (pparse_any A1 c1 Lk wa h1 hXL HBK.out.byt).mono ?_
          rintro e4 p1 ⟨hp, gp⟩
          unfold ParseP OpV.agg at hp
          rw [hvo, heo] at hp
          obtain ⟨AO, cO, rfl, bO, WO⟩ := hp
          have HWO := Lib.hid WO
          have HGP := Lib.hid (only_step gw1.out gp (fun _ h => .inl h))
          clear gp WO h1 o1 gw1
          skip
          have ckp := fun o => (hcell (p1.alloc o) (only_step HGP.out (World.grownBy_alloc p1 o none) (fun _ h => .inl h))).out
          go_wp2_with fail
          obtain ⟨p2, hp2⟩ : ∃ Z, p1.alloc (.cells #[.int .i64 vo.d, .int .i64 vo.e, .int .i64 vo.s, .int .i64 vo.coll, .int .i64 vo.ver, .int .i64 vo.kind, .string vo.key, .string vo.text, .int .i64 vo.n, .int .i64 vo.time, .slice AO vo.l.length cO] 26) = Z := ⟨_, rfl⟩
          have OO : Hid (OpB p2 p1.heap.size vo.d vo.e vo.s vo.coll vo.ver vo.kind vo.key vo.text vo.n vo.time (.slice AO vo.l.length cO)) := by subst hp2; exact heap_alloc_new p1 _
          have gp2 : p1.grownBy p2 none := by subst hp2; exact World.grownBy_alloc p1 _ none
          rw [hp2]
          clear hp2 ckp
          have HWO2 := Lib.hid (own_off HWO.out gp2)
          have HGP2 := Lib.hid (only_step HGP.out gp2 (fun _ h => .inl h))
          refine (rparse_any Ak ck Lk p2 (HBK.out.has.up HGP2.out) HBK.out.cap hXL HBK.out.byt).mono ?_
          rintro e5 p3 ⟨hp, gp3⟩
          unfold ParseP OpV.agg at hp
          rw [hvo, heo] at hp
          obtain ⟨AP, cP, rfl, bP, WP⟩ := hp
          have HWP := Lib.hid WP
          have HWO3 := Lib.hid (own_off HWO2.out gp3)
          have HGP3 := Lib.hid (only_step HGP2.out gp3 (fun _ h => .inl h))
          have OO3 := Lib.hid (OO.out.other gp3 (by simp))
          clear gp2 gp3 WP HWO HWO2 HGP HGP2 OO hXL hvo heo
          go_upto_region 18 with fail
          obtain ⟨p4, hp4⟩ : ∃ Z, p3.alloc (.cells #[.int .i64 vo.d, .int .i64 vo.e, .int .i64 vo.s, .int .i64 vo.coll, .int .i64 vo.ver, .int .i64 vo.kind, .string vo.key, .string vo.text, .int .i64 vo.n, .int .i64 vo.time, .slice AP vo.l.length cP] 26) = Z := ⟨_, rfl⟩
          have OP : OpB p4 p3.heap.size vo.d vo.e vo.s vo.coll vo.ver vo.kind vo.key vo.text vo.n vo.time (.slice AP vo.l.length cP) := by subst hp4; exact heap_alloc_new p3 _
          have gp4 : p3.grownBy p4 none := by subst hp4; exact World.grownBy_alloc p3 _ none
          rw [hp4]
          clear hp4
          have WO4 := Lib.hid (own_off HWO3.out gp4)
          have WP4 := Lib.hid (own_off HWP.out gp4)
          have OO4 := Lib.hid (OO3.out.other gp4 (by simp))
          have G4 := Lib.hid (only_step HGP3.out gp4 (fun _ h => .inl h))
          have OP4 := Lib.hid OP
          clear OP gp4 HWO3 HWP OO3 HGP3
          have SO : ∀ W, p4.grownBy W none → Hid (W.cell? ⟨p1.heap.size, 0, none⟩ = some (.int .i64 vo.d) ∧ W.cell? ⟨p1.heap.size, 1, none⟩ = some (.int .i64 vo.e) ∧ W.cell? ⟨p1.heap.size, 2, none⟩ = some (.int .i64 vo.s) ∧ W.cell? ⟨p1.heap.size, 3, none⟩ = some (.int .i64 vo.coll) ∧ W.cell? ⟨p1.heap.size, 4, none⟩ = some (.int .i64 vo.ver) ∧ W.cell? ⟨p1.heap.size, 5, none⟩ = some (.int .i64 vo.kind) ∧ W.cell? ⟨p1.heap.size, 6, none⟩ = some (.string vo.key) ∧ W.cell? ⟨p1.heap.size, 7, none⟩ = some (.string vo.text) ∧ W.cell? ⟨p1.heap.size, 8, none⟩ = some (.int .i64 vo.n) ∧ W.cell? ⟨p1.heap.size, 9, none⟩ = some (.int .i64 vo.time) ∧ W.cell? ⟨p1.heap.size, 10, none⟩ = some (.slice AO vo.l.length cO)) := fun W h => (OO4.out.other h (by simp)).cells
          have SP : ∀ W, p4.grownBy W none → Hid (W.cell? ⟨p3.heap.size, 0, none⟩ = some (.int .i64 vo.d) ∧ W.cell? ⟨p3.heap.size, 1, none⟩ = some (.int .i64 vo.e) ∧ W.cell? ⟨p3.heap.size, 2, none⟩ = some (.int .i64 vo.s) ∧ W.cell? ⟨p3.heap.size, 3, none⟩ = some (.int .i64 vo.coll) ∧ W.cell? ⟨p3.heap.size, 4, none⟩ = some (.int .i64 vo.ver) ∧ W.cell? ⟨p3.heap.size, 5, none⟩ = some (.int .i64 vo.kind) ∧ W.cell? ⟨p3.heap.size, 6, none⟩ = some (.string vo.key) ∧ W.cell? ⟨p3.heap.size, 7, none⟩ = some (.string vo.text) ∧ W.cell? ⟨p3.heap.size, 8, none⟩ = some (.int .i64 vo.n) ∧ W.cell? ⟨p3.heap.size, 9, none⟩ = some (.int .i64 vo.time) ∧ W.cell? ⟨p3.heap.size, 10, none⟩ = some (.slice AP vo.l.length cP)) := fun W h => (OP4.out.other h (by simp)).cells
          have CS : ∀ W, p4.grownBy W none → Hid (Calls Try.prog 19 #[.agg #[.int .i64 vo.d, .int .i64 vo.e, .int .i64 vo.s, .int .i64 vo.coll, .int .i64 vo.ver, .int .i64 vo.kind, .string vo.key, .string vo.text, .int .i64 vo.n, .int .i64 vo.time, .slice AO vo.l.length cO], .agg #[.int .i64 vo.d, .int .i64 vo.e, .int .i64 vo.s, .int .i64 vo.coll, .int .i64 vo.ver, .int .i64 vo.kind, .string vo.key, .string vo.text, .int .i64 vo.n, .int .i64 vo.time, .slice AP vo.l.length cP]] W fun e' w' => e' = .returned (.bool true) ∧ W.grownBy w' none) := fun W h => rsame_any vo.d vo.e vo.s vo.coll vo.ver vo.kind vo.n vo.time vo.key vo.text AO cO vo.l vo.d vo.e vo.s vo.coll vo.ver vo.kind vo.n vo.time vo.key vo.text AP cP vo.l true (by simp) W (Has.own_w (own_off WO4.out h)) (Has.own_w (own_off WP4.out h)) (by have := HVL.out; omega)
          have d0 : p4.grownBy p4.drew none := only_drew (only_refl _ _)
          have SO0 := SO _ d0
          have SP0 := SP _ d0
          by_cases he : eo = 0
          · subst he
            obtain ⟨hv1, hv2, hv3⟩ := read_back Lk HBK.out.byt HVE.out.2
            have hvv : vo = opV (Lk, 0) := by rw [← HVE.out.1, hv1]
            have HOK := opV_ok (Lk, 0) hv3
            rw [← hvv] at HOK hv2
            have CBY : ∀ W, p4.grownBy W none → Hid (Calls Try.prog 16 #[.slice none 0 0, .agg #[.int .i64 vo.d, .int .i64 vo.e, .int .i64 vo.s, .int .i64 vo.coll, .int .i64 vo.ver, .int .i64 vo.kind, .string vo.key, .string vo.text, .int .i64 vo.n, .int .i64 vo.time, .slice AO vo.l.length cO]] W (Out W W.heap.size (.slice none 0 0) (bs Lk))) := fun W h => by
              have := bytes_any none 0 [] vo.d vo.e vo.s vo.coll vo.ver vo.kind vo.n vo.time vo.key vo.text AO cO vo.l W Has.nil HOK.dot HOK.nums HOK.n HOK.key HOK.text (Has.own_w (own_off WO4.out h)) HOK.dots HOK.few (by simp)
              rw [List.nil_append, show opB vo.d vo.e vo.s vo.coll vo.ver vo.kind vo.n vo.time vo.key vo.text vo.l = Lk from hv2] at this
              exact this
            obtain ⟨sO, hsO⟩ : ∃ x, strOfNums Lk = x := ⟨_, rfl⟩
            have HSO := Lib.hid hsO
            clear hv1 hv2 hv3 hvv HOK hsO
            have SR : ∀ W, p4.grownBy W none → Hid (W.cell? ⟨wb.heap.size, k, none⟩ = some (.slice Ak Lk.length ck) ∧ (convert 35 9 (.slice Ak Lk.length ck)).run Try.prog W = .ok (.string sO) W) := fun W h => ⟨(hcell W (only_step G4.out h (fun _ h => .inl h))).out, by rw [← HSO.out]; exact conv_string (HBK.out.has.up (only_step G4.out h (fun _ h => .inl h))) ck⟩
            have SR0 := SR _ d0
            refine wp_region_late [(14, fun W => W.cell? ⟨p1.heap.size, 0, none⟩ = some (.int .i64 vo.d) ∧ W.cell? ⟨p1.heap.size, 1, none⟩ = some (.int .i64 vo.e) ∧ W.cell? ⟨p1.heap.size, 2, none⟩ = some (.int .i64 vo.s) ∧ W.cell? ⟨p1.heap.size, 3, none⟩ = some (.int .i64 vo.coll) ∧ W.cell? ⟨p1.heap.size, 4, none⟩ = some (.int .i64 vo.ver) ∧ W.cell? ⟨p1.heap.size, 5, none⟩ = some (.int .i64 vo.kind) ∧ W.cell? ⟨p1.heap.size, 6, none⟩ = some (.string vo.key) ∧ W.cell? ⟨p1.heap.size, 7, none⟩ = some (.string vo.text) ∧ W.cell? ⟨p1.heap.size, 8, none⟩ = some (.int .i64 vo.n) ∧ W.cell? ⟨p1.heap.size, 9, none⟩ = some (.int .i64 vo.time) ∧ W.cell? ⟨p1.heap.size, 10, none⟩ = some (.slice AO vo.l.length cO)), (6, fun W => W.cell? ⟨p3.heap.size, 0, none⟩ = some (.int .i64 vo.d) ∧ W.cell? ⟨p3.heap.size, 1, none⟩ = some (.int .i64 vo.e) ∧ W.cell? ⟨p3.heap.size, 2, none⟩ = some (.int .i64 vo.s) ∧ W.cell? ⟨p3.heap.size, 3, none⟩ = some (.int .i64 vo.coll) ∧ W.cell? ⟨p3.heap.size, 4, none⟩ = some (.int .i64 vo.ver) ∧ W.cell? ⟨p3.heap.size, 5, none⟩ = some (.int .i64 vo.kind) ∧ W.cell? ⟨p3.heap.size, 6, none⟩ = some (.string vo.key) ∧ W.cell? ⟨p3.heap.size, 7, none⟩ = some (.string vo.text) ∧ W.cell? ⟨p3.heap.size, 8, none⟩ = some (.int .i64 vo.n) ∧ W.cell? ⟨p3.heap.size, 9, none⟩ = some (.int .i64 vo.time) ∧ W.cell? ⟨p3.heap.size, 10, none⟩ = some (.slice AP vo.l.length cP)), (21, fun W => W.cell? ⟨wb.heap.size, k, none⟩ = some (.slice Ak Lk.length ck) ∧ (convert 35 9 (.slice Ak Lk.length ck)).run Try.prog W = .ok (.string sO) W)] (by kernel_rfl) ?_
            refine wpAnyT_pure (i := 0) (oi := { dst := some 105, op := Op.move (Operand.tmp 16), type := 30, pos := "law.go:142", after := #[], guard := none }) (v := ?_) rfl (by kernel_rfl) (by kernel_rfl) (by kernel_rfl) (by kernel_rfl) (fun _ _ _ h => h) (Or.inl ⟨by rfl, ?_⟩) (holds3 (fun _ => SO0.out) (fun _ => SP0.out) (fun _ => SR0.out)) ?_
            rotate_left
            · (intro W; go_simp; try with_reducible rfl)
            try simp only [Act.put, List.setIfInBounds_toArray, List.set_cons_zero, List.set_cons_succ]
            refine wpAnyT_pure (i := 1) (oi := { dst := some 106, op := Op.move (Operand.tmp 18), type := 3, pos := "law.go:142", after := #[], guard := none }) (v := ?_) rfl (by kernel_rfl) (by kernel_rfl) (by kernel_rfl) (by kernel_rfl) (fun _ _ _ h => h) (Or.inl ⟨by rfl, ?_⟩) (holds3 (fun _ => SO0.out) (fun _ => SP0.out) (fun _ => SR0.out)) ?_
            rotate_left
            · (intro W; go_simp; try with_reducible rfl)
            try simp only [Act.put, List.setIfInBounds_toArray, List.set_cons_zero, List.set_cons_succ]
            refine wpAnyT_pure (i := 2) (oi := { dst := some 107, op := Op.binOp BinOp.neq 3 (Operand.tmp 105) (Operand.tmp 106) 3, type := 4, pos := "law.go:142", after := #[{ on := 0, ground := Ground.data }, { on := 1, ground := Ground.data }], guard := none }) (v := ?_) rfl (by kernel_rfl) (by kernel_rfl) (by kernel_rfl) (by kernel_rfl) (fun _ _ _ h => h) (Or.inl ⟨by rfl, ?_⟩) (holds3 (fun _ => SO0.out) (fun _ => SP0.out) (fun _ => SR0.out)) ?_
            rotate_left
            · (intro W; go_simp; try with_reducible rfl)
            try simp only [Act.put, List.setIfInBounds_toArray, List.set_cons_zero, List.set_cons_succ]
            refine wpAnyT_pure (i := 3) (oi := { dst := some 108, op := Op.move (Operand.tmp 107), type := 4, pos := "law.go:142", after := #[{ on := 2, ground := Ground.data }], guard := none }) (v := ?_) rfl (by kernel_rfl) (by kernel_rfl) (by kernel_rfl) (by kernel_rfl) (fun _ _ _ h => h) (Or.inl ⟨by rfl, ?_⟩) (holds3 (fun _ => SO0.out) (fun _ => SP0.out) (fun _ => SR0.out)) ?_
            rotate_left
            · (intro W; go_simp; try with_reducible rfl)
            try simp only [Act.put, List.setIfInBounds_toArray, List.set_cons_zero, List.set_cons_succ]
            refine wpAnyT_take 9 14 (i := 4) (oi := { dst := some 109, op := Op.load 26 (Operand.tmp 15), type := 26, pos := "law.go:142", after := #[{ on := 3, ground := Ground.guard }], guard := some (3, false) }) (v := ?_) (.head _) rfl (by kernel_rfl) (by kernel_rfl) (by kernel_rfl) (by kernel_rfl) (by kernel_rfl) (by kernel_rfl) (by rfl) (fun _ _ _ h => h) (by rfl) ?_ (holds3 (fun _ => SO0.out) (fun _ => SP0.out) (fun _ => SR0.out)) ?_
            rotate_left
            · (intro W hSw; (try dsimp only at hSw); go_simp; try with_reducible rfl)
            try simp only [Act.put, List.setIfInBounds_toArray, List.set_cons_zero, List.set_cons_succ]
            refine wpAnyT_take 9 6 (i := 5) (oi := { dst := some 110, op := Op.load 26 (Operand.tmp 17), type := 26, pos := "law.go:142", after := #[{ on := 3, ground := Ground.guard }], guard := some (3, false) }) (v := ?_) (.tail _ (.head _)) rfl (by kernel_rfl) (by kernel_rfl) (by kernel_rfl) (by kernel_rfl) (by kernel_rfl) (by kernel_rfl) (by rfl) (fun _ _ _ h => h) (by rfl) ?_ (holds3 (fun _ => SO0.out) (fun _ => SP0.out) (fun _ => SR0.out)) ?_
            rotate_left
            · (intro W hSw; (try dsimp only at hSw); go_simp; try with_reducible rfl)
            try simp only [Act.put, List.setIfInBounds_toArray, List.set_cons_zero, List.set_cons_succ]
            refine wpAnyT_ready (rs := [6]) (by kernel_rfl) (by simp) (AllT.cons (o := { dst := some 111, op := Op.call { callee := Callee.value (Operand.func 19), args := #[Operand.tmp 109, Operand.tmp 110], argTypes := #[26, 26] }, type := 4, pos := "law.go:142", after := #[{ on := 4, ground := Ground.data }, { on := 5, ground := Ground.data }, { on := 3, ground := Ground.chain }, { on := 3, ground := Ground.guard }], guard := some (3, false) }) rfl (fun K hK => ?_) AllT.nil)
            go_simp
            go_at_call 19
            refine (CS _ d0).out.mono ?_
            rintro _ s1 ⟨rfl, h1⟩
            have d1 : p4.grownBy s1 none := only_step d0 h1 (fun _ h => .inl h)
            refine hK.out _ _ (holds3 (fun _ => (SO _ d1).out) (late_no (by kernel_rfl)) (fun _ => (SR _ d1).out)) ?_
            clear hK K
            try simp only [Act.put, List.setIfInBounds_toArray, List.set_cons_zero, List.set_cons_succ]
            refine wpAnyT_pure (i := 7) (oi := { dst := some 112, op := Op.unOp UnOp.not 4 (Operand.tmp 111), type := 4, pos := "law.go:142", after := #[{ on := 6, ground := Ground.data }, { on := 3, ground := Ground.guard }], guard := some (3, false) }) (v := ?_) rfl (by kernel_rfl) (by kernel_rfl) (by kernel_rfl) (by kernel_rfl) (fun _ _ _ h => h) (Or.inl ⟨by rfl, ?_⟩) (holds3 (fun _ => (SO _ d1).out) (late_no (by kernel_rfl)) (fun _ => (SR _ d1).out)) ?_
            rotate_left
            · (intro W; go_simp; try with_reducible rfl)
            try simp only [Act.put, List.setIfInBounds_toArray, List.set_cons_zero, List.set_cons_succ]
            refine wpAnyT_pure (i := 8) (oi := { dst := some 113, op := Op.pick (Operand.tmp 108) (Operand.const (Value.bool true)) (Operand.tmp 112), type := 4, pos := "law.go:142", after := #[{ on := 3, ground := Ground.data }, { on := 7, ground := Ground.data }], guard := none }) (v := ?_) rfl (by kernel_rfl) (by kernel_rfl) (by kernel_rfl) (by kernel_rfl) (fun _ _ _ h => h) (Or.inl ⟨by rfl, ?_⟩) (holds3 (fun _ => (SO _ d1).out) (late_no (by kernel_rfl)) (fun _ => (SR _ d1).out)) ?_
            rotate_left
            · (intro W; go_simp; try with_reducible rfl)
            try simp only [Act.put, List.setIfInBounds_toArray, List.set_cons_zero, List.set_cons_succ]
            refine wpAnyT_pure (i := 9) (oi := { dst := some 114, op := Op.move (Operand.tmp 113), type := 4, pos := "law.go:142", after := #[{ on := 8, ground := Ground.data }, { on := 6, ground := Ground.chain }], guard := none }) (v := ?_) rfl (by kernel_rfl) (by kernel_rfl) (by kernel_rfl) (by kernel_rfl) (fun _ _ _ h => h) (Or.inl ⟨by rfl, ?_⟩) (holds3 (fun _ => (SO _ d1).out) (late_no (by kernel_rfl)) (fun _ => (SR _ d1).out)) ?_
            rotate_left
            · (intro W; go_simp; try with_reducible rfl)
            try simp only [Act.put, List.setIfInBounds_toArray, List.set_cons_zero, List.set_cons_succ]
            refine wpAnyT_pure (i := 10) (oi := { dst := some 115, op := Op.move (Operand.tmp 16), type := 30, pos := "law.go:142", after := #[{ on := 9, ground := Ground.guard }], guard := some (9, false) }) (v := ?_) rfl (by kernel_rfl) (by kernel_rfl) (by kernel_rfl) (by kernel_rfl) (fun _ _ _ h => h) (Or.inl ⟨by rfl, ?_⟩) (holds3 (fun _ => (SO _ d1).out) (late_no (by kernel_rfl)) (fun _ => (SR _ d1).out)) ?_
            rotate_left
            · (intro W; go_simp; try with_reducible rfl)
            try simp only [Act.put, List.setIfInBounds_toArray, List.set_cons_zero, List.set_cons_succ]
            refine wpAnyT_pure (i := 11) (oi := { dst := some 116, op := Op.binOp BinOp.eql 30 (Operand.tmp 115) (Operand.const (Value.int IntKind.i64 0)) 30, type := 4, pos := "law.go:142", after := #[{ on := 10, ground := Ground.data }, { on := 9, ground := Ground.guard }], guard := some (9, false) }) (v := ?_) rfl (by kernel_rfl) (by kernel_rfl) (by kernel_rfl) (by kernel_rfl) (fun _ _ _ h => h) (Or.inl ⟨by rfl, ?_⟩) (holds3 (fun _ => (SO _ d1).out) (late_no (by kernel_rfl)) (fun _ => (SR _ d1).out)) ?_
            rotate_left
            · (intro W; go_simp; try with_reducible rfl)
            try simp only [Act.put, List.setIfInBounds_toArray, List.set_cons_zero, List.set_cons_succ]
            refine wpAnyT_pure (i := 12) (oi := { dst := some 117, op := Op.move (Operand.tmp 116), type := 4, pos := "law.go:142", after := #[{ on := 11, ground := Ground.data }, { on := 9, ground := Ground.chain }, { on := 9, ground := Ground.guard }], guard := some (9, false) }) (v := ?_) rfl (by kernel_rfl) (by kernel_rfl) (by kernel_rfl) (by kernel_rfl) (fun _ _ _ h => h) (Or.inl ⟨by rfl, ?_⟩) (holds3 (fun _ => (SO _ d1).out) (late_no (by kernel_rfl)) (fun _ => (SR _ d1).out)) ?_
            rotate_left
            · (intro W; go_simp; try with_reducible rfl)
            try simp only [Act.put, List.setIfInBounds_toArray, List.set_cons_zero, List.set_cons_succ]
            refine wpAnyT_take 9 14 (i := 13) (oi := { dst := some 118, op := Op.load 26 (Operand.tmp 15), type := 26, pos := "law.go:142", after := #[{ on := 12, ground := Ground.guard }], guard := some (12, true) }) (v := ?_) (.head _) rfl (by kernel_rfl) (by kernel_rfl) (by kernel_rfl) (by kernel_rfl) (by kernel_rfl) (by kernel_rfl) (by rfl) (fun _ _ _ h => h) (by rfl) ?_ (holds3 (fun _ => (SO _ d1).out) (late_no (by kernel_rfl)) (fun _ => (SR _ d1).out)) ?_
            rotate_left
            · (intro W hSw; (try dsimp only at hSw); go_simp; try with_reducible rfl)
            try simp only [Act.put, List.setIfInBounds_toArray, List.set_cons_zero, List.set_cons_succ]
            refine wpAnyT_pure (i := 16) (oi := { dst := some 121, op := Op.move (Operand.tmp 13), type := 44, pos := "law.go:142", after := #[{ on := 12, ground := Ground.guard }], guard := some (12, true) }) (v := ?_) rfl (by kernel_rfl) (by kernel_rfl) (by kernel_rfl) (by kernel_rfl) (fun _ _ _ h => h) (Or.inl ⟨by rfl, ?_⟩) (holds3 (fun _ => (SO _ d1).out) (late_no (by kernel_rfl)) (fun _ => (SR _ d1).out)) ?_
            rotate_left
            · (intro W; go_simp; try with_reducible rfl)
            try simp only [Act.put, List.setIfInBounds_toArray, List.set_cons_zero, List.set_cons_succ]
            refine wpAnyT_pure (i := 17) (oi := { dst := some 122, op := Op.move (Operand.tmp 14), type := 3, pos := "law.go:142", after := #[{ on := 12, ground := Ground.guard }], guard := some (12, true) }) (v := ?_) rfl (by kernel_rfl) (by kernel_rfl) (by kernel_rfl) (by kernel_rfl) (fun _ _ _ h => h) (Or.inl ⟨by rfl, ?_⟩) (holds3 (fun _ => (SO _ d1).out) (late_no (by kernel_rfl)) (fun _ => (SR _ d1).out)) ?_
            rotate_left
            · (intro W; go_simp; try with_reducible rfl)
            try simp only [Act.put, List.setIfInBounds_toArray, List.set_cons_zero, List.set_cons_succ]
            refine wpAnyT_pure (i := 18) (oi := { dst := some 123, op := Op.indexAddr 44 (Operand.tmp 121) (Operand.tmp 122), type := 0, pos := "law.go:142", after := #[{ on := 16, ground := Ground.data }, { on := 17, ground := Ground.data }, { on := 12, ground := Ground.guard }], guard := some (12, true) }) (v := ?_) rfl (by kernel_rfl) (by kernel_rfl) (by kernel_rfl) (by kernel_rfl) (fun _ _ _ h => h) (Or.inl ⟨by rfl, ?_⟩) (holds3 (fun _ => (SO _ d1).out) (late_no (by kernel_rfl)) (fun _ => (SR _ d1).out)) ?_
            rotate_left
            · (intro W; go_simp; try with_reducible rfl)
            try simp only [Act.put, List.setIfInBounds_toArray, List.set_cons_zero, List.set_cons_succ]
            refine wpAnyT_take 9 21 (i := 19) (oi := { dst := some 124, op := Op.load 35 (Operand.tmp 123), type := 35, pos := "law.go:142", after := #[{ on := 18, ground := Ground.data }, { on := 12, ground := Ground.guard }], guard := some (12, true) }) (v := ?_) (.tail _ (.tail _ (.head _))) rfl (by kernel_rfl) (by kernel_rfl) (by kernel_rfl) (by kernel_rfl) (by kernel_rfl) (by kernel_rfl) (by rfl) (fun _ _ _ h => h) (by rfl) ?_ (holds3 (fun _ => (SO _ d1).out) (late_no (by kernel_rfl)) (fun _ => (SR _ d1).out)) ?_
            rotate_left
            · (intro W hSw; (try dsimp only at hSw); go_simp; try with_reducible rfl)
            try simp only [Act.put, List.setIfInBounds_toArray, List.set_cons_zero, List.set_cons_succ]
            refine wpAnyT_take 9 21 (i := 20) (oi := { dst := some 125, op := Op.convert 35 9 (Operand.tmp 124), type := 9, pos := "law.go:142", after := #[{ on := 19, ground := Ground.data }, { on := 12, ground := Ground.guard }], guard := some (12, true) }) (v := ?_) (.tail _ (.tail _ (.head _))) rfl (by kernel_rfl) (by kernel_rfl) (by kernel_rfl) (by kernel_rfl) (by kernel_rfl) (by kernel_rfl) (by rfl) (fun _ _ _ h => h) (by rfl) ?_ (holds3 (fun _ => (SO _ d1).out) (late_no (by kernel_rfl)) (fun _ => (SR _ d1).out)) ?_
            rotate_left
            · (intro W hSw; (try dsimp only at hSw); go_simp; try with_reducible rfl)
            try simp only [Act.put, List.setIfInBounds_toArray, List.set_cons_zero, List.set_cons_succ]
            refine wpAnyT_ready (rs := [14]) (by kernel_rfl) (by simp) (AllT.cons (o := { dst := some 119, op := Op.call { callee := Callee.value (Operand.func 16), args := #[Operand.const (Value.slice none 0 0), Operand.tmp 118], argTypes := #[35, 26] }, type := 35, pos := "law.go:142", after := #[{ on := 13, ground := Ground.data }, { on := 12, ground := Ground.chain }, { on := 12, ground := Ground.guard }], guard := some (12, true) }) rfl (fun K hK => ?_) AllT.nil)
            go_simp
            go_at_call 16
            refine (CBY _ d1).out.mono ?_
            rintro _ s2 ⟨y2, rfl, e2⟩
            have d2 : p4.grownBy s2 none := only_step d1 (e2.none rfl) (fun _ h => .inl h)
            have o2 := e2.own
            have K2 : (convert 35 9 y2).run Try.prog s2 = .ok (.string sO) s2 := by rw [← HSO.out]; exact conv_own o2
            refine hK.out _ _ (holds3 (late_no (by kernel_rfl)) (late_no (by kernel_rfl)) (fun _ => (SR _ d2).out)) ?_
            clear hK K
            try simp only [Act.put, List.setIfInBounds_toArray, List.set_cons_zero, List.set_cons_succ]
            refine wpAnyT_ready (rs := [15]) (by kernel_rfl) (by simp) (AllT.cons (o := { dst := some 120, op := Op.convert 35 9 (Operand.tmp 119), type := 9, pos := "law.go:142", after := #[{ on := 14, ground := Ground.data }, { on := 12, ground := Ground.guard }], guard := some (12, true) }) rfl (fun K hK => ?_) AllT.nil)
            go_simp
            refine hK.out _ _ (holds3 (late_no (by kernel_rfl)) (late_no (by kernel_rfl)) (fun _ => (SR _ d2).out)) ?_
            clear hK K
            try simp only [Act.put, List.setIfInBounds_toArray, List.set_cons_zero, List.set_cons_succ]
            refine wpAnyT_ready (rs := [21]) (by kernel_rfl) (by simp) (AllT.cons (o := { dst := some 126, op := Op.binOp BinOp.neq 9 (Operand.tmp 120) (Operand.tmp 125) 9, type := 4, pos := "law.go:142", after := #[{ on := 15, ground := Ground.data }, { on := 20, ground := Ground.data }, { on := 12, ground := Ground.guard }], guard := some (12, true) }) rfl (fun K hK => ?_) AllT.nil)
            go_simp
            refine hK.out _ _ (holds3 (late_no (by kernel_rfl)) (late_no (by kernel_rfl)) (late_no (by kernel_rfl))) ?_
            clear hK K
            try simp only [Act.put, List.setIfInBounds_toArray, List.set_cons_zero, List.set_cons_succ]
            refine wpAnyT_pure (i := 22) (oi := { dst := some 127, op := Op.pick (Operand.tmp 117) (Operand.tmp 126) (Operand.const (Value.bool false)), type := 4, pos := "law.go:142", after := #[{ on := 12, ground := Ground.data }, { on := 21, ground := Ground.data }, { on := 9, ground := Ground.guard }], guard := some (9, false) }) (v := ?_) rfl (by kernel_rfl) (by kernel_rfl) (by kernel_rfl) (by kernel_rfl) (fun _ _ _ h => h) (Or.inl ⟨by rfl, ?_⟩) (holds3 (late_no (by kernel_rfl)) (late_no (by kernel_rfl)) (late_no (by kernel_rfl))) ?_
            rotate_left
            · (intro W; go_simp; try with_reducible rfl)
            try simp only [Act.put, List.setIfInBounds_toArray, List.set_cons_zero, List.set_cons_succ]
            refine wpAnyT_pure (i := 23) (oi := { dst := some 128, op := Op.pick (Operand.tmp 114) (Operand.const (Value.bool true)) (Operand.tmp 127), type := 4, pos := "law.go:142", after := #[{ on := 9, ground := Ground.data }, { on := 22, ground := Ground.data }], guard := none }) (v := ?_) rfl (by kernel_rfl) (by kernel_rfl) (by kernel_rfl) (by kernel_rfl) (fun _ _ _ h => h) (Or.inl ⟨by rfl, ?_⟩) (holds3 (late_no (by kernel_rfl)) (late_no (by kernel_rfl)) (late_no (by kernel_rfl))) ?_
            rotate_left
            · (intro W; go_simp; try with_reducible rfl)
            try simp only [Act.put, List.setIfInBounds_toArray, List.set_cons_zero, List.set_cons_succ]
            refine wpAnyT_done (by kernel_rfl) ?_ _
            have GG := only_step (only_step HG.out G4.out (fun _ h => .inl h)) d2 (fun _ h => .inl h)
            go_wp2_with fail
            go_roundw
            case rel => exact ⟨k + 1, by omega, by go_num, GG⟩
            case measure => simp [intOf]; omega
          · have hb : (eo == 0) = false := by rw [beq_eq_false_iff_ne]; exact he
            clear he
            refine wp_region_late [(6, fun W => W.cell? ⟨p1.heap.size, 0, none⟩ = some (.int .i64 vo.d) ∧ W.cell? ⟨p1.heap.size, 1, none⟩ = some (.int .i64 vo.e) ∧ W.cell? ⟨p1.heap.size, 2, none⟩ = some (.int .i64 vo.s) ∧ W.cell? ⟨p1.heap.size, 3, none⟩ = some (.int .i64 vo.coll) ∧ W.cell? ⟨p1.heap.size, 4, none⟩ = some (.int .i64 vo.ver) ∧ W.cell? ⟨p1.heap.size, 5, none⟩ = some (.int .i64 vo.kind) ∧ W.cell? ⟨p1.heap.size, 6, none⟩ = some (.string vo.key) ∧ W.cell? ⟨p1.heap.size, 7, none⟩ = some (.string vo.text) ∧ W.cell? ⟨p1.heap.size, 8, none⟩ = some (.int .i64 vo.n) ∧ W.cell? ⟨p1.heap.size, 9, none⟩ = some (.int .i64 vo.time) ∧ W.cell? ⟨p1.heap.size, 10, none⟩ = some (.slice AO vo.l.length cO)), (6, fun W => W.cell? ⟨p3.heap.size, 0, none⟩ = some (.int .i64 vo.d) ∧ W.cell? ⟨p3.heap.size, 1, none⟩ = some (.int .i64 vo.e) ∧ W.cell? ⟨p3.heap.size, 2, none⟩ = some (.int .i64 vo.s) ∧ W.cell? ⟨p3.heap.size, 3, none⟩ = some (.int .i64 vo.coll) ∧ W.cell? ⟨p3.heap.size, 4, none⟩ = some (.int .i64 vo.ver) ∧ W.cell? ⟨p3.heap.size, 5, none⟩ = some (.int .i64 vo.kind) ∧ W.cell? ⟨p3.heap.size, 6, none⟩ = some (.string vo.key) ∧ W.cell? ⟨p3.heap.size, 7, none⟩ = some (.string vo.text) ∧ W.cell? ⟨p3.heap.size, 8, none⟩ = some (.int .i64 vo.n) ∧ W.cell? ⟨p3.heap.size, 9, none⟩ = some (.int .i64 vo.time) ∧ W.cell? ⟨p3.heap.size, 10, none⟩ = some (.slice AP vo.l.length cP))] (by kernel_rfl) ?_
            refine wpAnyT_pure (i := 0) (oi := { dst := some 105, op := Op.move (Operand.tmp 16), type := 30, pos := "law.go:142", after := #[], guard := none }) (v := ?_) rfl (by kernel_rfl) (by kernel_rfl) (by kernel_rfl) (by kernel_rfl) (fun _ _ _ h => h) (Or.inl ⟨by rfl, ?_⟩) (holds2 (fun _ => SO0.out) (fun _ => SP0.out)) ?_
            rotate_left
            · (intro W; go_simp; try with_reducible rfl)
            try simp only [Act.put, List.setIfInBounds_toArray, List.set_cons_zero, List.set_cons_succ]
            refine wpAnyT_pure (i := 1) (oi := { dst := some 106, op := Op.move (Operand.tmp 18), type := 3, pos := "law.go:142", after := #[], guard := none }) (v := ?_) rfl (by kernel_rfl) (by kernel_rfl) (by kernel_rfl) (by kernel_rfl) (fun _ _ _ h => h) (Or.inl ⟨by rfl, ?_⟩) (holds2 (fun _ => SO0.out) (fun _ => SP0.out)) ?_
            rotate_left
            · (intro W; go_simp; try with_reducible rfl)
            try simp only [Act.put, List.setIfInBounds_toArray, List.set_cons_zero, List.set_cons_succ]
            refine wpAnyT_pure (i := 2) (oi := { dst := some 107, op := Op.binOp BinOp.neq 3 (Operand.tmp 105) (Operand.tmp 106) 3, type := 4, pos := "law.go:142", after := #[{ on := 0, ground := Ground.data }, { on := 1, ground := Ground.data }], guard := none }) (v := ?_) rfl (by kernel_rfl) (by kernel_rfl) (by kernel_rfl) (by kernel_rfl) (fun _ _ _ h => h) (Or.inl ⟨by rfl, ?_⟩) (holds2 (fun _ => SO0.out) (fun _ => SP0.out)) ?_
            rotate_left
            · (intro W; go_simp; try with_reducible rfl)
            try simp only [Act.put, List.setIfInBounds_toArray, List.set_cons_zero, List.set_cons_succ]
            refine wpAnyT_pure (i := 3) (oi := { dst := some 108, op := Op.move (Operand.tmp 107), type := 4, pos := "law.go:142", after := #[{ on := 2, ground := Ground.data }], guard := none }) (v := ?_) rfl (by kernel_rfl) (by kernel_rfl) (by kernel_rfl) (by kernel_rfl) (fun _ _ _ h => h) (Or.inl ⟨by rfl, ?_⟩) (holds2 (fun _ => SO0.out) (fun _ => SP0.out)) ?_
            rotate_left
            · (intro W; go_simp; try with_reducible rfl)
            try simp only [Act.put, List.setIfInBounds_toArray, List.set_cons_zero, List.set_cons_succ]
            refine wpAnyT_take 9 6 (i := 4) (oi := { dst := some 109, op := Op.load 26 (Operand.tmp 15), type := 26, pos := "law.go:142", after := #[{ on := 3, ground := Ground.guard }], guard := some (3, false) }) (v := ?_) (.head _) rfl (by kernel_rfl) (by kernel_rfl) (by kernel_rfl) (by kernel_rfl) (by kernel_rfl) (by kernel_rfl) (by rfl) (fun _ _ _ h => h) (by rfl) ?_ (holds2 (fun _ => SO0.out) (fun _ => SP0.out)) ?_
            rotate_left
            · (intro W hSw; (try dsimp only at hSw); go_simp; try with_reducible rfl)
            try simp only [Act.put, List.setIfInBounds_toArray, List.set_cons_zero, List.set_cons_succ]
            refine wpAnyT_take 9 6 (i := 5) (oi := { dst := some 110, op := Op.load 26 (Operand.tmp 17), type := 26, pos := "law.go:142", after := #[{ on := 3, ground := Ground.guard }], guard := some (3, false) }) (v := ?_) (.tail _ (.head _)) rfl (by kernel_rfl) (by kernel_rfl) (by kernel_rfl) (by kernel_rfl) (by kernel_rfl) (by kernel_rfl) (by rfl) (fun _ _ _ h => h) (by rfl) ?_ (holds2 (fun _ => SO0.out) (fun _ => SP0.out)) ?_
            rotate_left
            · (intro W hSw; (try dsimp only at hSw); go_simp; try with_reducible rfl)
            try simp only [Act.put, List.setIfInBounds_toArray, List.set_cons_zero, List.set_cons_succ]
            refine wpAnyT_ready (rs := [6]) (by kernel_rfl) (by simp) (AllT.cons (o := { dst := some 111, op := Op.call { callee := Callee.value (Operand.func 19), args := #[Operand.tmp 109, Operand.tmp 110], argTypes := #[26, 26] }, type := 4, pos := "law.go:142", after := #[{ on := 4, ground := Ground.data }, { on := 5, ground := Ground.data }, { on := 3, ground := Ground.chain }, { on := 3, ground := Ground.guard }], guard := some (3, false) }) rfl (fun K hK => ?_) AllT.nil)
            go_simp
            go_at_call 19
            refine (CS _ d0).out.mono ?_
            rintro _ s1 ⟨rfl, h1⟩
            have d1 : p4.grownBy s1 none := only_step d0 h1 (fun _ h => .inl h)
            refine hK.out _ _ (holds2 (late_no (by kernel_rfl)) (late_no (by kernel_rfl))) ?_
            clear hK K
            try simp only [Act.put, List.setIfInBounds_toArray, List.set_cons_zero, List.set_cons_succ]
            refine wpAnyT_pure (i := 7) (oi := { dst := some 112, op := Op.unOp UnOp.not 4 (Operand.tmp 111), type := 4, pos := "law.go:142", after := #[{ on := 6, ground := Ground.data }, { on := 3, ground := Ground.guard }], guard := some (3, false) }) (v := ?_) rfl (by kernel_rfl) (by kernel_rfl) (by kernel_rfl) (by kernel_rfl) (fun _ _ _ h => h) (Or.inl ⟨by rfl, ?_⟩) (holds2 (late_no (by kernel_rfl)) (late_no (by kernel_rfl))) ?_
            rotate_left
            · (intro W; go_simp; try with_reducible rfl)
            try simp only [Act.put, List.setIfInBounds_toArray, List.set_cons_zero, List.set_cons_succ]
            refine wpAnyT_pure (i := 8) (oi := { dst := some 113, op := Op.pick (Operand.tmp 108) (Operand.const (Value.bool true)) (Operand.tmp 112), type := 4, pos := "law.go:142", after := #[{ on := 3, ground := Ground.data }, { on := 7, ground := Ground.data }], guard := none }) (v := ?_) rfl (by kernel_rfl) (by kernel_rfl) (by kernel_rfl) (by kernel_rfl) (fun _ _ _ h => h) (Or.inl ⟨by rfl, ?_⟩) (holds2 (late_no (by kernel_rfl)) (late_no (by kernel_rfl))) ?_
            rotate_left
            · (intro W; go_simp; try with_reducible rfl)
            try simp only [Act.put, List.setIfInBounds_toArray, List.set_cons_zero, List.set_cons_succ]
            refine wpAnyT_pure (i := 9) (oi := { dst := some 114, op := Op.move (Operand.tmp 113), type := 4, pos := "law.go:142", after := #[{ on := 8, ground := Ground.data }, { on := 6, ground := Ground.chain }], guard := none }) (v := ?_) rfl (by kernel_rfl) (by kernel_rfl) (by kernel_rfl) (by kernel_rfl) (fun _ _ _ h => h) (Or.inl ⟨by rfl, ?_⟩) (holds2 (late_no (by kernel_rfl)) (late_no (by kernel_rfl))) ?_
            rotate_left
            · (intro W; go_simp; try with_reducible rfl)
            try simp only [Act.put, List.setIfInBounds_toArray, List.set_cons_zero, List.set_cons_succ]
            refine wpAnyT_pure (i := 10) (oi := { dst := some 115, op := Op.move (Operand.tmp 16), type := 30, pos := "law.go:142", after := #[{ on := 9, ground := Ground.guard }], guard := some (9, false) }) (v := ?_) rfl (by kernel_rfl) (by kernel_rfl) (by kernel_rfl) (by kernel_rfl) (fun _ _ _ h => h) (Or.inl ⟨by rfl, ?_⟩) (holds2 (late_no (by kernel_rfl)) (late_no (by kernel_rfl))) ?_
            rotate_left
            · (intro W; go_simp; try with_reducible rfl)
            try simp only [Act.put, List.setIfInBounds_toArray, List.set_cons_zero, List.set_cons_succ]
            refine wpAnyT_pure (i := 11) (oi := { dst := some 116, op := Op.binOp BinOp.eql 30 (Operand.tmp 115) (Operand.const (Value.int IntKind.i64 0)) 30, type := 4, pos := "law.go:142", after := #[{ on := 10, ground := Ground.data }, { on := 9, ground := Ground.guard }], guard := some (9, false) }) (v := ?_) rfl (by kernel_rfl) (by kernel_rfl) (by kernel_rfl) (by kernel_rfl) (fun _ _ _ h => h) (Or.inl ⟨by rfl, ?_⟩) (holds2 (late_no (by kernel_rfl)) (late_no (by kernel_rfl))) ?_
            rotate_left
            · (intro W; go_simp; try with_reducible rfl)
            try simp only [Act.put, List.setIfInBounds_toArray, List.set_cons_zero, List.set_cons_succ]
            refine wpAnyT_pure (i := 12) (oi := { dst := some 117, op := Op.move (Operand.tmp 116), type := 4, pos := "law.go:142", after := #[{ on := 11, ground := Ground.data }, { on := 9, ground := Ground.chain }, { on := 9, ground := Ground.guard }], guard := some (9, false) }) (v := ?_) rfl (by kernel_rfl) (by kernel_rfl) (by kernel_rfl) (by kernel_rfl) (fun _ _ _ h => h) (Or.inl ⟨by rfl, ?_⟩) (holds2 (late_no (by kernel_rfl)) (late_no (by kernel_rfl))) ?_
            rotate_left
            · (intro W; go_simp; try with_reducible rfl)
            try simp only [Act.put, List.setIfInBounds_toArray, List.set_cons_zero, List.set_cons_succ]
            refine wpAnyT_pure (i := 13) (oi := { dst := some 118, op := Op.load 26 (Operand.tmp 15), type := 26, pos := "law.go:142", after := #[{ on := 12, ground := Ground.guard }], guard := some (12, true) }) (v := undef) rfl (by kernel_rfl) (by kernel_rfl) (by kernel_rfl) (by kernel_rfl) (fun _ _ _ h => h) (Or.inr ⟨by rfl, rfl⟩) (holds2 (late_no (by kernel_rfl)) (late_no (by kernel_rfl))) ?_
            try simp only [Act.put, List.setIfInBounds_toArray, List.set_cons_zero, List.set_cons_succ]
            refine wpAnyT_pure (i := 14) (oi := { dst := some 119, op := Op.call { callee := Callee.value (Operand.func 16), args := #[Operand.const (Value.slice none 0 0), Operand.tmp 118], argTypes := #[35, 26] }, type := 35, pos := "law.go:142", after := #[{ on := 13, ground := Ground.data }, { on := 12, ground := Ground.chain }, { on := 12, ground := Ground.guard }], guard := some (12, true) }) (v := undef) rfl (by kernel_rfl) (by kernel_rfl) (by kernel_rfl) (by kernel_rfl) (fun _ _ _ h => h) (Or.inr ⟨by rfl, rfl⟩) (holds2 (late_no (by kernel_rfl)) (late_no (by kernel_rfl))) ?_
            try simp only [Act.put, List.setIfInBounds_toArray, List.set_cons_zero, List.set_cons_succ]
            refine wpAnyT_pure (i := 15) (oi := { dst := some 120, op := Op.convert 35 9 (Operand.tmp 119), type := 9, pos := "law.go:142", after := #[{ on := 14, ground := Ground.data }, { on := 12, ground := Ground.guard }], guard := some (12, true) }) (v := undef) rfl (by kernel_rfl) (by kernel_rfl) (by kernel_rfl) (by kernel_rfl) (fun _ _ _ h => h) (Or.inr ⟨by rfl, rfl⟩) (holds2 (late_no (by kernel_rfl)) (late_no (by kernel_rfl))) ?_
            try simp only [Act.put, List.setIfInBounds_toArray, List.set_cons_zero, List.set_cons_succ]
            refine wpAnyT_pure (i := 16) (oi := { dst := some 121, op := Op.move (Operand.tmp 13), type := 44, pos := "law.go:142", after := #[{ on := 12, ground := Ground.guard }], guard := some (12, true) }) (v := undef) rfl (by kernel_rfl) (by kernel_rfl) (by kernel_rfl) (by kernel_rfl) (fun _ _ _ h => h) (Or.inr ⟨by rfl, rfl⟩) (holds2 (late_no (by kernel_rfl)) (late_no (by kernel_rfl))) ?_
            try simp only [Act.put, List.setIfInBounds_toArray, List.set_cons_zero, List.set_cons_succ]
            refine wpAnyT_pure (i := 17) (oi := { dst := some 122, op := Op.move (Operand.tmp 14), type := 3, pos := "law.go:142", after := #[{ on := 12, ground := Ground.guard }], guard := some (12, true) }) (v := undef) rfl (by kernel_rfl) (by kernel_rfl) (by kernel_rfl) (by kernel_rfl) (fun _ _ _ h => h) (Or.inr ⟨by rfl, rfl⟩) (holds2 (late_no (by kernel_rfl)) (late_no (by kernel_rfl))) ?_
            try simp only [Act.put, List.setIfInBounds_toArray, List.set_cons_zero, List.set_cons_succ]
            refine wpAnyT_pure (i := 18) (oi := { dst := some 123, op := Op.indexAddr 44 (Operand.tmp 121) (Operand.tmp 122), type := 0, pos := "law.go:142", after := #[{ on := 16, ground := Ground.data }, { on := 17, ground := Ground.data }, { on := 12, ground := Ground.guard }], guard := some (12, true) }) (v := undef) rfl (by kernel_rfl) (by kernel_rfl) (by kernel_rfl) (by kernel_rfl) (fun _ _ _ h => h) (Or.inr ⟨by rfl, rfl⟩) (holds2 (late_no (by kernel_rfl)) (late_no (by kernel_rfl))) ?_
            try simp only [Act.put, List.setIfInBounds_toArray, List.set_cons_zero, List.set_cons_succ]
            refine wpAnyT_pure (i := 19) (oi := { dst := some 124, op := Op.load 35 (Operand.tmp 123), type := 35, pos := "law.go:142", after := #[{ on := 18, ground := Ground.data }, { on := 12, ground := Ground.guard }], guard := some (12, true) }) (v := undef) rfl (by kernel_rfl) (by kernel_rfl) (by kernel_rfl) (by kernel_rfl) (fun _ _ _ h => h) (Or.inr ⟨by rfl, rfl⟩) (holds2 (late_no (by kernel_rfl)) (late_no (by kernel_rfl))) ?_
            try simp only [Act.put, List.setIfInBounds_toArray, List.set_cons_zero, List.set_cons_succ]
            refine wpAnyT_pure (i := 20) (oi := { dst := some 125, op := Op.convert 35 9 (Operand.tmp 124), type := 9, pos := "law.go:142", after := #[{ on := 19, ground := Ground.data }, { on := 12, ground := Ground.guard }], guard := some (12, true) }) (v := undef) rfl (by kernel_rfl) (by kernel_rfl) (by kernel_rfl) (by kernel_rfl) (fun _ _ _ h => h) (Or.inr ⟨by rfl, rfl⟩) (holds2 (late_no (by kernel_rfl)) (late_no (by kernel_rfl))) ?_
            try simp only [Act.put, List.setIfInBounds_toArray, List.set_cons_zero, List.set_cons_succ]
            refine wpAnyT_pure (i := 21) (oi := { dst := some 126, op := Op.binOp BinOp.neq 9 (Operand.tmp 120) (Operand.tmp 125) 9, type := 4, pos := "law.go:142", after := #[{ on := 15, ground := Ground.data }, { on := 20, ground := Ground.data }, { on := 12, ground := Ground.guard }], guard := some (12, true) }) (v := undef) rfl (by kernel_rfl) (by kernel_rfl) (by kernel_rfl) (by kernel_rfl) (fun _ _ _ h => h) (Or.inr ⟨by rfl, rfl⟩) (holds2 (late_no (by kernel_rfl)) (late_no (by kernel_rfl))) ?_
            try simp only [Act.put, List.setIfInBounds_toArray, List.set_cons_zero, List.set_cons_succ]
            refine wpAnyT_pure (i := 22) (oi := { dst := some 127, op := Op.pick (Operand.tmp 117) (Operand.tmp 126) (Operand.const (Value.bool false)), type := 4, pos := "law.go:142", after := #[{ on := 12, ground := Ground.data }, { on := 21, ground := Ground.data }, { on := 9, ground := Ground.guard }], guard := some (9, false) }) (v := ?_) rfl (by kernel_rfl) (by kernel_rfl) (by kernel_rfl) (by kernel_rfl) (fun _ _ _ h => h) (Or.inl ⟨by rfl, ?_⟩) (holds2 (late_no (by kernel_rfl)) (late_no (by kernel_rfl))) ?_
            rotate_left
            · (intro W; go_simp; try with_reducible rfl)
            try simp only [Act.put, List.setIfInBounds_toArray, List.set_cons_zero, List.set_cons_succ]
            refine wpAnyT_pure (i := 23) (oi := { dst := some 128, op := Op.pick (Operand.tmp 114) (Operand.const (Value.bool true)) (Operand.tmp 127), type := 4, pos := "law.go:142", after := #[{ on := 9, ground := Ground.data }, { on := 22, ground := Ground.data }], guard := none }) (v := ?_) rfl (by kernel_rfl) (by kernel_rfl) (by kernel_rfl) (by kernel_rfl) (fun _ _ _ h => h) (Or.inl ⟨by rfl, ?_⟩) (holds2 (late_no (by kernel_rfl)) (late_no (by kernel_rfl))) ?_
            rotate_left
            · (intro W; go_simp; try with_reducible rfl)
            try simp only [Act.put, List.setIfInBounds_toArray, List.set_cons_zero, List.set_cons_succ]
            refine wpAnyT_done (by kernel_rfl) ?_ _
            have GG := only_step (only_step HG.out G4.out (fun _ h => .inl h)) d1 (fun _ h => .inl h)
            go_wp2_with fail
            go_roundw
            case rel => exact ⟨k + 1, by omega, by go_num, GG⟩
            case measure => simp [intOf]; omega
        · have hkk : k = 3 := by omega
          subst hkk
          go_wp2_with fail
          go_ret
          exact ⟨rfl, only_step G6.out HG.out (fun _ h => .inl h)⟩
set_option maxRecDepth 100000 in
set_option maxHeartbeats 2000000 in
theorem or_many (va : OpV) (A T B R : Option Addr) (ca nt ct nb cb cr : Nat) (raw : List Int) (cut : Int) (w : World) (hfew : fewP va.key va.text va.l = false) :
    Calls Try.prog 5 #[.agg #[.int .i64 va.d, .int .i64 va.e, .int .i64 va.s, .int .i64 va.coll, .int .i64 va.ver, .int .i64 va.kind, .string va.key, .string va.text, .int .i64 va.n, .int .i64 va.time, .slice A va.l.length ca], .slice T nt ct, .slice B nb cb, .int .i64 cut, .slice R raw.length cr] w fun e' w' => e' = .returned (.bool true) ∧ w.grownBy w' none := by
  obtain ⟨w1, hw1⟩ : ∃ Z, w.alloc (.cells #[.int .i64 va.d, .int .i64 va.e, .int .i64 va.s, .int .i64 va.coll, .int .i64 va.ver, .int .i64 va.kind, .string va.key, .string va.text, .int .i64 va.n, .int .i64 va.time, .slice A va.l.length ca] 26) = Z := ⟨_, rfl⟩
  have P1 : OpB w1 w.heap.size va.d va.e va.s va.coll va.ver va.kind va.key va.text va.n va.time (.slice A va.l.length ca) := by subst hw1; exact heap_alloc_new w _
  have g1 : w.grownBy w1 none := by subst hw1; exact World.grownBy_alloc w _ none
  go_enter Try.func5, Try.ntmps5
  go_wp2_with fail
  clear hw1
  refine (known_any _).mono ?_
  rintro _ w2 ⟨rfl, gk⟩
  have G2 : w.grownBy w2 none := only_step g1 gk (fun _ h => .inl h)
  have P2 := P1.other gk (by simp)
  clear P1 gk g1
  obtain ⟨c0, c1, c2, c3, c4, c5, c6, c7, c8, c9, c10⟩ := P2.cells
  go_wp2_with fail
  refine (few_any va.d va.e va.s va.coll va.ver va.kind va.n va.time va.key va.text A ca va.l _).mono ?_
  rintro _ w3 ⟨rfl, g3⟩
  rw [hfew]
  have G3 := only_step G2 g3 (fun _ h => .inl h)
  clear c0 c1 c2 c3 c4 c5 c6 c7 c8 c9 c10 hfew
  go_wp2_with fail
  go_ret
  exact ⟨rfl, G3⟩
set_option maxRecDepth 100000 in
set_option maxHeartbeats 2000000 in
theorem or_long (va : OpV) (A T B R : Option Addr) (ca nt ct nb cb cr : Nat) (raw : List Int) (cut : Int) (w : World) (hfew : fewP va.key va.text va.l = true) (hR : 300 < raw.length) :
    Calls Try.prog 5 #[.agg #[.int .i64 va.d, .int .i64 va.e, .int .i64 va.s, .int .i64 va.coll, .int .i64 va.ver, .int .i64 va.kind, .string va.key, .string va.text, .int .i64 va.n, .int .i64 va.time, .slice A va.l.length ca], .slice T nt ct, .slice B nb cb, .int .i64 cut, .slice R raw.length cr] w fun e' w' => e' = .returned (.bool true) ∧ w.grownBy w' none := by
  have n300 : (300 : Int) < (raw.length : Int) := by omega
  clear hR
  obtain ⟨w1, hw1⟩ : ∃ Z, w.alloc (.cells #[.int .i64 va.d, .int .i64 va.e, .int .i64 va.s, .int .i64 va.coll, .int .i64 va.ver, .int .i64 va.kind, .string va.key, .string va.text, .int .i64 va.n, .int .i64 va.time, .slice A va.l.length ca] 26) = Z := ⟨_, rfl⟩
  have P1 : OpB w1 w.heap.size va.d va.e va.s va.coll va.ver va.kind va.key va.text va.n va.time (.slice A va.l.length ca) := by subst hw1; exact heap_alloc_new w _
  have g1 : w.grownBy w1 none := by subst hw1; exact World.grownBy_alloc w _ none
  go_enter Try.func5, Try.ntmps5
  go_wp2_with fail
  clear hw1
  refine (known_any _).mono ?_
  rintro _ w2 ⟨rfl, gk⟩
  have G2 : w.grownBy w2 none := only_step g1 gk (fun _ h => .inl h)
  have P2 := P1.other gk (by simp)
  clear P1 gk g1
  obtain ⟨c0, c1, c2, c3, c4, c5, c6, c7, c8, c9, c10⟩ := P2.cells
  go_wp2_with fail
  refine (few_any va.d va.e va.s va.coll va.ver va.kind va.n va.time va.key va.text A ca va.l _).mono ?_
  rintro _ w3 ⟨rfl, g3⟩
  rw [hfew]
  have G3 := only_step G2 g3 (fun _ h => .inl h)
  clear c0 c1 c2 c3 c4 c5 c6 c7 c8 c9 c10 hfew
  go_wp2_with fail
  go_ret
  exact ⟨rfl, G3⟩
/-- All inputs. -/
theorem opsReads_walk (d0 e0 s0 coll0 ver0 kind0 n0 time0 : Int) (key0 text0 : ByteArray) (A0 : Option Addr) (c0 : Nat) (l0 : List Dt) (T B R : Option Addr) (ct cb cr : Nat) (at_ by_ raw : List Int) (cut : Int) (w : World) (hi : I64 d0 ∧ I64 e0 ∧ I64 s0 ∧ I64 coll0 ∧ I64 ver0 ∧ I64 kind0 ∧ I64 n0 ∧ I64 time0) (hA : Has w w.heap.size A0 (dc l0)) (hd : ∀ p ∈ l0, I64 p.1 ∧ I64 p.2.1 ∧ I64 p.2.2) (hc : l0.length ≤ c0)
    (hT : Has w w.heap.size T (is at_)) (hTi : ∀ n ∈ at_, I64 n) (hB : Has w w.heap.size B (bs by_)) (hBb : bytesOk by_) (hR : Has w w.heap.size R (bs raw)) (hRb : bytesOk raw) (hRc : raw.length ≤ cr) (hcut : I64 cut) (hTl : at_.length ≤ maxLen) (hBl : by_.length ≤ maxLen) :
    Calls Try.prog 5 #[.agg #[.int .i64 d0, .int .i64 e0, .int .i64 s0, .int .i64 coll0, .int .i64 ver0, .int .i64 kind0, .string key0, .string text0, .int .i64 n0, .int .i64 time0, .slice A0 l0.length c0], .slice T at_.length ct, .slice B by_.length cb, .int .i64 cut, .slice R raw.length cr] w fun e' w' => e' = .returned (.bool true) ∧ w.grownBy w' none := by
  cases h0 : fewP key0 text0 l0 with
  | false => exact or_many ⟨d0, e0, s0, coll0, ver0, kind0, n0, time0, key0, text0, l0⟩ A0 T B R c0 _ ct _ cb cr raw cut w h0
  | true =>
    by_cases hl : 300 < raw.length
    · exact or_long ⟨d0, e0, s0, coll0, ver0, kind0, n0, time0, key0, text0, l0⟩ A0 T B R c0 _ ct _ cb cr raw cut w h0 hl
    · exact or_core ⟨d0, e0, s0, coll0, ver0, kind0, n0, time0, key0, text0, l0⟩ A0 T B R c0 ct cb cr at_ by_ raw cut w hA (few_fw _ _ _ _ _ _ _ _ _ _ _ hi hd h0) hc h0 hT hTi hB hBb hR hRb hRc (by omega) hcut hTl hBl
end Go.Proofs.Ytcmpeohooiehcaa
