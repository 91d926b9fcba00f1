/- The law DiskPlays, walked: it returns true for every input. No condition. -/
import Derived.Test.YtmjfemnjkgfgfaaDp1
import Derived.LoopTactic
import Derived.Deep.CutBlock
import Derived.Deep.DeepCutAuto
namespace Go.Proofs.Ytmjfemnjkgfgfaa
open Go.RowKit Go.Deep
set_option maxRecDepth 100000 in
set_option maxHeartbeats 20000000 in
theorem plays_bad (room : Int) (A : Option Addr) (n ca : Nat) (w : World) (hr : room < 1 ∨ 16777216 < room) :
    Calls Try.prog 3 #[.int .i64 room, .slice A n ca] w fun e w' => e = .returned (.bool true) ∧ Below w.heap.size w w' := by
  have KN := fun W => Lib.hid (known_any W)
  have N1 := fun W => Lib.hid (dnew_no room W hr)
  have N2 := fun W => Lib.hid (rnew_no room W hr)
  clear hr
  go_enter Try.func3, Try.ntmps3
  go_wp2_with fail
  refine (KN _).out.mono ?_
  rintro _ w1 ⟨rfl, b1⟩
  go_wp2_with fail
  refine (N1 _).out.mono ?_
  rintro _ w2 ⟨rfl, g2⟩
  go_wp2_with fail
  refine (N2 _).out.mono ?_
  rintro _ w3 ⟨rfl, g3⟩
  have b3 : Below w.heap.size w w3 := (b1.trans (bel g2 (fun _ h => by cases h) b1.size)).trans (bel g3 (fun _ h => by cases h) (by have := b1.size; have := g2.size; omega))
  have B3 := Lib.hid b3
  clear b1 g2 g3 b3
  go_wp2_with fail
  refine wp_loop_rounds 1 ?_
  rw [rounds_succ]
  go_wp2_with fail
  go_ret
  exact ⟨rfl, B3.out⟩
set_option maxRecDepth 100000 in
set_option maxHeartbeats 20000000 in
theorem plays_walk (room : Int) (A : Option Addr) (ca : Nat) (calls : List CallV) (w : World) (r1 : 1 ≤ room) (r2 : room ≤ 16777216) (hA : Has w w.heap.size A (ccs calls)) (hok : ∀ c ∈ calls, CallOk w c) :
    Calls Try.prog 3 #[.int .i64 room, .slice A calls.length ca] w fun e w' => e = .returned (.bool true) ∧ Below w.heap.size w w' := by
  have KN := fun W => Lib.hid (known_any W)
  have N1 := fun W => Lib.hid (dnew_anyF (fun _ => False) room W r1 r2)
  have N2 := fun W => Lib.hid (rnew_any (fun _ => False) room W r1 r2)
  have GN := Lib.hid (gone_new room r1 r2)
  have HA := Lib.hid hA
  have HK := Lib.hid hok
  clear r1 r2 hA hok
  go_enter Try.func3, Try.ntmps3
  go_wp2_with fail
  refine (KN _).out.mono ?_
  rintro _ w1 ⟨rfl, b1⟩
  go_wp2_with fail
  refine (N1 _).out.mono ?_
  rintro _ w2 ⟨rfl, hD, z2, g2⟩
  go_wp2_with fail
  refine (N2 _).out.mono ?_
  rintro _ w3 ⟨rfl, hR, g3⟩
  have z1 := b1.size
  have z3 := g2.size
  have B3 := Lib.hid ((b1.trans (bel g2 (fun _ h => by cases h) z1)).trans (bel g3 (fun _ h => by cases h) (by omega)))
  obtain ⟨p, hp⟩ : ∃ p, w1.heap.size = p := ⟨_, rfl⟩
  obtain ⟨q, hq⟩ : ∃ q, w2.heap.size = q := ⟨_, rfl⟩
  have T3 := Lib.hid (Bt.new (base := w.heap.size) hD hR g3 (by omega) z1 (by omega))
  obtain ⟨d0, hd0⟩ : ∃ d0, newS room = d0 := ⟨_, rfl⟩
  rw [hp, hq, hd0] at T3
  rw [hd0] at GN
  rw [hp, hq]
  clear KN N1 N2 hD hR g2 g3 z1 z2 z3 b1 hd0 hp hq
  go_wp2_with fail
  go_loopw [9] (fun si wr => ∃ (i : Nat) (d : DS), i ≤ calls.length ∧ i ≤ 100 ∧ si = .int .i64 i ∧ Hid (Bt wr w.heap.size p q (fun _ => False) d d) ∧ Hid (Gone d i) ∧ Hid (Below w.heap.size w wr)) (fun si _ => 100 - (intOf si).toNat)
  case atStart => exact ⟨0, d0, Nat.zero_le _, by omega, rfl, T3, GN, B3⟩
  case round =>
    clear T3 GN B3
    obtain ⟨i, d, hi, hi2, rfl, HB, HG, HW⟩ := hrel
    by_cases h1 : i < calls.length ∧ i < 100
    · obtain ⟨h1, h2⟩ := h1
      obtain ⟨c, hc⟩ : ∃ c, calls[i]? = some c := ⟨_, List.getElem?_eq_getElem h1⟩
      have OK := Lib.hid (HK.out c (List.mem_of_getElem? hc))
      obtain ⟨ab, off, rfl, hab, k0, k1, k2⟩ := HA.out.call hc
      clear hc
      have c0 := (HW.out.cell (p := ⟨ab, off + i * 3, none⟩) hab).trans k0
      have c1 := (HW.out.cell (p := ⟨ab, off + i * 3 + 1, none⟩) hab).trans k1
      have c2 := (HW.out.cell (p := ⟨ab, off + i * 3 + 2, none⟩) hab).trans k2
      clear k0 k1 k2 hab
      have t0 : (0 : Int) ≤ (i : Int) := by omega
      have t1 : (i : Int) < (calls.length : Int) := by omega
      have t2 : (i : Int) < 100 := by omega
      by_cases h5 : c.b.length ≤ 500
      · have t5 : ¬ (500 : Int) < (c.b.length : Int) := by omega
        have H5 := Lib.hid h5
        have z1 : (wr.alloc (.cells #[.int .i64 c.k, .int .i64 c.n, .slice c.A c.b.length c.c] 33)).heap.size = wr.heap.size + 1 := by simp
        have lit : Hid (((wr.alloc (.cells #[.int .i64 c.k, .int .i64 c.n, .slice c.A c.b.length c.c] 33)).alloc (.cells #[] 5)).ownsRow (wr.heap.size + 1) 5 1 (.slice (some ⟨wr.heap.size + 1, 0, none⟩) 0 0) ([] : List Value).length []) := ⟨rfl, .inr ⟨wr.heap.size + 1, 0, #[], rfl, Nat.le_refl _, by rw [← z1]; exact heap_alloc_new _ _, Nat.le_refl _, Nat.zero_le _, rfl, rfl⟩⟩
        have g12 : Hid (wr.grownBy ((wr.alloc (.cells #[.int .i64 c.k, .int .i64 c.n, .slice c.A c.b.length c.c] 33)).alloc (.cells #[] 5)) none) := only_alloc (World.grownBy_alloc wr _ none) _
        have sr : Hid (Src Try.prog 1 31 (.slice c.A c.b.length c.c) (bs c.b).length (bs c.b) ((wr.alloc (.cells #[.int .i64 c.k, .int .i64 c.n, .slice c.A c.b.length c.c] 33)).alloc (.cells #[] 5))) := by
          have h := (((OK.out.has.below HW.out).only g12.out HW.out.size (fun k hk => by cases hk)).src Try.underlying31 c.c (bs_one _))
          rw [bs_len] at h ⊢
          exact h
        have hl : (bs c.b).length ≤ 500 := by rw [bs_len]; exact h5
        have hz : wr.heap.size + 1 ≤ ((wr.alloc (.cells #[.int .i64 c.k, .int .i64 c.n, .slice c.A c.b.length c.c] 33)).alloc (.cells #[] 5)).heap.size := by simp
        have Z1 := Lib.hid z1
        clear z1
        go_upto_region 14 with (at_builtin; refine app_bytes rfl _ _ 31 rfl (wr.heap.size + 1) (.slice (some ⟨wr.heap.size + 1, 0, none⟩) 0 0) [] rfl lit.out (.slice c.A c.b.length c.c) (bs c.b) rfl sr.out (by simp only [List.length_nil]; omega) hz ?_; intro v1 wa g1; rw [List.nil_append] at g1; have o1 := Lib.hid g1.own; have gw1 := Lib.hid (only_step (World.grownBy_alloc (wr.alloc (.cells #[.int .i64 c.k, .int .i64 c.n, .slice c.A c.b.length c.c] 33)) (.cells #[] 5) none) g1.only (fun k hk => .inr (by rw [Z1.out]; cases hk; exact Nat.le_refl _))); clear g1; obtain ⟨A1, c1', rfl⟩ := own_slice o1.out)
        have RD : Hid (Rd w wa p q wr.heap.size (.slice A1 c.b.length c1') c c.b d d) := by
          have h := o1.out
          rw [bs_len] at h
          exact Rd.new HB.out HW.out rfl (by rw [Z1.out]; exact h) gw1.out
        rw [bs_len]
        clear o1 gw1 lit g12 sr hl hz Z1 HB HW c0 c1 c2 t0 t1 t2 t5 h5
        obtain ⟨cb, hcb⟩ : ∃ cb, wr.heap.size = cb := ⟨_, rfl⟩
        rw [hcb] at RD
        rw [hcb]
        clear hcb
        obtain ⟨A, cm, hA, hcm⟩ : ∃ A cm, A1 = A ∧ c1' = cm := ⟨_, _, rfl, rfl⟩
        rw [hA, hcm] at RD
        rw [hA, hcm]
        clear hA hcm
        obtain ⟨f0, f1, f2⟩ := RD.out.cells
        have m1 := Int.emod_nonneg c.k (show (7 : Int) ≠ 0 by decide)
        have m2 := Int.emod_lt_of_pos c.k (show (0 : Int) < 7 by decide)
        obtain ⟨m, hm⟩ : ∃ m, c.k % 7 = m := ⟨_, rfl⟩
        have HM := fun W => Lib.hid (within_any c.k 7 OK.out.k.1 OK.out.k.2 (by decide) (by decide) W)
        rw [hm] at HM m1 m2
        clear hm
        go_upto_block 2 with (go_at_call 12; refine (HM _).out.mono ?_; rintro _ wd ⟨rfl, rfl⟩)
        go_cut [12, 13] (fun s12 s13 wx => ∃ (E : Int) (d2 : DS), s12 = .int .i64 E ∧ s13 = .int .i64 E ∧ Hid (Rd w wx p q cb (.slice A c.b.length cm) c c.b d2 d2) ∧ Hid (Gone d2 (i + 1)))
        case first =>
          rcases (show m = 0 ∨ m = 1 ∨ m = 2 ∨ m = 3 ∨ m = 4 ∨ m = 5 ∨ m = 6 by omega) with rfl | rfl | rfl | rfl | rfl | rfl | rfl
          · as_aux_lemma =>
              obtain ⟨d2, hd2⟩ : ∃ x, appendS d c.b = x := ⟨_, rfl⟩
              obtain ⟨E, hE⟩ : ∃ x, appendE d c.b = x := ⟨_, rfl⟩
              have CP : ∀ W, Rd w W p q cb (.slice A c.b.length cm) c c.b d d → Hid (Calls Try.prog 13 #[.pointer (some ⟨p, 0, none⟩), (.slice A c.b.length cm)] W fun x w' => x = .returned (.int .i64 E) ∧ Rd w w' p q cb (.slice A c.b.length cm) c c.b d2 d) := fun W h => by
                have h2 := bt_append_p h.bt HG.out.ok h.size A cm c.b h.mine (by have := H5.out; omega)
                rw [hd2, hE] at h2
                exact h2.mono fun _ w' hh => ⟨hh.1, h.step hh.2.1 hh.2.2.1 hh.2.2.2⟩
              have CR : ∀ W, Rd w W p q cb (.slice A c.b.length cm) c c.b d2 d → Hid (Calls Try.prog 14 #[.pointer (some ⟨q, 0, none⟩), .slice c.A c.b.length c.c] W fun x w' => x = .returned (.int .i64 E) ∧ Rd w w' p q cb (.slice A c.b.length cm) c c.b d2 d2) := fun W h => by
                have h2 := bt_append_r (d := d2) (e := d) h.bt HG.out.ok HG.out.st h.size c.A c.c c.b (h.argq OK.out) (by have := H5.out; omega)
                rw [hd2, hE] at h2
                exact h2.mono fun _ w' hh => ⟨hh.1, h.step hh.2.1 hh.2.2.1 hh.2.2.2⟩
              have G2 : Hid (Gone d2 (i + 1)) := hd2 ▸ gone_append HG.out (by omega) c.b
              clear hd2 f0 f1 f2 m1 m2 HM hE
              clear HG
              go_upto_region 17 with fail
              have R0 := RD.out.drew
              refine wp_region_late [(6, fun V => V.cell? ⟨cb, 2, none⟩ = some (.slice c.A c.b.length c.c))] (by kernel_rfl) ?_
              refine wpAnyT_pure (i := 0) (oi := { dst := some 69, op := Op.move (Operand.tmp 5), type := 24, pos := "law.go:55", after := #[], guard := none }) (v := ?_) rfl (by kernel_rfl) (by kernel_rfl) (by kernel_rfl) (by kernel_rfl) (fun _ _ _ h => h) (Or.inl ⟨by rfl, ?_⟩) (holds1 (fun _ => R0.cells.2.2)) ?_
              rotate_left
              · (intro W; go_simp; try with_reducible rfl)
              try simp only [Act.put, List.setIfInBounds_toArray, List.set_cons_zero, List.set_cons_succ]
              refine wpAnyT_pure (i := 1) (oi := { dst := some 70, op := Op.move (Operand.tmp 11), type := 31, pos := "law.go:55", after := #[], guard := none }) (v := ?_) rfl (by kernel_rfl) (by kernel_rfl) (by kernel_rfl) (by kernel_rfl) (fun _ _ _ h => h) (Or.inl ⟨by rfl, ?_⟩) (holds1 (fun _ => R0.cells.2.2)) ?_
              rotate_left
              · (intro W; go_simp; try with_reducible rfl)
              try simp only [Act.put, List.setIfInBounds_toArray, List.set_cons_zero, List.set_cons_succ]
              refine wpAnyT_pure (i := 3) (oi := { dst := some 72, op := Op.move (Operand.tmp 7), type := 28, pos := "law.go:55", after := #[], guard := none }) (v := ?_) rfl (by kernel_rfl) (by kernel_rfl) (by kernel_rfl) (by kernel_rfl) (fun _ _ _ h => h) (Or.inl ⟨by rfl, ?_⟩) (holds1 (fun _ => R0.cells.2.2)) ?_
              rotate_left
              · (intro W; go_simp; try with_reducible rfl)
              try simp only [Act.put, List.setIfInBounds_toArray, List.set_cons_zero, List.set_cons_succ]
              refine wpAnyT_pure (i := 4) (oi := { dst := some 73, op := Op.fieldAddr 33 (Operand.tmp 10) 2, type := 0, pos := "law.go:55", after := #[], guard := none }) (v := ?_) rfl (by kernel_rfl) (by kernel_rfl) (by kernel_rfl) (by kernel_rfl) (fun _ _ _ h => h) (Or.inl ⟨by rfl, ?_⟩) (holds1 (fun _ => R0.cells.2.2)) ?_
              rotate_left
              · (intro W; go_simp; try with_reducible rfl)
              try simp only [Act.put, List.setIfInBounds_toArray, List.set_cons_zero, List.set_cons_succ]
              refine wpAnyT_take 4 6 (i := 5) (oi := { dst := some 74, op := Op.load 31 (Operand.tmp 73), type := 31, pos := "law.go:55", after := #[{ on := 4, ground := Ground.data }], guard := none }) (v := ?_) (.head _) rfl (by kernel_rfl) (by kernel_rfl) (by kernel_rfl) (by kernel_rfl) (by kernel_rfl) (by kernel_rfl) (by rfl) (fun _ _ _ h => h) (by rfl) ?_ (holds1 (fun _ => R0.cells.2.2)) ?_
              rotate_left
              · (intro W hSw; (try dsimp only at hSw); go_simp; try with_reducible rfl)
              try simp only [Act.put, List.setIfInBounds_toArray, List.set_cons_zero, List.set_cons_succ]
              refine wpAnyT_ready (rs := [2]) (by kernel_rfl) (by simp) (AllT.cons (o := { dst := some 71, op := Op.call { callee := Callee.value (Operand.func 13), args := #[Operand.tmp 69, Operand.tmp 70], argTypes := #[24, 31] }, type := 25, pos := "law.go:55", after := #[{ on := 0, ground := Ground.data }, { on := 1, ground := Ground.data }], guard := none }) rfl (fun K hK => ?_) AllT.nil)
              go_simp
              go_at_call 13
              refine (CP _ R0).out.mono ?_
              rintro _ v1 ⟨rfl, R1⟩
              refine hK.out _ _ (holds1 (fun _ => R1.cells.2.2)) ?_
              clear hK K
              try simp only [Act.put, List.setIfInBounds_toArray, List.set_cons_zero, List.set_cons_succ]
              refine wpAnyT_ready (rs := [6]) (by kernel_rfl) (by simp) (AllT.cons (o := { dst := some 75, op := Op.call { callee := Callee.value (Operand.func 14), args := #[Operand.tmp 72, Operand.tmp 74], argTypes := #[28, 31] }, type := 3, pos := "law.go:55", after := #[{ on := 3, ground := Ground.data }, { on := 5, ground := Ground.data }, { on := 2, ground := Ground.chain }], guard := none }) rfl (fun K hK => ?_) AllT.nil)
              go_simp
              go_at_call 14
              refine (CR _ R1).out.mono ?_
              rintro _ v2 ⟨rfl, R2⟩
              refine hK.out _ _ (holds1 (late_no (by kernel_rfl))) ?_
              clear hK K
              try simp only [Act.put, List.setIfInBounds_toArray, List.set_cons_zero, List.set_cons_succ]
              refine wpAnyT_pure (i := 7) (oi := { dst := some 12, op := Op.assign (Operand.tmp 71), type := 25, pos := "law.go:55", after := #[{ on := 2, ground := Ground.data }, { on := 6, ground := Ground.chain }, { on := 0, ground := Ground.phase }, { on := 1, ground := Ground.phase }, { on := 2, ground := Ground.phase }, { on := 3, ground := Ground.textOnly Departure.lateStores }, { on := 4, ground := Ground.textOnly Departure.lateStores }, { on := 5, ground := Ground.textOnly Departure.lateStores }, { on := 6, ground := Ground.textOnly Departure.lateStoresUnsure }], guard := none }) (v := ?_) rfl (by kernel_rfl) (by kernel_rfl) (by kernel_rfl) (by kernel_rfl) (fun _ _ _ h => h) (Or.inl ⟨by rfl, ?_⟩) (holds1 (late_no (by kernel_rfl))) ?_
              rotate_left
              · (intro W; go_simp; try with_reducible rfl)
              try simp only [Act.put, List.setIfInBounds_toArray, List.set_cons_zero, List.set_cons_succ]
              refine wpAnyT_pure (i := 8) (oi := { dst := some 13, op := Op.assign (Operand.tmp 75), type := 3, pos := "law.go:55", after := #[{ on := 6, ground := Ground.data }, { on := 7, ground := Ground.chain }, { on := 0, ground := Ground.phase }, { on := 1, ground := Ground.phase }, { on := 2, ground := Ground.phase }, { on := 3, ground := Ground.phase }, { on := 4, ground := Ground.phase }, { on := 5, ground := Ground.phase }, { on := 6, ground := Ground.phase }, { on := 7, ground := Ground.phase }], guard := none }) (v := ?_) rfl (by kernel_rfl) (by kernel_rfl) (by kernel_rfl) (by kernel_rfl) (fun _ _ _ h => h) (Or.inl ⟨by rfl, ?_⟩) (holds1 (late_no (by kernel_rfl))) ?_
              rotate_left
              · (intro W; go_simp; try with_reducible rfl)
              try simp only [Act.put, List.setIfInBounds_toArray, List.set_cons_zero, List.set_cons_succ]
              refine wpAnyT_done (by kernel_rfl) ?_ _
              have R2 := Lib.hid R2
              clear R0 R1
              go_wp2_with fail
              go_meet
              exact ⟨E, d2, rfl, rfl, R2, G2⟩
          · as_aux_lemma =>
              obtain ⟨d2, hd2⟩ : ∃ x, appendS d c.b = x := ⟨_, rfl⟩
              obtain ⟨E, hE⟩ : ∃ x, appendE d c.b = x := ⟨_, rfl⟩
              have CP : ∀ W, Rd w W p q cb (.slice A c.b.length cm) c c.b d d → Hid (Calls Try.prog 13 #[.pointer (some ⟨p, 0, none⟩), (.slice A c.b.length cm)] W fun x w' => x = .returned (.int .i64 E) ∧ Rd w w' p q cb (.slice A c.b.length cm) c c.b d2 d) := fun W h => by
                have h2 := bt_append_p h.bt HG.out.ok h.size A cm c.b h.mine (by have := H5.out; omega)
                rw [hd2, hE] at h2
                exact h2.mono fun _ w' hh => ⟨hh.1, h.step hh.2.1 hh.2.2.1 hh.2.2.2⟩
              have CR : ∀ W, Rd w W p q cb (.slice A c.b.length cm) c c.b d2 d → Hid (Calls Try.prog 14 #[.pointer (some ⟨q, 0, none⟩), .slice c.A c.b.length c.c] W fun x w' => x = .returned (.int .i64 E) ∧ Rd w w' p q cb (.slice A c.b.length cm) c c.b d2 d2) := fun W h => by
                have h2 := bt_append_r (d := d2) (e := d) h.bt HG.out.ok HG.out.st h.size c.A c.c c.b (h.argq OK.out) (by have := H5.out; omega)
                rw [hd2, hE] at h2
                exact h2.mono fun _ w' hh => ⟨hh.1, h.step hh.2.1 hh.2.2.1 hh.2.2.2⟩
              have G2 : Hid (Gone d2 (i + 1)) := hd2 ▸ gone_append HG.out (by omega) c.b
              clear hd2 f0 f1 f2 m1 m2 HM hE
              clear HG
              go_upto_region 17 with fail
              have R0 := RD.out.drew
              refine wp_region_late [(6, fun V => V.cell? ⟨cb, 2, none⟩ = some (.slice c.A c.b.length c.c))] (by kernel_rfl) ?_
              refine wpAnyT_pure (i := 0) (oi := { dst := some 69, op := Op.move (Operand.tmp 5), type := 24, pos := "law.go:55", after := #[], guard := none }) (v := ?_) rfl (by kernel_rfl) (by kernel_rfl) (by kernel_rfl) (by kernel_rfl) (fun _ _ _ h => h) (Or.inl ⟨by rfl, ?_⟩) (holds1 (fun _ => R0.cells.2.2)) ?_
              rotate_left
              · (intro W; go_simp; try with_reducible rfl)
              try simp only [Act.put, List.setIfInBounds_toArray, List.set_cons_zero, List.set_cons_succ]
              refine wpAnyT_pure (i := 1) (oi := { dst := some 70, op := Op.move (Operand.tmp 11), type := 31, pos := "law.go:55", after := #[], guard := none }) (v := ?_) rfl (by kernel_rfl) (by kernel_rfl) (by kernel_rfl) (by kernel_rfl) (fun _ _ _ h => h) (Or.inl ⟨by rfl, ?_⟩) (holds1 (fun _ => R0.cells.2.2)) ?_
              rotate_left
              · (intro W; go_simp; try with_reducible rfl)
              try simp only [Act.put, List.setIfInBounds_toArray, List.set_cons_zero, List.set_cons_succ]
              refine wpAnyT_pure (i := 3) (oi := { dst := some 72, op := Op.move (Operand.tmp 7), type := 28, pos := "law.go:55", after := #[], guard := none }) (v := ?_) rfl (by kernel_rfl) (by kernel_rfl) (by kernel_rfl) (by kernel_rfl) (fun _ _ _ h => h) (Or.inl ⟨by rfl, ?_⟩) (holds1 (fun _ => R0.cells.2.2)) ?_
              rotate_left
              · (intro W; go_simp; try with_reducible rfl)
              try simp only [Act.put, List.setIfInBounds_toArray, List.set_cons_zero, List.set_cons_succ]
              refine wpAnyT_pure (i := 4) (oi := { dst := some 73, op := Op.fieldAddr 33 (Operand.tmp 10) 2, type := 0, pos := "law.go:55", after := #[], guard := none }) (v := ?_) rfl (by kernel_rfl) (by kernel_rfl) (by kernel_rfl) (by kernel_rfl) (fun _ _ _ h => h) (Or.inl ⟨by rfl, ?_⟩) (holds1 (fun _ => R0.cells.2.2)) ?_
              rotate_left
              · (intro W; go_simp; try with_reducible rfl)
              try simp only [Act.put, List.setIfInBounds_toArray, List.set_cons_zero, List.set_cons_succ]
              refine wpAnyT_take 4 6 (i := 5) (oi := { dst := some 74, op := Op.load 31 (Operand.tmp 73), type := 31, pos := "law.go:55", after := #[{ on := 4, ground := Ground.data }], guard := none }) (v := ?_) (.head _) rfl (by kernel_rfl) (by kernel_rfl) (by kernel_rfl) (by kernel_rfl) (by kernel_rfl) (by kernel_rfl) (by rfl) (fun _ _ _ h => h) (by rfl) ?_ (holds1 (fun _ => R0.cells.2.2)) ?_
              rotate_left
              · (intro W hSw; (try dsimp only at hSw); go_simp; try with_reducible rfl)
              try simp only [Act.put, List.setIfInBounds_toArray, List.set_cons_zero, List.set_cons_succ]
              refine wpAnyT_ready (rs := [2]) (by kernel_rfl) (by simp) (AllT.cons (o := { dst := some 71, op := Op.call { callee := Callee.value (Operand.func 13), args := #[Operand.tmp 69, Operand.tmp 70], argTypes := #[24, 31] }, type := 25, pos := "law.go:55", after := #[{ on := 0, ground := Ground.data }, { on := 1, ground := Ground.data }], guard := none }) rfl (fun K hK => ?_) AllT.nil)
              go_simp
              go_at_call 13
              refine (CP _ R0).out.mono ?_
              rintro _ v1 ⟨rfl, R1⟩
              refine hK.out _ _ (holds1 (fun _ => R1.cells.2.2)) ?_
              clear hK K
              try simp only [Act.put, List.setIfInBounds_toArray, List.set_cons_zero, List.set_cons_succ]
              refine wpAnyT_ready (rs := [6]) (by kernel_rfl) (by simp) (AllT.cons (o := { dst := some 75, op := Op.call { callee := Callee.value (Operand.func 14), args := #[Operand.tmp 72, Operand.tmp 74], argTypes := #[28, 31] }, type := 3, pos := "law.go:55", after := #[{ on := 3, ground := Ground.data }, { on := 5, ground := Ground.data }, { on := 2, ground := Ground.chain }], guard := none }) rfl (fun K hK => ?_) AllT.nil)
              go_simp
              go_at_call 14
              refine (CR _ R1).out.mono ?_
              rintro _ v2 ⟨rfl, R2⟩
              refine hK.out _ _ (holds1 (late_no (by kernel_rfl))) ?_
              clear hK K
              try simp only [Act.put, List.setIfInBounds_toArray, List.set_cons_zero, List.set_cons_succ]
              refine wpAnyT_pure (i := 7) (oi := { dst := some 12, op := Op.assign (Operand.tmp 71), type := 25, pos := "law.go:55", after := #[{ on := 2, ground := Ground.data }, { on := 6, ground := Ground.chain }, { on := 0, ground := Ground.phase }, { on := 1, ground := Ground.phase }, { on := 2, ground := Ground.phase }, { on := 3, ground := Ground.textOnly Departure.lateStores }, { on := 4, ground := Ground.textOnly Departure.lateStores }, { on := 5, ground := Ground.textOnly Departure.lateStores }, { on := 6, ground := Ground.textOnly Departure.lateStoresUnsure }], guard := none }) (v := ?_) rfl (by kernel_rfl) (by kernel_rfl) (by kernel_rfl) (by kernel_rfl) (fun _ _ _ h => h) (Or.inl ⟨by rfl, ?_⟩) (holds1 (late_no (by kernel_rfl))) ?_
              rotate_left
              · (intro W; go_simp; try with_reducible rfl)
              try simp only [Act.put, List.setIfInBounds_toArray, List.set_cons_zero, List.set_cons_succ]
              refine wpAnyT_pure (i := 8) (oi := { dst := some 13, op := Op.assign (Operand.tmp 75), type := 3, pos := "law.go:55", after := #[{ on := 6, ground := Ground.data }, { on := 7, ground := Ground.chain }, { on := 0, ground := Ground.phase }, { on := 1, ground := Ground.phase }, { on := 2, ground := Ground.phase }, { on := 3, ground := Ground.phase }, { on := 4, ground := Ground.phase }, { on := 5, ground := Ground.phase }, { on := 6, ground := Ground.phase }, { on := 7, ground := Ground.phase }], guard := none }) (v := ?_) rfl (by kernel_rfl) (by kernel_rfl) (by kernel_rfl) (by kernel_rfl) (fun _ _ _ h => h) (Or.inl ⟨by rfl, ?_⟩) (holds1 (late_no (by kernel_rfl))) ?_
              rotate_left
              · (intro W; go_simp; try with_reducible rfl)
              try simp only [Act.put, List.setIfInBounds_toArray, List.set_cons_zero, List.set_cons_succ]
              refine wpAnyT_done (by kernel_rfl) ?_ _
              have R2 := Lib.hid R2
              clear R0 R1
              go_wp2_with fail
              go_meet
              exact ⟨E, d2, rfl, rfl, R2, G2⟩
          · as_aux_lemma =>
              obtain ⟨d2, hd2⟩ : ∃ x, syncS d = x := ⟨_, rfl⟩
              obtain ⟨E, hE⟩ : ∃ x, syncE d = x := ⟨_, rfl⟩
              have CP : ∀ W, Rd w W p q cb (.slice A c.b.length cm) c c.b d d → Hid (Calls Try.prog 15 #[.pointer (some ⟨p, 0, none⟩)] W fun x w' => x = .returned (.int .i64 E) ∧ Rd w w' p q cb (.slice A c.b.length cm) c c.b d2 d) := fun W h => by
                have h2 := bt_sync_p h.bt HG.out.ok h.size
                rw [hd2, hE] at h2
                exact h2.mono fun _ w' hh => ⟨hh.1, h.step hh.2.1 hh.2.2.1 hh.2.2.2⟩
              have CR : ∀ W, Rd w W p q cb (.slice A c.b.length cm) c c.b d2 d → Hid (Calls Try.prog 16 #[.pointer (some ⟨q, 0, none⟩)] W fun x w' => x = .returned (.int .i64 E) ∧ Rd w w' p q cb (.slice A c.b.length cm) c c.b d2 d2) := fun W h => by
                have h2 := bt_sync_r (d := d2) (e := d) h.bt HG.out.ok HG.out.st h.size
                rw [hd2, hE] at h2
                exact h2.mono fun _ w' hh => ⟨hh.1, h.step hh.2.1 hh.2.2.1 hh.2.2.2⟩
              have G2 : Hid (Gone d2 (i + 1)) := hd2 ▸ gone_sync HG.out (by omega)
              clear hd2 f0 f1 f2 m1 m2 HM hE
              clear HG
              obtain ⟨f0, f1, f2⟩ := RD.out.cells
              go_wp2_with fail
              refine (CP _ RD.out).out.mono ?_
              rintro _ v1 ⟨rfl, R1⟩
              have R1 := Lib.hid R1
              clear f0 f1 f2
              obtain ⟨f0, f1, f2⟩ := R1.out.cells
              go_wp2_with fail
              refine (CR _ R1.out).out.mono ?_
              rintro _ v2 ⟨rfl, R2⟩
              have R2 := Lib.hid R2
              clear f0 f1 f2
              go_wp2_with fail
              go_meet
              exact ⟨E, d2, rfl, rfl, R2, G2⟩
          · as_aux_lemma =>
              obtain ⟨d2, hd2⟩ : ∃ x, stopS d c.n = x := ⟨_, rfl⟩
              have CP : ∀ W, Rd w W p q cb (.slice A c.b.length cm) c c.b d d → Hid (Calls Try.prog 17 #[.pointer (some ⟨p, 0, none⟩), .int .i64 c.n] W fun x w' => x = .returned (.tuple #[]) ∧ Rd w w' p q cb (.slice A c.b.length cm) c c.b d2 d) := fun W h => by
                have h2 := bt_stop_p h.bt h.size c.n
                rw [hd2] at h2
                exact h2.mono fun _ w' hh => ⟨hh.1, h.step hh.2.1 hh.2.2.1 hh.2.2.2⟩
              have CR : ∀ W, Rd w W p q cb (.slice A c.b.length cm) c c.b d2 d → Hid (Calls Try.prog 18 #[.pointer (some ⟨q, 0, none⟩), .int .i64 c.n] W fun x w' => x = .returned (.tuple #[]) ∧ Rd w w' p q cb (.slice A c.b.length cm) c c.b d2 d2) := fun W h => by
                have h2 := bt_stop_r (d := d2) (e := d) h.bt h.size c.n OK.out.n.1 OK.out.n.2
                rw [hd2] at h2
                exact h2.mono fun _ w' hh => ⟨hh.1, h.step hh.2.1 hh.2.2.1 hh.2.2.2⟩
              have G2 : Hid (Gone d2 (i + 1)) := hd2 ▸ gone_stop HG.out c.n OK.out.n.1 OK.out.n.2
              clear hd2 f0 f1 f2 m1 m2 HM
              clear HG
              obtain ⟨f0, f1, f2⟩ := RD.out.cells
              go_wp2_with fail
              refine (CP _ RD.out).out.mono ?_
              rintro _ v1 ⟨rfl, R1⟩
              have R1 := Lib.hid R1
              clear f0 f1 f2
              obtain ⟨f0, f1, f2⟩ := R1.out.cells
              go_wp2_with fail
              refine (CR _ R1.out).out.mono ?_
              rintro _ v2 ⟨rfl, R2⟩
              have R2 := Lib.hid R2
              clear f0 f1 f2
              go_wp2_with fail
              go_meet
              exact ⟨0, d2, rfl, rfl, R2, G2⟩
          · as_aux_lemma =>
              obtain ⟨d2, hd2⟩ : ∃ x, crashS d c.n = x := ⟨_, rfl⟩
              obtain ⟨E, hE⟩ : ∃ x, crashK d c.n = x := ⟨_, rfl⟩
              have CP : ∀ W, Rd w W p q cb (.slice A c.b.length cm) c c.b d d → Hid (Calls Try.prog 19 #[.pointer (some ⟨p, 0, none⟩), .int .i64 c.n] W fun x w' => x = .returned (.int .i64 E) ∧ Rd w w' p q cb (.slice A c.b.length cm) c c.b d2 d) := fun W h => by
                have h2 := bt_crash_p h.bt HG.out.ok h.size c.n OK.out.n.1 OK.out.n.2
                rw [hd2, hE] at h2
                exact h2.mono fun _ w' hh => ⟨hh.1, h.step hh.2.1 hh.2.2.1 hh.2.2.2⟩
              have CR : ∀ W, Rd w W p q cb (.slice A c.b.length cm) c c.b d2 d → Hid (Calls Try.prog 20 #[.pointer (some ⟨q, 0, none⟩), .int .i64 c.n] W fun x w' => x = .returned (.int .i64 E) ∧ Rd w w' p q cb (.slice A c.b.length cm) c c.b d2 d2) := fun W h => by
                have h2 := bt_crash_r (d := d2) (e := d) h.bt HG.out.ok h.size c.n OK.out.n.1 OK.out.n.2
                rw [hd2, hE] at h2
                exact h2.mono fun _ w' hh => ⟨hh.1, h.step hh.2.1 hh.2.2.1 hh.2.2.2⟩
              have G2 : Hid (Gone d2 (i + 1)) := hd2 ▸ gone_crash HG.out c.n
              clear hd2 f0 f1 f2 m1 m2 HM hE
              clear HG
              go_upto_region 24 with fail
              have R0 := RD.out.drew
              refine wp_region_late [(7, fun V => V.cell? ⟨cb, 1, none⟩ = some (.int .i64 c.n))] (by kernel_rfl) ?_
              refine wpAnyT_pure (i := 0) (oi := { dst := some 94, op := Op.move (Operand.tmp 5), type := 24, pos := "law.go:62", after := #[], guard := none }) (v := ?_) rfl (by kernel_rfl) (by kernel_rfl) (by kernel_rfl) (by kernel_rfl) (fun _ _ _ h => h) (Or.inl ⟨by rfl, ?_⟩) (holds1 (fun _ => R0.cells.2.1)) ?_
              rotate_left
              · (intro W; go_simp; try with_reducible rfl)
              try simp only [Act.put, List.setIfInBounds_toArray, List.set_cons_zero, List.set_cons_succ]
              refine wpAnyT_pure (i := 1) (oi := { dst := some 95, op := Op.fieldAddr 33 (Operand.tmp 10) 1, type := 0, pos := "law.go:62", after := #[], guard := none }) (v := ?_) rfl (by kernel_rfl) (by kernel_rfl) (by kernel_rfl) (by kernel_rfl) (fun _ _ _ h => h) (Or.inl ⟨by rfl, ?_⟩) (holds1 (fun _ => R0.cells.2.1)) ?_
              rotate_left
              · (intro W; go_simp; try with_reducible rfl)
              try simp only [Act.put, List.setIfInBounds_toArray, List.set_cons_zero, List.set_cons_succ]
              refine wpAnyT_take 4 7 (i := 2) (oi := { dst := some 96, op := Op.load 3 (Operand.tmp 95), type := 3, pos := "law.go:62", after := #[{ on := 1, ground := Ground.data }], guard := none }) (v := ?_) (.head _) rfl (by kernel_rfl) (by kernel_rfl) (by kernel_rfl) (by kernel_rfl) (by kernel_rfl) (by kernel_rfl) (by rfl) (fun _ _ _ h => h) (by rfl) ?_ (holds1 (fun _ => R0.cells.2.1)) ?_
              rotate_left
              · (intro W hSw; (try dsimp only at hSw); go_simp; try with_reducible rfl)
              try simp only [Act.put, List.setIfInBounds_toArray, List.set_cons_zero, List.set_cons_succ]
              refine wpAnyT_pure (i := 4) (oi := { dst := some 98, op := Op.move (Operand.tmp 7), type := 28, pos := "law.go:62", after := #[], guard := none }) (v := ?_) rfl (by kernel_rfl) (by kernel_rfl) (by kernel_rfl) (by kernel_rfl) (fun _ _ _ h => h) (Or.inl ⟨by rfl, ?_⟩) (holds1 (fun _ => R0.cells.2.1)) ?_
              rotate_left
              · (intro W; go_simp; try with_reducible rfl)
              try simp only [Act.put, List.setIfInBounds_toArray, List.set_cons_zero, List.set_cons_succ]
              refine wpAnyT_pure (i := 5) (oi := { dst := some 99, op := Op.fieldAddr 33 (Operand.tmp 10) 1, type := 0, pos := "law.go:62", after := #[], guard := none }) (v := ?_) rfl (by kernel_rfl) (by kernel_rfl) (by kernel_rfl) (by kernel_rfl) (fun _ _ _ h => h) (Or.inl ⟨by rfl, ?_⟩) (holds1 (fun _ => R0.cells.2.1)) ?_
              rotate_left
              · (intro W; go_simp; try with_reducible rfl)
              try simp only [Act.put, List.setIfInBounds_toArray, List.set_cons_zero, List.set_cons_succ]
              refine wpAnyT_take 4 7 (i := 6) (oi := { dst := some 100, op := Op.load 3 (Operand.tmp 99), type := 3, pos := "law.go:62", after := #[{ on := 5, ground := Ground.data }], guard := none }) (v := ?_) (.head _) rfl (by kernel_rfl) (by kernel_rfl) (by kernel_rfl) (by kernel_rfl) (by kernel_rfl) (by kernel_rfl) (by rfl) (fun _ _ _ h => h) (by rfl) ?_ (holds1 (fun _ => R0.cells.2.1)) ?_
              rotate_left
              · (intro W hSw; (try dsimp only at hSw); go_simp; try with_reducible rfl)
              try simp only [Act.put, List.setIfInBounds_toArray, List.set_cons_zero, List.set_cons_succ]
              refine wpAnyT_ready (rs := [3]) (by kernel_rfl) (by simp) (AllT.cons (o := { dst := some 97, op := Op.call { callee := Callee.value (Operand.func 19), args := #[Operand.tmp 94, Operand.tmp 96], argTypes := #[24, 3] }, type := 3, pos := "law.go:62", after := #[{ on := 0, ground := Ground.data }, { on := 2, ground := Ground.data }], guard := none }) rfl (fun K hK => ?_) AllT.nil)
              go_simp
              go_at_call 19
              refine (CP _ R0).out.mono ?_
              rintro _ v1 ⟨rfl, R1⟩
              refine hK.out _ _ (holds1 (fun _ => R1.cells.2.1)) ?_
              clear hK K
              try simp only [Act.put, List.setIfInBounds_toArray, List.set_cons_zero, List.set_cons_succ]
              refine wpAnyT_ready (rs := [7]) (by kernel_rfl) (by simp) (AllT.cons (o := { dst := some 101, op := Op.call { callee := Callee.value (Operand.func 20), args := #[Operand.tmp 98, Operand.tmp 100], argTypes := #[28, 3] }, type := 3, pos := "law.go:62", after := #[{ on := 4, ground := Ground.data }, { on := 6, ground := Ground.data }, { on := 3, ground := Ground.chain }], guard := none }) rfl (fun K hK => ?_) AllT.nil)
              go_simp
              go_at_call 20
              refine (CR _ R1).out.mono ?_
              rintro _ v2 ⟨rfl, R2⟩
              refine hK.out _ _ (holds1 (late_no (by kernel_rfl))) ?_
              clear hK K
              try simp only [Act.put, List.setIfInBounds_toArray, List.set_cons_zero, List.set_cons_succ]
              refine wpAnyT_pure (i := 8) (oi := { dst := some 102, op := Op.binOp BinOp.neq 3 (Operand.tmp 97) (Operand.tmp 101) 3, type := 4, pos := "law.go:62", after := #[{ on := 3, ground := Ground.data }, { on := 7, ground := Ground.data }], guard := none }) (v := ?_) rfl (by kernel_rfl) (by kernel_rfl) (by kernel_rfl) (by kernel_rfl) (fun _ _ _ h => h) (Or.inl ⟨by rfl, ?_⟩) (holds1 (late_no (by kernel_rfl))) ?_
              rotate_left
              · (intro W; go_simp; try with_reducible rfl)
              try simp only [Act.put, List.setIfInBounds_toArray, List.set_cons_zero, List.set_cons_succ]
              refine wpAnyT_done (by kernel_rfl) ?_ _
              have R2 := Lib.hid R2
              clear R0 R1
              have hkk : (E != E) = false := by simp
              go_wp2_with fail
              go_meet
              exact ⟨0, d2, rfl, rfl, R2, G2⟩
          · as_aux_lemma =>
              obtain ⟨d2, hd2⟩ : ∃ x, swapS d c.b = x := ⟨_, rfl⟩
              obtain ⟨E, hE⟩ : ∃ x, swapE d c.b = x := ⟨_, rfl⟩
              have CP : ∀ W, Rd w W p q cb (.slice A c.b.length cm) c c.b d d → Hid (Calls Try.prog 21 #[.pointer (some ⟨p, 0, none⟩), (.slice A c.b.length cm)] W fun x w' => x = .returned (.int .i64 E) ∧ Rd w w' p q cb (.slice A c.b.length cm) c c.b d2 d) := fun W h => by
                have h2 := bt_swap_p h.bt HG.out.ok h.size A cm c.b h.minep (by have := H5.out; omega)
                rw [hd2, hE] at h2
                exact h2.mono fun _ w' hh => ⟨hh.1, h.step hh.2.1 hh.2.2.1 hh.2.2.2⟩
              have CR : ∀ W, Rd w W p q cb (.slice A c.b.length cm) c c.b d2 d → Hid (Calls Try.prog 22 #[.pointer (some ⟨q, 0, none⟩), .slice c.A c.b.length c.c] W fun x w' => x = .returned (.int .i64 E) ∧ Rd w w' p q cb (.slice A c.b.length cm) c c.b d2 d2) := fun W h => by
                have h2 := bt_swap_r (d := d2) (e := d) h.bt HG.out.ok HG.out.st h.size c.A c.c c.b (h.argq OK.out) (by have := H5.out; omega)
                rw [hd2, hE] at h2
                exact h2.mono fun _ w' hh => ⟨hh.1, h.step hh.2.1 hh.2.2.1 hh.2.2.2⟩
              have G2 : Hid (Gone d2 (i + 1)) := hd2 ▸ gone_swap HG.out (by omega) c.b
              clear hd2 f0 f1 f2 m1 m2 HM hE
              clear HG
              go_upto_region 27 with fail
              have R0 := RD.out.drew
              refine wp_region_late [(6, fun V => V.cell? ⟨cb, 2, none⟩ = some (.slice c.A c.b.length c.c))] (by kernel_rfl) ?_
              refine wpAnyT_pure (i := 0) (oi := { dst := some 105, op := Op.move (Operand.tmp 5), type := 24, pos := "law.go:66", after := #[], guard := none }) (v := ?_) rfl (by kernel_rfl) (by kernel_rfl) (by kernel_rfl) (by kernel_rfl) (fun _ _ _ h => h) (Or.inl ⟨by rfl, ?_⟩) (holds1 (fun _ => R0.cells.2.2)) ?_
              rotate_left
              · (intro W; go_simp; try with_reducible rfl)
              try simp only [Act.put, List.setIfInBounds_toArray, List.set_cons_zero, List.set_cons_succ]
              refine wpAnyT_pure (i := 1) (oi := { dst := some 106, op := Op.move (Operand.tmp 11), type := 31, pos := "law.go:66", after := #[], guard := none }) (v := ?_) rfl (by kernel_rfl) (by kernel_rfl) (by kernel_rfl) (by kernel_rfl) (fun _ _ _ h => h) (Or.inl ⟨by rfl, ?_⟩) (holds1 (fun _ => R0.cells.2.2)) ?_
              rotate_left
              · (intro W; go_simp; try with_reducible rfl)
              try simp only [Act.put, List.setIfInBounds_toArray, List.set_cons_zero, List.set_cons_succ]
              refine wpAnyT_pure (i := 3) (oi := { dst := some 108, op := Op.move (Operand.tmp 7), type := 28, pos := "law.go:66", after := #[], guard := none }) (v := ?_) rfl (by kernel_rfl) (by kernel_rfl) (by kernel_rfl) (by kernel_rfl) (fun _ _ _ h => h) (Or.inl ⟨by rfl, ?_⟩) (holds1 (fun _ => R0.cells.2.2)) ?_
              rotate_left
              · (intro W; go_simp; try with_reducible rfl)
              try simp only [Act.put, List.setIfInBounds_toArray, List.set_cons_zero, List.set_cons_succ]
              refine wpAnyT_pure (i := 4) (oi := { dst := some 109, op := Op.fieldAddr 33 (Operand.tmp 10) 2, type := 0, pos := "law.go:66", after := #[], guard := none }) (v := ?_) rfl (by kernel_rfl) (by kernel_rfl) (by kernel_rfl) (by kernel_rfl) (fun _ _ _ h => h) (Or.inl ⟨by rfl, ?_⟩) (holds1 (fun _ => R0.cells.2.2)) ?_
              rotate_left
              · (intro W; go_simp; try with_reducible rfl)
              try simp only [Act.put, List.setIfInBounds_toArray, List.set_cons_zero, List.set_cons_succ]
              refine wpAnyT_take 4 6 (i := 5) (oi := { dst := some 110, op := Op.load 31 (Operand.tmp 109), type := 31, pos := "law.go:66", after := #[{ on := 4, ground := Ground.data }], guard := none }) (v := ?_) (.head _) rfl (by kernel_rfl) (by kernel_rfl) (by kernel_rfl) (by kernel_rfl) (by kernel_rfl) (by kernel_rfl) (by rfl) (fun _ _ _ h => h) (by rfl) ?_ (holds1 (fun _ => R0.cells.2.2)) ?_
              rotate_left
              · (intro W hSw; (try dsimp only at hSw); go_simp; try with_reducible rfl)
              try simp only [Act.put, List.setIfInBounds_toArray, List.set_cons_zero, List.set_cons_succ]
              refine wpAnyT_ready (rs := [2]) (by kernel_rfl) (by simp) (AllT.cons (o := { dst := some 107, op := Op.call { callee := Callee.value (Operand.func 21), args := #[Operand.tmp 105, Operand.tmp 106], argTypes := #[24, 31] }, type := 25, pos := "law.go:66", after := #[{ on := 0, ground := Ground.data }, { on := 1, ground := Ground.data }], guard := none }) rfl (fun K hK => ?_) AllT.nil)
              go_simp
              go_at_call 21
              refine (CP _ R0).out.mono ?_
              rintro _ v1 ⟨rfl, R1⟩
              refine hK.out _ _ (holds1 (fun _ => R1.cells.2.2)) ?_
              clear hK K
              try simp only [Act.put, List.setIfInBounds_toArray, List.set_cons_zero, List.set_cons_succ]
              refine wpAnyT_ready (rs := [6]) (by kernel_rfl) (by simp) (AllT.cons (o := { dst := some 111, op := Op.call { callee := Callee.value (Operand.func 22), args := #[Operand.tmp 108, Operand.tmp 110], argTypes := #[28, 31] }, type := 3, pos := "law.go:66", after := #[{ on := 3, ground := Ground.data }, { on := 5, ground := Ground.data }, { on := 2, ground := Ground.chain }], guard := none }) rfl (fun K hK => ?_) AllT.nil)
              go_simp
              go_at_call 22
              refine (CR _ R1).out.mono ?_
              rintro _ v2 ⟨rfl, R2⟩
              refine hK.out _ _ (holds1 (late_no (by kernel_rfl))) ?_
              clear hK K
              try simp only [Act.put, List.setIfInBounds_toArray, List.set_cons_zero, List.set_cons_succ]
              refine wpAnyT_pure (i := 7) (oi := { dst := some 12, op := Op.assign (Operand.tmp 107), type := 25, pos := "law.go:66", after := #[{ on := 2, ground := Ground.data }, { on := 6, ground := Ground.chain }, { on := 0, ground := Ground.phase }, { on := 1, ground := Ground.phase }, { on := 2, ground := Ground.phase }, { on := 3, ground := Ground.textOnly Departure.lateStores }, { on := 4, ground := Ground.textOnly Departure.lateStores }, { on := 5, ground := Ground.textOnly Departure.lateStores }, { on := 6, ground := Ground.textOnly Departure.lateStoresUnsure }], guard := none }) (v := ?_) rfl (by kernel_rfl) (by kernel_rfl) (by kernel_rfl) (by kernel_rfl) (fun _ _ _ h => h) (Or.inl ⟨by rfl, ?_⟩) (holds1 (late_no (by kernel_rfl))) ?_
              rotate_left
              · (intro W; go_simp; try with_reducible rfl)
              try simp only [Act.put, List.setIfInBounds_toArray, List.set_cons_zero, List.set_cons_succ]
              refine wpAnyT_pure (i := 8) (oi := { dst := some 13, op := Op.assign (Operand.tmp 111), type := 3, pos := "law.go:66", after := #[{ on := 6, ground := Ground.data }, { on := 7, ground := Ground.chain }, { on := 0, ground := Ground.phase }, { on := 1, ground := Ground.phase }, { on := 2, ground := Ground.phase }, { on := 3, ground := Ground.phase }, { on := 4, ground := Ground.phase }, { on := 5, ground := Ground.phase }, { on := 6, ground := Ground.phase }, { on := 7, ground := Ground.phase }], guard := none }) (v := ?_) rfl (by kernel_rfl) (by kernel_rfl) (by kernel_rfl) (by kernel_rfl) (fun _ _ _ h => h) (Or.inl ⟨by rfl, ?_⟩) (holds1 (late_no (by kernel_rfl))) ?_
              rotate_left
              · (intro W; go_simp; try with_reducible rfl)
              try simp only [Act.put, List.setIfInBounds_toArray, List.set_cons_zero, List.set_cons_succ]
              refine wpAnyT_done (by kernel_rfl) ?_ _
              have R2 := Lib.hid R2
              clear R0 R1
              go_wp2_with fail
              go_meet
              exact ⟨E, d2, rfl, rfl, R2, G2⟩
          · as_aux_lemma =>
              obtain ⟨d2, hd2⟩ : ∃ x, cutS d c.n = x := ⟨_, rfl⟩
              obtain ⟨E, hE⟩ : ∃ x, cutE d c.n = x := ⟨_, rfl⟩
              have CP : ∀ W, Rd w W p q cb (.slice A c.b.length cm) c c.b d d → Hid (Calls Try.prog 23 #[.pointer (some ⟨p, 0, none⟩), .int .i64 c.n] W fun x w' => x = .returned (.int .i64 E) ∧ Rd w w' p q cb (.slice A c.b.length cm) c c.b d2 d) := fun W h => by
                have h2 := bt_cut_p h.bt HG.out.ok h.size c.n
                rw [hd2, hE] at h2
                exact h2.mono fun _ w' hh => ⟨hh.1, h.step hh.2.1 hh.2.2.1 hh.2.2.2⟩
              have CR : ∀ W, Rd w W p q cb (.slice A c.b.length cm) c c.b d2 d → Hid (Calls Try.prog 24 #[.pointer (some ⟨q, 0, none⟩), .int .i64 c.n] W fun x w' => x = .returned (.int .i64 E) ∧ Rd w w' p q cb (.slice A c.b.length cm) c c.b d2 d2) := fun W h => by
                have h2 := bt_cut_r (d := d2) (e := d) h.bt HG.out.ok HG.out.st h.size c.n
                rw [hd2, hE] at h2
                exact h2.mono fun _ w' hh => ⟨hh.1, h.step hh.2.1 hh.2.2.1 hh.2.2.2⟩
              have G2 : Hid (Gone d2 (i + 1)) := hd2 ▸ gone_cut HG.out (by omega) c.n
              clear hd2 f0 f1 f2 m1 m2 HM hE
              clear HG
              go_upto_region 29 with fail
              have R0 := RD.out.drew
              refine wp_region_late [(7, fun V => V.cell? ⟨cb, 1, none⟩ = some (.int .i64 c.n))] (by kernel_rfl) ?_
              refine wpAnyT_pure (i := 0) (oi := { dst := some 114, op := Op.move (Operand.tmp 5), type := 24, pos := "law.go:68", after := #[], guard := none }) (v := ?_) rfl (by kernel_rfl) (by kernel_rfl) (by kernel_rfl) (by kernel_rfl) (fun _ _ _ h => h) (Or.inl ⟨by rfl, ?_⟩) (holds1 (fun _ => R0.cells.2.1)) ?_
              rotate_left
              · (intro W; go_simp; try with_reducible rfl)
              try simp only [Act.put, List.setIfInBounds_toArray, List.set_cons_zero, List.set_cons_succ]
              refine wpAnyT_pure (i := 1) (oi := { dst := some 115, op := Op.fieldAddr 33 (Operand.tmp 10) 1, type := 0, pos := "law.go:68", after := #[], guard := none }) (v := ?_) rfl (by kernel_rfl) (by kernel_rfl) (by kernel_rfl) (by kernel_rfl) (fun _ _ _ h => h) (Or.inl ⟨by rfl, ?_⟩) (holds1 (fun _ => R0.cells.2.1)) ?_
              rotate_left
              · (intro W; go_simp; try with_reducible rfl)
              try simp only [Act.put, List.setIfInBounds_toArray, List.set_cons_zero, List.set_cons_succ]
              refine wpAnyT_take 4 7 (i := 2) (oi := { dst := some 116, op := Op.load 3 (Operand.tmp 115), type := 3, pos := "law.go:68", after := #[{ on := 1, ground := Ground.data }], guard := none }) (v := ?_) (.head _) rfl (by kernel_rfl) (by kernel_rfl) (by kernel_rfl) (by kernel_rfl) (by kernel_rfl) (by kernel_rfl) (by rfl) (fun _ _ _ h => h) (by rfl) ?_ (holds1 (fun _ => R0.cells.2.1)) ?_
              rotate_left
              · (intro W hSw; (try dsimp only at hSw); go_simp; try with_reducible rfl)
              try simp only [Act.put, List.setIfInBounds_toArray, List.set_cons_zero, List.set_cons_succ]
              refine wpAnyT_pure (i := 4) (oi := { dst := some 118, op := Op.move (Operand.tmp 7), type := 28, pos := "law.go:68", after := #[], guard := none }) (v := ?_) rfl (by kernel_rfl) (by kernel_rfl) (by kernel_rfl) (by kernel_rfl) (fun _ _ _ h => h) (Or.inl ⟨by rfl, ?_⟩) (holds1 (fun _ => R0.cells.2.1)) ?_
              rotate_left
              · (intro W; go_simp; try with_reducible rfl)
              try simp only [Act.put, List.setIfInBounds_toArray, List.set_cons_zero, List.set_cons_succ]
              refine wpAnyT_pure (i := 5) (oi := { dst := some 119, op := Op.fieldAddr 33 (Operand.tmp 10) 1, type := 0, pos := "law.go:68", after := #[], guard := none }) (v := ?_) rfl (by kernel_rfl) (by kernel_rfl) (by kernel_rfl) (by kernel_rfl) (fun _ _ _ h => h) (Or.inl ⟨by rfl, ?_⟩) (holds1 (fun _ => R0.cells.2.1)) ?_
              rotate_left
              · (intro W; go_simp; try with_reducible rfl)
              try simp only [Act.put, List.setIfInBounds_toArray, List.set_cons_zero, List.set_cons_succ]
              refine wpAnyT_take 4 7 (i := 6) (oi := { dst := some 120, op := Op.load 3 (Operand.tmp 119), type := 3, pos := "law.go:68", after := #[{ on := 5, ground := Ground.data }], guard := none }) (v := ?_) (.head _) rfl (by kernel_rfl) (by kernel_rfl) (by kernel_rfl) (by kernel_rfl) (by kernel_rfl) (by kernel_rfl) (by rfl) (fun _ _ _ h => h) (by rfl) ?_ (holds1 (fun _ => R0.cells.2.1)) ?_
              rotate_left
              · (intro W hSw; (try dsimp only at hSw); go_simp; try with_reducible rfl)
              try simp only [Act.put, List.setIfInBounds_toArray, List.set_cons_zero, List.set_cons_succ]
              refine wpAnyT_ready (rs := [3]) (by kernel_rfl) (by simp) (AllT.cons (o := { dst := some 117, op := Op.call { callee := Callee.value (Operand.func 23), args := #[Operand.tmp 114, Operand.tmp 116], argTypes := #[24, 3] }, type := 25, pos := "law.go:68", after := #[{ on := 0, ground := Ground.data }, { on := 2, ground := Ground.data }], guard := none }) rfl (fun K hK => ?_) AllT.nil)
              go_simp
              go_at_call 23
              refine (CP _ R0).out.mono ?_
              rintro _ v1 ⟨rfl, R1⟩
              refine hK.out _ _ (holds1 (fun _ => R1.cells.2.1)) ?_
              clear hK K
              try simp only [Act.put, List.setIfInBounds_toArray, List.set_cons_zero, List.set_cons_succ]
              refine wpAnyT_ready (rs := [7]) (by kernel_rfl) (by simp) (AllT.cons (o := { dst := some 121, op := Op.call { callee := Callee.value (Operand.func 24), args := #[Operand.tmp 118, Operand.tmp 120], argTypes := #[28, 3] }, type := 3, pos := "law.go:68", after := #[{ on := 4, ground := Ground.data }, { on := 6, ground := Ground.data }, { on := 3, ground := Ground.chain }], guard := none }) rfl (fun K hK => ?_) AllT.nil)
              go_simp
              go_at_call 24
              refine (CR _ R1).out.mono ?_
              rintro _ v2 ⟨rfl, R2⟩
              refine hK.out _ _ (holds1 (late_no (by kernel_rfl))) ?_
              clear hK K
              try simp only [Act.put, List.setIfInBounds_toArray, List.set_cons_zero, List.set_cons_succ]
              refine wpAnyT_pure (i := 8) (oi := { dst := some 12, op := Op.assign (Operand.tmp 117), type := 25, pos := "law.go:68", after := #[{ on := 3, ground := Ground.data }, { on := 7, ground := Ground.chain }, { on := 0, ground := Ground.phase }, { on := 1, ground := Ground.phase }, { on := 2, ground := Ground.phase }, { on := 3, ground := Ground.phase }, { on := 4, ground := Ground.textOnly Departure.lateStores }, { on := 5, ground := Ground.textOnly Departure.lateStores }, { on := 6, ground := Ground.textOnly Departure.lateStores }, { on := 7, ground := Ground.textOnly Departure.lateStoresUnsure }], guard := none }) (v := ?_) rfl (by kernel_rfl) (by kernel_rfl) (by kernel_rfl) (by kernel_rfl) (fun _ _ _ h => h) (Or.inl ⟨by rfl, ?_⟩) (holds1 (late_no (by kernel_rfl))) ?_
              rotate_left
              · (intro W; go_simp; try with_reducible rfl)
              try simp only [Act.put, List.setIfInBounds_toArray, List.set_cons_zero, List.set_cons_succ]
              refine wpAnyT_pure (i := 9) (oi := { dst := some 13, op := Op.assign (Operand.tmp 121), type := 3, pos := "law.go:68", after := #[{ on := 7, ground := Ground.data }, { on := 8, ground := Ground.chain }, { on := 0, ground := Ground.phase }, { on := 1, ground := Ground.phase }, { on := 2, ground := Ground.phase }, { on := 3, ground := Ground.phase }, { on := 4, ground := Ground.phase }, { on := 5, ground := Ground.phase }, { on := 6, ground := Ground.phase }, { on := 7, ground := Ground.phase }, { on := 8, ground := Ground.phase }], guard := none }) (v := ?_) rfl (by kernel_rfl) (by kernel_rfl) (by kernel_rfl) (by kernel_rfl) (fun _ _ _ h => h) (Or.inl ⟨by rfl, ?_⟩) (holds1 (late_no (by kernel_rfl))) ?_
              rotate_left
              · (intro W; go_simp; try with_reducible rfl)
              try simp only [Act.put, List.setIfInBounds_toArray, List.set_cons_zero, List.set_cons_succ]
              refine wpAnyT_done (by kernel_rfl) ?_ _
              have R2 := Lib.hid R2
              clear R0 R1
              go_wp2_with fail
              go_meet
              exact ⟨E, d2, rfl, rfl, R2, G2⟩
        case rest =>
          clear RD HG
          obtain ⟨E, d2, rfl, rfl, RD, GD⟩ := hcut
          have RW := Lib.hid RD.out.rw_
          clear RD f0 f1 f2 m1 m2 HM H5
          obtain ⟨n, hn⟩ : ∃ n, c.b.length = n := ⟨_, rfl⟩
          have HN := Lib.hid hn
          rw [hn] at RW
          rw [hn]
          clear hn
          skip
          go_wp2_with fail
          go_loopw [14] (fun sk wr => ∃ (k : Nat) (l : List Int), k ≤ n ∧ l.length = n ∧ sk = .int .i64 k ∧ Hid (Rw w wr p q (.slice A n cm) l d2 d2)) (fun sk _ => n - (intOf sk).toNat)
          case atStart => exact ⟨0, c.b, Nat.zero_le _, HN.out, rfl, RW⟩
          case round =>
            clear RW
            obtain ⟨k, l, hk, hl, rfl, HR⟩ := hrel
            have HL := Lib.hid hl
            clear hl
            by_cases hkn : k < n
            · have t0 : (0 : Int) ≤ (k : Int) := by omega
              have t1 : (k : Int) < (n : Int) := by omega
              obtain ⟨g, cap, hv⟩ := HR.out.form HL.out (by omega)
              injection hv with hA hn2 hcm
              subst hA
              clear hn2 hcm
              obtain ⟨u, hu, hf⟩ := HR.out.cell HL.out k hkn
              have H2 := Lib.hid (HR.out.write HL.out k 238)
              have hm : n ≤ 9223372036854775807 := by
                have h := own_len HR.out.row
                rw [HL.out] at h
                unfold maxLen at h
                omega
              clear HR
              go_wp2_with fail
              go_roundw
              case rel => exact ⟨k + 1, l.set k 238, by omega, by rw [List.length_set]; exact HL.out, by go_num, H2⟩
              case measure => simp [intOf]; omega
            · have t1 : ¬ (k : Int) < (n : Int) := by omega
              obtain ⟨A1, c1, A3, c3, HQ⟩ := HR.out.bt.reads
              have HB2 := Lib.hid (HR.out.bt.less (M' := fun _ => False) (fun _ h => h.elim))
              have HW2 := Lib.hid HR.out.blw
              clear HR
              have LG : ∀ W, wr.grownBy W none → Hid (Calls Try.prog 25 #[.pointer (some ⟨p, 0, none⟩)] W fun e w' => (∃ v, e = .returned v ∧ w'.ownsRow W.heap.size 5 1 v d2.L.length (bs d2.L)) ∧ W.grownBy w' none) := fun W h => log_any 0 p d2 W (HQ W h).1 (by have := GD.out.ok.l; omega)
              have SN : ∀ W, wr.grownBy W none → Hid (Calls Try.prog 26 #[.pointer (some ⟨p, 0, none⟩)] W fun e w' => (∃ v, e = .returned v ∧ w'.ownsRow W.heap.size 5 1 v d2.S.length (bs d2.S)) ∧ W.grownBy w' none) := fun W h => snap_any 0 p d2 W (HQ W h).1 (by have := GD.out.ok.s; omega)
              have DE : ∀ W, wr.grownBy W none → Hid (Calls Try.prog 27 #[.pointer (some ⟨p, 0, none⟩)] W fun e w' => e = .returned (.bool d2.dd) ∧ W = w') := fun W h => dead_any 0 p d2 W (HQ W h).1
              have OP : ∀ W, wr.grownBy W none → Hid (Calls Try.prog 28 #[.pointer (some ⟨p, 0, none⟩)] W fun e w' => e = .returned (.int .i64 d2.op) ∧ W = w') := fun W h => ops_any 0 p d2 W (HQ W h).1
              obtain ⟨sL, hsL⟩ : ∃ x, strOfNums d2.L = x := ⟨_, rfl⟩
              obtain ⟨sS, hsS⟩ : ∃ x, strOfNums d2.S = x := ⟨_, rfl⟩
              obtain ⟨nL, hnL⟩ : ∃ x, d2.L.length = x := ⟨_, rfl⟩
              obtain ⟨nS, hnS⟩ : ∃ x, d2.S.length = x := ⟨_, rfl⟩
              obtain ⟨dd, hdd⟩ : ∃ x, d2.dd = x := ⟨_, rfl⟩
              obtain ⟨dop, hdop⟩ : ∃ x, d2.op = x := ⟨_, rfl⟩
              have CL : ∀ (W : World) (B g : Nat) (A2 : Option Addr) (c2 : Nat), W.ownsRow B 5 1 (.slice A2 nL c2) nL (bs d2.L) → (convert 31 9 (.slice A2 nL c2)).run Try.prog W = .ok (.string sL) W := fun W B _ A2 c2 h => by rw [← hsL]; have := conv_string (Has.own h) c2; rw [hnL] at this; exact this
              have CS : ∀ (W : World) (B g : Nat) (A2 : Option Addr) (c2 : Nat), W.ownsRow B 5 1 (.slice A2 nS c2) nS (bs d2.S) → (convert 31 9 (.slice A2 nS c2)).run Try.prog W = .ok (.string sS) W := fun W B _ A2 c2 h => by rw [← hsS]; have := conv_string (Has.own h) c2; rw [hnS] at this; exact this
              have CLH := Lib.hid CL
              have CSH := Lib.hid CS
              have HQ2 : ∀ V, wr.grownBy V none → Hid (V.cell? ⟨q, 1, none⟩ = some (.slice A1 nL c1) ∧ V.cell? ⟨q, 3, none⟩ = some (.slice A3 nS c3) ∧ V.cell? ⟨q, 6, none⟩ = some (.bool dd) ∧ V.cell? ⟨q, 7, none⟩ = some (.int .i64 dop) ∧ (convert 31 9 (.slice A1 nL c1)).run Try.prog V = .ok (.string sL) V ∧ (convert 31 9 (.slice A3 nS c3)).run Try.prog V = .ok (.string sS) V) := fun V h => by have := (HQ V h).2; rw [hsL, hsS, hnL, hnS, hdd, hdop] at this; exact this
              rw [hnL] at LG
              rw [hnS] at SN
              rw [hdd] at DE
              rw [hdop] at OP
              clear CL CS HQ hsL hsS hnL hnS hdd hdop
              have e0 : (E != E) = false := by simp
              have e1 : (sL.toList == sL.toList) = true := by simp
              have e2 : (sS.toList == sS.toList) = true := by simp
              have e3 : (dd != dd) = false := by simp
              have e4 : (dop != dop) = false := by simp
              go_upto_region 34 with fail
              have q0 : wr.grownBy wr.drew none := only_drew (only_refl _ _)
              refine wp_region_late [(41, fun V => V.cell? ⟨q, 1, none⟩ = some (.slice A1 nL c1) ∧ V.cell? ⟨q, 3, none⟩ = some (.slice A3 nS c3) ∧ V.cell? ⟨q, 6, none⟩ = some (.bool dd) ∧ V.cell? ⟨q, 7, none⟩ = some (.int .i64 dop) ∧ (convert 31 9 (.slice A1 nL c1)).run Try.prog V = .ok (.string sL) V ∧ (convert 31 9 (.slice A3 nS c3)).run Try.prog V = .ok (.string sS) V), (12, fun _ => True), (23, fun _ => True)] (by kernel_rfl) ?_
              refine wpAnyT_pure (i := 0) (oi := { dst := some 131, op := Op.move (Operand.tmp 12), type := 25, pos := "law.go:73", after := #[], guard := none }) (v := ?_) rfl (by kernel_rfl) (by kernel_rfl) (by kernel_rfl) (by kernel_rfl) (fun _ _ _ h => h) (Or.inl ⟨by rfl, ?_⟩) (holds3 (fun _ => (HQ2 _ q0).out) (fun _ => trivial) (fun _ => trivial)) ?_
              rotate_left
              · (intro W; go_simp; try with_reducible rfl)
              try simp only [Act.put, List.setIfInBounds_toArray, List.set_cons_zero, List.set_cons_succ]
              refine wpAnyT_pure (i := 1) (oi := { dst := some 132, op := Op.move (Operand.tmp 13), type := 3, pos := "law.go:73", after := #[], guard := none }) (v := ?_) rfl (by kernel_rfl) (by kernel_rfl) (by kernel_rfl) (by kernel_rfl) (fun _ _ _ h => h) (Or.inl ⟨by rfl, ?_⟩) (holds3 (fun _ => (HQ2 _ q0).out) (fun _ => trivial) (fun _ => trivial)) ?_
              rotate_left
              · (intro W; go_simp; try with_reducible rfl)
              try simp only [Act.put, List.setIfInBounds_toArray, List.set_cons_zero, List.set_cons_succ]
              refine wpAnyT_pure (i := 2) (oi := { dst := some 133, op := Op.binOp BinOp.neq 3 (Operand.tmp 131) (Operand.tmp 132) 3, type := 4, pos := "law.go:73", after := #[{ on := 0, ground := Ground.data }, { on := 1, ground := Ground.data }], guard := none }) (v := ?_) rfl (by kernel_rfl) (by kernel_rfl) (by kernel_rfl) (by kernel_rfl) (fun _ _ _ h => h) (Or.inl ⟨by rfl, ?_⟩) (holds3 (fun _ => (HQ2 _ q0).out) (fun _ => trivial) (fun _ => trivial)) ?_
              rotate_left
              · (intro W; go_simp; try with_reducible rfl)
              try simp only [Act.put, List.setIfInBounds_toArray, List.set_cons_zero, List.set_cons_succ]
              refine wpAnyT_pure (i := 3) (oi := { dst := some 134, op := Op.move (Operand.tmp 133), type := 4, pos := "law.go:73", after := #[{ on := 2, ground := Ground.data }], guard := none }) (v := ?_) rfl (by kernel_rfl) (by kernel_rfl) (by kernel_rfl) (by kernel_rfl) (fun _ _ _ h => h) (Or.inl ⟨by rfl, ?_⟩) (holds3 (fun _ => (HQ2 _ q0).out) (fun _ => trivial) (fun _ => trivial)) ?_
              rotate_left
              · (intro W; go_simp; try with_reducible rfl)
              try simp only [Act.put, List.setIfInBounds_toArray, List.set_cons_zero, List.set_cons_succ]
              refine wpAnyT_pure (i := 4) (oi := { dst := some 135, op := Op.move (Operand.tmp 5), type := 24, pos := "law.go:73", after := #[{ on := 3, ground := Ground.guard }], guard := some (3, false) }) (v := ?_) rfl (by kernel_rfl) (by kernel_rfl) (by kernel_rfl) (by kernel_rfl) (fun _ _ _ h => h) (Or.inl ⟨by rfl, ?_⟩) (holds3 (fun _ => (HQ2 _ q0).out) (fun _ => trivial) (fun _ => trivial)) ?_
              rotate_left
              · (intro W; go_simp; try with_reducible rfl)
              try simp only [Act.put, List.setIfInBounds_toArray, List.set_cons_zero, List.set_cons_succ]
              refine wpAnyT_pure (i := 7) (oi := { dst := some 138, op := Op.move (Operand.tmp 7), type := 28, pos := "law.go:73", after := #[{ on := 3, ground := Ground.guard }], guard := some (3, false) }) (v := ?_) rfl (by kernel_rfl) (by kernel_rfl) (by kernel_rfl) (by kernel_rfl) (fun _ _ _ h => h) (Or.inl ⟨by rfl, ?_⟩) (holds3 (fun _ => (HQ2 _ q0).out) (fun _ => trivial) (fun _ => trivial)) ?_
              rotate_left
              · (intro W; go_simp; try with_reducible rfl)
              try simp only [Act.put, List.setIfInBounds_toArray, List.set_cons_zero, List.set_cons_succ]
              refine wpAnyT_pure (i := 8) (oi := { dst := some 139, op := Op.nilCheck (Operand.tmp 138), type := 0, pos := "law.go:73", after := #[{ on := 7, ground := Ground.data }, { on := 3, ground := Ground.guard }], guard := some (3, false) }) (v := ?_) rfl (by kernel_rfl) (by kernel_rfl) (by kernel_rfl) (by kernel_rfl) (fun _ _ _ h => h) (Or.inl ⟨by rfl, ?_⟩) (holds3 (fun _ => (HQ2 _ q0).out) (fun _ => trivial) (fun _ => trivial)) ?_
              rotate_left
              · (intro W; go_simp; try with_reducible rfl)
              try simp only [Act.put, List.setIfInBounds_toArray, List.set_cons_zero, List.set_cons_succ]
              refine wpAnyT_pure (i := 9) (oi := { dst := some 140, op := Op.fieldAddr 44 (Operand.tmp 139) 1, type := 0, pos := "law.go:73", after := #[{ on := 8, ground := Ground.data }, { on := 3, ground := Ground.guard }], guard := some (3, false) }) (v := ?_) rfl (by kernel_rfl) (by kernel_rfl) (by kernel_rfl) (by kernel_rfl) (fun _ _ _ h => h) (Or.inl ⟨by rfl, ?_⟩) (holds3 (fun _ => (HQ2 _ q0).out) (fun _ => trivial) (fun _ => trivial)) ?_
              rotate_left
              · (intro W; go_simp; try with_reducible rfl)
              try simp only [Act.put, List.setIfInBounds_toArray, List.set_cons_zero, List.set_cons_succ]
              refine wpAnyT_take 16 41 (i := 10) (oi := { dst := some 141, op := Op.load 31 (Operand.tmp 140), type := 31, pos := "law.go:73", after := #[{ on := 9, ground := Ground.data }, { on := 3, ground := Ground.guard }], guard := some (3, false) }) (v := ?_) (.head _) rfl (by kernel_rfl) (by kernel_rfl) (by kernel_rfl) (by kernel_rfl) (by kernel_rfl) (by kernel_rfl) (by rfl) (fun _ _ _ h => h) (by rfl) ?_ (holds3 (fun _ => (HQ2 _ q0).out) (fun _ => trivial) (fun _ => trivial)) ?_
              rotate_left
              · (intro W hSw; (try dsimp only at hSw); go_simp; try with_reducible rfl)
              try simp only [Act.put, List.setIfInBounds_toArray, List.set_cons_zero, List.set_cons_succ]
              refine wpAnyT_take 16 41 (i := 11) (oi := { dst := some 142, op := Op.convert 31 9 (Operand.tmp 141), type := 9, pos := "law.go:73", after := #[{ on := 10, ground := Ground.data }, { on := 3, ground := Ground.guard }], guard := some (3, false) }) (v := ?_) (.head _) rfl (by kernel_rfl) (by kernel_rfl) (by kernel_rfl) (by kernel_rfl) (by kernel_rfl) (by kernel_rfl) (by rfl) (fun _ _ _ h => h) (by rfl) ?_ (holds3 (fun _ => (HQ2 _ q0).out) (fun _ => trivial) (fun _ => trivial)) ?_
              rotate_left
              · (intro W hSw; (try dsimp only at hSw); go_simp; try with_reducible rfl)
              try simp only [Act.put, List.setIfInBounds_toArray, List.set_cons_zero, List.set_cons_succ]
              refine wpAnyT_ready (rs := [5]) (by kernel_rfl) (by simp) (AllT.cons (o := { dst := some 136, op := Op.call { callee := Callee.value (Operand.func 25), args := #[Operand.tmp 135], argTypes := #[24] }, type := 31, pos := "law.go:73", after := #[{ on := 4, ground := Ground.data }, { on := 3, ground := Ground.chain }, { on := 3, ground := Ground.guard }], guard := some (3, false) }) rfl (fun K hK => ?_) AllT.nil)
              go_simp
              go_at_call 25
              refine (LG _ q0).out.mono ?_
              rintro _ v1 ⟨⟨y1, rfl, o1⟩, x1⟩
              have q1 : wr.grownBy v1 none := only_step q0 x1 (fun _ h => .inl h)
              obtain ⟨A5, c5, rfl⟩ := own_slice o1
              have k5 := CLH.out _ _ 0 _ _ o1
              refine hK.out _ _ (holds3 (fun _ => (HQ2 _ q1).out) (fun _ => trivial) (fun _ => trivial)) ?_
              clear hK K
              try simp only [Act.put, List.setIfInBounds_toArray, List.set_cons_zero, List.set_cons_succ]
              refine wpAnyT_more [(41, fun V => V.cell? ⟨q, 1, none⟩ = some (.slice A1 nL c1) ∧ V.cell? ⟨q, 3, none⟩ = some (.slice A3 nS c3) ∧ V.cell? ⟨q, 6, none⟩ = some (.bool dd) ∧ V.cell? ⟨q, 7, none⟩ = some (.int .i64 dop) ∧ (convert 31 9 (.slice A1 nL c1)).run Try.prog V = .ok (.string sL) V ∧ (convert 31 9 (.slice A3 nS c3)).run Try.prog V = .ok (.string sS) V), (12, fun V => (convert 31 9 (.slice A5 nL c5)).run Try.prog V = .ok (.string sL) V), (23, fun _ => True)] (more3 (fun _ h => h) (fun _ _ => trivial) (fun _ h => h)) _ _ _ _ ?_
              refine wpAnyT_take 16 12 (i := 6) (oi := { dst := some 137, op := Op.convert 31 9 (Operand.tmp 136), type := 9, pos := "law.go:73", after := #[{ on := 5, ground := Ground.data }, { on := 3, ground := Ground.guard }], guard := some (3, false) }) (v := ?_) (.tail _ (.head _)) rfl (by kernel_rfl) (by kernel_rfl) (by kernel_rfl) (by kernel_rfl) (by kernel_rfl) (by kernel_rfl) (by rfl) (fun _ _ _ h => h) (by rfl) ?_ (holds3 (fun _ => (HQ2 _ q1).out) (fun _ => k5) (fun _ => trivial)) ?_
              rotate_left
              · (intro W hSw; (try dsimp only at hSw); go_simp; try with_reducible rfl)
              try simp only [Act.put, List.setIfInBounds_toArray, List.set_cons_zero, List.set_cons_succ]
              refine wpAnyT_ready (rs := [12]) (by kernel_rfl) (by simp) (AllT.cons (o := { dst := some 143, op := Op.binOp BinOp.neq 9 (Operand.tmp 137) (Operand.tmp 142) 9, type := 4, pos := "law.go:73", after := #[{ on := 6, ground := Ground.data }, { on := 11, ground := Ground.data }, { on := 3, ground := Ground.guard }], guard := some (3, false) }) rfl (fun K hK => ?_) AllT.nil)
              go_simp
              refine hK.out _ _ (holds3 (fun _ => (HQ2 _ q1).out) (late_no (by kernel_rfl)) (fun _ => trivial)) ?_
              clear hK K
              try simp only [Act.put, List.setIfInBounds_toArray, List.set_cons_zero, List.set_cons_succ]
              refine wpAnyT_pure (i := 13) (oi := { dst := some 144, op := Op.pick (Operand.tmp 134) (Operand.const (Value.bool true)) (Operand.tmp 143), type := 4, pos := "law.go:73", after := #[{ on := 3, ground := Ground.data }, { on := 12, ground := Ground.data }], guard := none }) (v := ?_) rfl (by kernel_rfl) (by kernel_rfl) (by kernel_rfl) (by kernel_rfl) (fun _ _ _ h => h) (Or.inl ⟨by rfl, ?_⟩) (holds3 (fun _ => (HQ2 _ q1).out) (late_no (by kernel_rfl)) (fun _ => trivial)) ?_
              rotate_left
              · (intro W; go_simp; try with_reducible rfl)
              try simp only [Act.put, List.setIfInBounds_toArray, List.set_cons_zero, List.set_cons_succ]
              refine wpAnyT_pure (i := 14) (oi := { dst := some 145, op := Op.move (Operand.tmp 144), type := 4, pos := "law.go:73", after := #[{ on := 13, ground := Ground.data }, { on := 5, ground := Ground.chain }], guard := none }) (v := ?_) rfl (by kernel_rfl) (by kernel_rfl) (by kernel_rfl) (by kernel_rfl) (fun _ _ _ h => h) (Or.inl ⟨by rfl, ?_⟩) (holds3 (fun _ => (HQ2 _ q1).out) (late_no (by kernel_rfl)) (fun _ => trivial)) ?_
              rotate_left
              · (intro W; go_simp; try with_reducible rfl)
              try simp only [Act.put, List.setIfInBounds_toArray, List.set_cons_zero, List.set_cons_succ]
              refine wpAnyT_pure (i := 15) (oi := { dst := some 146, op := Op.move (Operand.tmp 5), type := 24, pos := "law.go:73", after := #[{ on := 14, ground := Ground.guard }], guard := some (14, false) }) (v := ?_) rfl (by kernel_rfl) (by kernel_rfl) (by kernel_rfl) (by kernel_rfl) (fun _ _ _ h => h) (Or.inl ⟨by rfl, ?_⟩) (holds3 (fun _ => (HQ2 _ q1).out) (late_no (by kernel_rfl)) (fun _ => trivial)) ?_
              rotate_left
              · (intro W; go_simp; try with_reducible rfl)
              try simp only [Act.put, List.setIfInBounds_toArray, List.set_cons_zero, List.set_cons_succ]
              refine wpAnyT_pure (i := 18) (oi := { dst := some 149, op := Op.move (Operand.tmp 7), type := 28, pos := "law.go:73", after := #[{ on := 14, ground := Ground.guard }], guard := some (14, false) }) (v := ?_) rfl (by kernel_rfl) (by kernel_rfl) (by kernel_rfl) (by kernel_rfl) (fun _ _ _ h => h) (Or.inl ⟨by rfl, ?_⟩) (holds3 (fun _ => (HQ2 _ q1).out) (late_no (by kernel_rfl)) (fun _ => trivial)) ?_
              rotate_left
              · (intro W; go_simp; try with_reducible rfl)
              try simp only [Act.put, List.setIfInBounds_toArray, List.set_cons_zero, List.set_cons_succ]
              refine wpAnyT_pure (i := 19) (oi := { dst := some 150, op := Op.nilCheck (Operand.tmp 149), type := 0, pos := "law.go:73", after := #[{ on := 18, ground := Ground.data }, { on := 14, ground := Ground.guard }], guard := some (14, false) }) (v := ?_) rfl (by kernel_rfl) (by kernel_rfl) (by kernel_rfl) (by kernel_rfl) (fun _ _ _ h => h) (Or.inl ⟨by rfl, ?_⟩) (holds3 (fun _ => (HQ2 _ q1).out) (late_no (by kernel_rfl)) (fun _ => trivial)) ?_
              rotate_left
              · (intro W; go_simp; try with_reducible rfl)
              try simp only [Act.put, List.setIfInBounds_toArray, List.set_cons_zero, List.set_cons_succ]
              refine wpAnyT_pure (i := 20) (oi := { dst := some 151, op := Op.fieldAddr 44 (Operand.tmp 150) 3, type := 0, pos := "law.go:73", after := #[{ on := 19, ground := Ground.data }, { on := 14, ground := Ground.guard }], guard := some (14, false) }) (v := ?_) rfl (by kernel_rfl) (by kernel_rfl) (by kernel_rfl) (by kernel_rfl) (fun _ _ _ h => h) (Or.inl ⟨by rfl, ?_⟩) (holds3 (fun _ => (HQ2 _ q1).out) (late_no (by kernel_rfl)) (fun _ => trivial)) ?_
              rotate_left
              · (intro W; go_simp; try with_reducible rfl)
              try simp only [Act.put, List.setIfInBounds_toArray, List.set_cons_zero, List.set_cons_succ]
              refine wpAnyT_take 16 41 (i := 21) (oi := { dst := some 152, op := Op.load 31 (Operand.tmp 151), type := 31, pos := "law.go:73", after := #[{ on := 20, ground := Ground.data }, { on := 14, ground := Ground.guard }], guard := some (14, false) }) (v := ?_) (.head _) rfl (by kernel_rfl) (by kernel_rfl) (by kernel_rfl) (by kernel_rfl) (by kernel_rfl) (by kernel_rfl) (by rfl) (fun _ _ _ h => h) (by rfl) ?_ (holds3 (fun _ => (HQ2 _ q1).out) (late_no (by kernel_rfl)) (fun _ => trivial)) ?_
              rotate_left
              · (intro W hSw; (try dsimp only at hSw); go_simp; try with_reducible rfl)
              try simp only [Act.put, List.setIfInBounds_toArray, List.set_cons_zero, List.set_cons_succ]
              refine wpAnyT_take 16 41 (i := 22) (oi := { dst := some 153, op := Op.convert 31 9 (Operand.tmp 152), type := 9, pos := "law.go:73", after := #[{ on := 21, ground := Ground.data }, { on := 14, ground := Ground.guard }], guard := some (14, false) }) (v := ?_) (.head _) rfl (by kernel_rfl) (by kernel_rfl) (by kernel_rfl) (by kernel_rfl) (by kernel_rfl) (by kernel_rfl) (by rfl) (fun _ _ _ h => h) (by rfl) ?_ (holds3 (fun _ => (HQ2 _ q1).out) (late_no (by kernel_rfl)) (fun _ => trivial)) ?_
              rotate_left
              · (intro W hSw; (try dsimp only at hSw); go_simp; try with_reducible rfl)
              try simp only [Act.put, List.setIfInBounds_toArray, List.set_cons_zero, List.set_cons_succ]
              refine wpAnyT_ready (rs := [16]) (by kernel_rfl) (by simp) (AllT.cons (o := { dst := some 147, op := Op.call { callee := Callee.value (Operand.func 26), args := #[Operand.tmp 146], argTypes := #[24] }, type := 31, pos := "law.go:73", after := #[{ on := 15, ground := Ground.data }, { on := 14, ground := Ground.chain }, { on := 14, ground := Ground.guard }], guard := some (14, false) }) rfl (fun K hK => ?_) AllT.nil)
              go_simp
              go_at_call 26
              refine (SN _ q1).out.mono ?_
              rintro _ v2 ⟨⟨y2, rfl, o2⟩, x2⟩
              have q2 : wr.grownBy v2 none := only_step q1 x2 (fun _ h => .inl h)
              obtain ⟨A6, c6, rfl⟩ := own_slice o2
              have k6 := CSH.out _ _ 0 _ _ o2
              refine hK.out _ _ (holds3 (fun _ => (HQ2 _ q2).out) (late_no (by kernel_rfl)) (fun _ => trivial)) ?_
              clear hK K
              try simp only [Act.put, List.setIfInBounds_toArray, List.set_cons_zero, List.set_cons_succ]
              refine wpAnyT_more [(41, fun V => V.cell? ⟨q, 1, none⟩ = some (.slice A1 nL c1) ∧ V.cell? ⟨q, 3, none⟩ = some (.slice A3 nS c3) ∧ V.cell? ⟨q, 6, none⟩ = some (.bool dd) ∧ V.cell? ⟨q, 7, none⟩ = some (.int .i64 dop) ∧ (convert 31 9 (.slice A1 nL c1)).run Try.prog V = .ok (.string sL) V ∧ (convert 31 9 (.slice A3 nS c3)).run Try.prog V = .ok (.string sS) V), (12, fun V => (convert 31 9 (.slice A5 nL c5)).run Try.prog V = .ok (.string sL) V), (23, fun V => (convert 31 9 (.slice A6 nS c6)).run Try.prog V = .ok (.string sS) V)] (more3 (fun _ h => h) (fun _ h => h) (fun _ _ => trivial)) _ _ _ _ ?_
              refine wpAnyT_take 16 23 (i := 17) (oi := { dst := some 148, op := Op.convert 31 9 (Operand.tmp 147), type := 9, pos := "law.go:73", after := #[{ on := 16, ground := Ground.data }, { on := 14, ground := Ground.guard }], guard := some (14, false) }) (v := ?_) (.tail _ (.tail _ (.head _))) rfl (by kernel_rfl) (by kernel_rfl) (by kernel_rfl) (by kernel_rfl) (by kernel_rfl) (by kernel_rfl) (by rfl) (fun _ _ _ h => h) (by rfl) ?_ (holds3 (fun _ => (HQ2 _ q2).out) (late_no (by kernel_rfl)) (fun _ => k6)) ?_
              rotate_left
              · (intro W hSw; (try dsimp only at hSw); go_simp; try with_reducible rfl)
              try simp only [Act.put, List.setIfInBounds_toArray, List.set_cons_zero, List.set_cons_succ]
              refine wpAnyT_ready (rs := [23]) (by kernel_rfl) (by simp) (AllT.cons (o := { dst := some 154, op := Op.binOp BinOp.neq 9 (Operand.tmp 148) (Operand.tmp 153) 9, type := 4, pos := "law.go:73", after := #[{ on := 17, ground := Ground.data }, { on := 22, ground := Ground.data }, { on := 14, ground := Ground.guard }], guard := some (14, false) }) rfl (fun K hK => ?_) AllT.nil)
              go_simp
              refine hK.out _ _ (holds3 (fun _ => (HQ2 _ q2).out) (late_no (by kernel_rfl)) (late_no (by kernel_rfl))) ?_
              clear hK K
              try simp only [Act.put, List.setIfInBounds_toArray, List.set_cons_zero, List.set_cons_succ]
              refine wpAnyT_pure (i := 24) (oi := { dst := some 155, op := Op.pick (Operand.tmp 145) (Operand.const (Value.bool true)) (Operand.tmp 154), type := 4, pos := "law.go:73", after := #[{ on := 14, ground := Ground.data }, { on := 23, ground := Ground.data }], guard := none }) (v := ?_) rfl (by kernel_rfl) (by kernel_rfl) (by kernel_rfl) (by kernel_rfl) (fun _ _ _ h => h) (Or.inl ⟨by rfl, ?_⟩) (holds3 (fun _ => (HQ2 _ q2).out) (late_no (by kernel_rfl)) (late_no (by kernel_rfl))) ?_
              rotate_left
              · (intro W; go_simp; try with_reducible rfl)
              try simp only [Act.put, List.setIfInBounds_toArray, List.set_cons_zero, List.set_cons_succ]
              refine wpAnyT_pure (i := 25) (oi := { dst := some 156, op := Op.move (Operand.tmp 155), type := 4, pos := "law.go:73", after := #[{ on := 24, ground := Ground.data }, { on := 16, ground := Ground.chain }], guard := none }) (v := ?_) rfl (by kernel_rfl) (by kernel_rfl) (by kernel_rfl) (by kernel_rfl) (fun _ _ _ h => h) (Or.inl ⟨by rfl, ?_⟩) (holds3 (fun _ => (HQ2 _ q2).out) (late_no (by kernel_rfl)) (late_no (by kernel_rfl))) ?_
              rotate_left
              · (intro W; go_simp; try with_reducible rfl)
              try simp only [Act.put, List.setIfInBounds_toArray, List.set_cons_zero, List.set_cons_succ]
              refine wpAnyT_pure (i := 26) (oi := { dst := some 157, op := Op.move (Operand.tmp 5), type := 24, pos := "law.go:73", after := #[{ on := 25, ground := Ground.guard }], guard := some (25, false) }) (v := ?_) rfl (by kernel_rfl) (by kernel_rfl) (by kernel_rfl) (by kernel_rfl) (fun _ _ _ h => h) (Or.inl ⟨by rfl, ?_⟩) (holds3 (fun _ => (HQ2 _ q2).out) (late_no (by kernel_rfl)) (late_no (by kernel_rfl))) ?_
              rotate_left
              · (intro W; go_simp; try with_reducible rfl)
              try simp only [Act.put, List.setIfInBounds_toArray, List.set_cons_zero, List.set_cons_succ]
              refine wpAnyT_pure (i := 28) (oi := { dst := some 159, op := Op.move (Operand.tmp 7), type := 28, pos := "law.go:73", after := #[{ on := 25, ground := Ground.guard }], guard := some (25, false) }) (v := ?_) rfl (by kernel_rfl) (by kernel_rfl) (by kernel_rfl) (by kernel_rfl) (fun _ _ _ h => h) (Or.inl ⟨by rfl, ?_⟩) (holds3 (fun _ => (HQ2 _ q2).out) (late_no (by kernel_rfl)) (late_no (by kernel_rfl))) ?_
              rotate_left
              · (intro W; go_simp; try with_reducible rfl)
              try simp only [Act.put, List.setIfInBounds_toArray, List.set_cons_zero, List.set_cons_succ]
              refine wpAnyT_pure (i := 29) (oi := { dst := some 160, op := Op.nilCheck (Operand.tmp 159), type := 0, pos := "law.go:73", after := #[{ on := 28, ground := Ground.data }, { on := 25, ground := Ground.guard }], guard := some (25, false) }) (v := ?_) rfl (by kernel_rfl) (by kernel_rfl) (by kernel_rfl) (by kernel_rfl) (fun _ _ _ h => h) (Or.inl ⟨by rfl, ?_⟩) (holds3 (fun _ => (HQ2 _ q2).out) (late_no (by kernel_rfl)) (late_no (by kernel_rfl))) ?_
              rotate_left
              · (intro W; go_simp; try with_reducible rfl)
              try simp only [Act.put, List.setIfInBounds_toArray, List.set_cons_zero, List.set_cons_succ]
              refine wpAnyT_pure (i := 30) (oi := { dst := some 161, op := Op.fieldAddr 44 (Operand.tmp 160) 6, type := 0, pos := "law.go:73", after := #[{ on := 29, ground := Ground.data }, { on := 25, ground := Ground.guard }], guard := some (25, false) }) (v := ?_) rfl (by kernel_rfl) (by kernel_rfl) (by kernel_rfl) (by kernel_rfl) (fun _ _ _ h => h) (Or.inl ⟨by rfl, ?_⟩) (holds3 (fun _ => (HQ2 _ q2).out) (late_no (by kernel_rfl)) (late_no (by kernel_rfl))) ?_
              rotate_left
              · (intro W; go_simp; try with_reducible rfl)
              try simp only [Act.put, List.setIfInBounds_toArray, List.set_cons_zero, List.set_cons_succ]
              refine wpAnyT_take 16 41 (i := 31) (oi := { dst := some 162, op := Op.load 4 (Operand.tmp 161), type := 4, pos := "law.go:73", after := #[{ on := 30, ground := Ground.data }, { on := 25, ground := Ground.guard }], guard := some (25, false) }) (v := ?_) (.head _) rfl (by kernel_rfl) (by kernel_rfl) (by kernel_rfl) (by kernel_rfl) (by kernel_rfl) (by kernel_rfl) (by rfl) (fun _ _ _ h => h) (by rfl) ?_ (holds3 (fun _ => (HQ2 _ q2).out) (late_no (by kernel_rfl)) (late_no (by kernel_rfl))) ?_
              rotate_left
              · (intro W hSw; (try dsimp only at hSw); go_simp; try with_reducible rfl)
              try simp only [Act.put, List.setIfInBounds_toArray, List.set_cons_zero, List.set_cons_succ]
              refine wpAnyT_ready (rs := [27]) (by kernel_rfl) (by simp) (AllT.cons (o := { dst := some 158, op := Op.call { callee := Callee.value (Operand.func 27), args := #[Operand.tmp 157], argTypes := #[24] }, type := 4, pos := "law.go:73", after := #[{ on := 26, ground := Ground.data }, { on := 25, ground := Ground.chain }, { on := 25, ground := Ground.guard }], guard := some (25, false) }) rfl (fun K hK => ?_) AllT.nil)
              go_simp
              go_at_call 27
              refine (DE _ q2).out.mono ?_
              rintro _ v3 ⟨rfl, rfl⟩
              refine hK.out _ _ (holds3 (fun _ => (HQ2 _ q2).out) (late_no (by kernel_rfl)) (late_no (by kernel_rfl))) ?_
              clear hK K
              try simp only [Act.put, List.setIfInBounds_toArray, List.set_cons_zero, List.set_cons_succ]
              refine wpAnyT_pure (i := 32) (oi := { dst := some 163, op := Op.binOp BinOp.neq 4 (Operand.tmp 158) (Operand.tmp 162) 4, type := 4, pos := "law.go:73", after := #[{ on := 27, ground := Ground.data }, { on := 31, ground := Ground.data }, { on := 25, ground := Ground.guard }], guard := some (25, false) }) (v := ?_) rfl (by kernel_rfl) (by kernel_rfl) (by kernel_rfl) (by kernel_rfl) (fun _ _ _ h => h) (Or.inl ⟨by rfl, ?_⟩) (holds3 (fun _ => (HQ2 _ q2).out) (late_no (by kernel_rfl)) (late_no (by kernel_rfl))) ?_
              rotate_left
              · (intro W; go_simp; try with_reducible rfl)
              try simp only [Act.put, List.setIfInBounds_toArray, List.set_cons_zero, List.set_cons_succ]
              refine wpAnyT_pure (i := 33) (oi := { dst := some 164, op := Op.pick (Operand.tmp 156) (Operand.const (Value.bool true)) (Operand.tmp 163), type := 4, pos := "law.go:73", after := #[{ on := 25, ground := Ground.data }, { on := 32, ground := Ground.data }], guard := none }) (v := ?_) rfl (by kernel_rfl) (by kernel_rfl) (by kernel_rfl) (by kernel_rfl) (fun _ _ _ h => h) (Or.inl ⟨by rfl, ?_⟩) (holds3 (fun _ => (HQ2 _ q2).out) (late_no (by kernel_rfl)) (late_no (by kernel_rfl))) ?_
              rotate_left
              · (intro W; go_simp; try with_reducible rfl)
              try simp only [Act.put, List.setIfInBounds_toArray, List.set_cons_zero, List.set_cons_succ]
              refine wpAnyT_pure (i := 34) (oi := { dst := some 165, op := Op.move (Operand.tmp 164), type := 4, pos := "law.go:73", after := #[{ on := 33, ground := Ground.data }, { on := 27, ground := Ground.chain }], guard := none }) (v := ?_) rfl (by kernel_rfl) (by kernel_rfl) (by kernel_rfl) (by kernel_rfl) (fun _ _ _ h => h) (Or.inl ⟨by rfl, ?_⟩) (holds3 (fun _ => (HQ2 _ q2).out) (late_no (by kernel_rfl)) (late_no (by kernel_rfl))) ?_
              rotate_left
              · (intro W; go_simp; try with_reducible rfl)
              try simp only [Act.put, List.setIfInBounds_toArray, List.set_cons_zero, List.set_cons_succ]
              refine wpAnyT_pure (i := 35) (oi := { dst := some 166, op := Op.move (Operand.tmp 5), type := 24, pos := "law.go:73", after := #[{ on := 34, ground := Ground.guard }], guard := some (34, false) }) (v := ?_) rfl (by kernel_rfl) (by kernel_rfl) (by kernel_rfl) (by kernel_rfl) (fun _ _ _ h => h) (Or.inl ⟨by rfl, ?_⟩) (holds3 (fun _ => (HQ2 _ q2).out) (late_no (by kernel_rfl)) (late_no (by kernel_rfl))) ?_
              rotate_left
              · (intro W; go_simp; try with_reducible rfl)
              try simp only [Act.put, List.setIfInBounds_toArray, List.set_cons_zero, List.set_cons_succ]
              refine wpAnyT_pure (i := 37) (oi := { dst := some 168, op := Op.move (Operand.tmp 7), type := 28, pos := "law.go:73", after := #[{ on := 34, ground := Ground.guard }], guard := some (34, false) }) (v := ?_) rfl (by kernel_rfl) (by kernel_rfl) (by kernel_rfl) (by kernel_rfl) (fun _ _ _ h => h) (Or.inl ⟨by rfl, ?_⟩) (holds3 (fun _ => (HQ2 _ q2).out) (late_no (by kernel_rfl)) (late_no (by kernel_rfl))) ?_
              rotate_left
              · (intro W; go_simp; try with_reducible rfl)
              try simp only [Act.put, List.setIfInBounds_toArray, List.set_cons_zero, List.set_cons_succ]
              refine wpAnyT_pure (i := 38) (oi := { dst := some 169, op := Op.nilCheck (Operand.tmp 168), type := 0, pos := "law.go:73", after := #[{ on := 37, ground := Ground.data }, { on := 34, ground := Ground.guard }], guard := some (34, false) }) (v := ?_) rfl (by kernel_rfl) (by kernel_rfl) (by kernel_rfl) (by kernel_rfl) (fun _ _ _ h => h) (Or.inl ⟨by rfl, ?_⟩) (holds3 (fun _ => (HQ2 _ q2).out) (late_no (by kernel_rfl)) (late_no (by kernel_rfl))) ?_
              rotate_left
              · (intro W; go_simp; try with_reducible rfl)
              try simp only [Act.put, List.setIfInBounds_toArray, List.set_cons_zero, List.set_cons_succ]
              refine wpAnyT_pure (i := 39) (oi := { dst := some 170, op := Op.fieldAddr 44 (Operand.tmp 169) 7, type := 0, pos := "law.go:73", after := #[{ on := 38, ground := Ground.data }, { on := 34, ground := Ground.guard }], guard := some (34, false) }) (v := ?_) rfl (by kernel_rfl) (by kernel_rfl) (by kernel_rfl) (by kernel_rfl) (fun _ _ _ h => h) (Or.inl ⟨by rfl, ?_⟩) (holds3 (fun _ => (HQ2 _ q2).out) (late_no (by kernel_rfl)) (late_no (by kernel_rfl))) ?_
              rotate_left
              · (intro W; go_simp; try with_reducible rfl)
              try simp only [Act.put, List.setIfInBounds_toArray, List.set_cons_zero, List.set_cons_succ]
              refine wpAnyT_take 16 41 (i := 40) (oi := { dst := some 171, op := Op.load 3 (Operand.tmp 170), type := 3, pos := "law.go:73", after := #[{ on := 39, ground := Ground.data }, { on := 34, ground := Ground.guard }], guard := some (34, false) }) (v := ?_) (.head _) rfl (by kernel_rfl) (by kernel_rfl) (by kernel_rfl) (by kernel_rfl) (by kernel_rfl) (by kernel_rfl) (by rfl) (fun _ _ _ h => h) (by rfl) ?_ (holds3 (fun _ => (HQ2 _ q2).out) (late_no (by kernel_rfl)) (late_no (by kernel_rfl))) ?_
              rotate_left
              · (intro W hSw; (try dsimp only at hSw); go_simp; try with_reducible rfl)
              try simp only [Act.put, List.setIfInBounds_toArray, List.set_cons_zero, List.set_cons_succ]
              refine wpAnyT_ready (rs := [36]) (by kernel_rfl) (by simp) (AllT.cons (o := { dst := some 167, op := Op.call { callee := Callee.value (Operand.func 28), args := #[Operand.tmp 166], argTypes := #[24] }, type := 3, pos := "law.go:73", after := #[{ on := 35, ground := Ground.data }, { on := 34, ground := Ground.chain }, { on := 34, ground := Ground.guard }], guard := some (34, false) }) rfl (fun K hK => ?_) AllT.nil)
              go_simp
              go_at_call 28
              refine (OP _ q2).out.mono ?_
              rintro _ v4 ⟨rfl, rfl⟩
              refine hK.out _ _ (holds3 (fun _ => (HQ2 _ q2).out) (late_no (by kernel_rfl)) (late_no (by kernel_rfl))) ?_
              clear hK K
              try simp only [Act.put, List.setIfInBounds_toArray, List.set_cons_zero, List.set_cons_succ]
              refine wpAnyT_ready (rs := [41]) (by kernel_rfl) (by simp) (AllT.cons (o := { dst := some 172, op := Op.binOp BinOp.neq 3 (Operand.tmp 167) (Operand.tmp 171) 3, type := 4, pos := "law.go:73", after := #[{ on := 36, ground := Ground.data }, { on := 40, ground := Ground.data }, { on := 34, ground := Ground.guard }], guard := some (34, false) }) rfl (fun K hK => ?_) AllT.nil)
              go_simp
              refine hK.out _ _ (holds3 (late_no (by kernel_rfl)) (late_no (by kernel_rfl)) (late_no (by kernel_rfl))) ?_
              clear hK K
              try simp only [Act.put, List.setIfInBounds_toArray, List.set_cons_zero, List.set_cons_succ]
              refine wpAnyT_pure (i := 42) (oi := { dst := some 173, op := Op.pick (Operand.tmp 165) (Operand.const (Value.bool true)) (Operand.tmp 172), type := 4, pos := "law.go:73", after := #[{ on := 34, ground := Ground.data }, { on := 41, ground := Ground.data }], guard := none }) (v := ?_) rfl (by kernel_rfl) (by kernel_rfl) (by kernel_rfl) (by kernel_rfl) (fun _ _ _ h => h) (Or.inl ⟨by rfl, ?_⟩) (holds3 (late_no (by kernel_rfl)) (late_no (by kernel_rfl)) (late_no (by kernel_rfl))) ?_
              rotate_left
              · (intro W; go_simp; try with_reducible rfl)
              try simp only [Act.put, List.setIfInBounds_toArray, List.set_cons_zero, List.set_cons_succ]
              refine wpAnyT_done (by kernel_rfl) ?_ _
              have HB3 := Lib.hid (HB2.out.off q2)
              have HW3 := Lib.hid (HW2.out.trans (bel q2 (fun _ h => by cases h) HW2.out.size))
              clear q0 q1 q2 x1 x2 o1 o2 k5 k6 HB2 HW2
              go_wp2_with fail
              go_roundw
              case rel => exact ⟨i + 1, d2, by omega, by omega, by go_num, HB3, GD, HW3⟩
              case measure => simp [intOf]; omega
      · have t5 : (500 : Int) < (c.b.length : Int) := by omega
        have g1 := World.grownBy_alloc wr (.cells #[.int .i64 c.k, .int .i64 c.n, .slice c.A c.b.length c.c] 33) none
        have hw := HW.out.size
        have g1 := Lib.hid g1
        go_wp2_with fail
        go_roundw
        case rel => exact ⟨i + 1, d, by omega, by omega, by go_num, HB.out.off g1.out, gone_more HG.out, HW.out.trans (bel g1.out (fun k hk => by cases hk) hw)⟩
        case measure => simp [intOf]; omega
    · have t1 : decide ((i : Int) < (calls.length : Int) ∧ (i : Int) < 100) = false := by rw [decide_eq_false_iff_not]; omega
      by_cases h3 : i < calls.length
      · have t3 : (i : Int) < (calls.length : Int) := by omega
        have t4 : ¬ (i : Int) < 100 := by omega
        clear t1 h1
        go_wp2_with fail
        go_ret
        exact ⟨rfl, HW.out⟩
      · have t3 : ¬ (i : Int) < (calls.length : Int) := by omega
        clear t1 h1
        go_wp2_with fail
        go_ret
        exact ⟨rfl, HW.out⟩
end Go.Proofs.Ytmjfemnjkgfgfaa
