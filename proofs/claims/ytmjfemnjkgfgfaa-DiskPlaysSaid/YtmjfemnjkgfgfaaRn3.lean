/- The reference's disk: Cut, Swap. Conditions: its numbers stay below 2^40. -/
import Derived.Test.YtmjfemnjkgfgfaaRm
namespace Go.Proofs.Ytmjfemnjkgfgfaa
open Go.RowKit Go.Deep
theorem left_one (d : DS) (h : 0 ≤ d.sn) (hg : goes d.st d.sn = true) : 0 < leftOf d := by
  have := (left_goes d h).1
  rw [this, decide_eq_true_eq] at hg
  omega
set_option maxRecDepth 100000 in
set_option maxHeartbeats 4000000 in
theorem rcut_any (F : Nat → Prop) (g : Nat) (d : DS) (n : Int) (w : World) (h : Rk w F g d) (hk : Ok d) (hst : d.st ≤ 9223372036854775807)  (hF : ∀ k, w.heap.size ≤ k → F k) :
    Calls Try.prog 24 #[.pointer (some ⟨g, 0, none⟩), .int .i64 n] w fun e w' => e = .returned (.int .i64 (cutE d n)) ∧ Rk w' F g (cutS d n) ∧ w.grownBy w' (some g) := by
  obtain ⟨ev, vL, vS, hV, he⟩ := h
  obtain ⟨c0, c1, c2, c3, c4, c5, c6, c7⟩ := hV.cells
  obtain ⟨AL, cL, eL, _⟩ := hV.2.1
  rw [eL] at c1
  have HV := Lib.hid hV
  have HE := Lib.hid he
  have HK := Lib.hid hk
  have HF := Lib.hid hF
  have HEL := Lib.hid eL
  have kl := hk.l; have ks := hk.s; have kr := hk.rm
  clear hV he hk c2 c3 c4 c5 c7 eL hF
  by_cases hd : d.dd = true
  · rw [show cutE d n = 18 by simp [cutE, hd], show cutS d n = d by simp [cutS, hd]]
    rw [hd] at c6
    clear hd
    go_enter Try.func24, Try.ntmps24
    go_wp2_with fail
    go_ret
    exact ⟨rfl, ⟨ev, vL, vS, HV.out, HE.out⟩, only_refl _ _⟩
  · have hd : d.dd = false := by simpa using hd
    by_cases hn0 : n < 0
    · rw [show cutE d n = 1 by simp [cutE, hd, hn0], show cutS d n = d by simp [cutS, hn0]]
      rw [hd] at c6
      clear hd
      go_enter Try.func24, Try.ntmps24
      go_wp2_with fail
      go_ret
      exact ⟨rfl, ⟨ev, vL, vS, HV.out, HE.out⟩, only_refl _ _⟩
    · by_cases hn1 : (d.L.length : Int) < n
      · rw [show cutE d n = 1 by simp [cutE, hd, hn1], show cutS d n = d by simp [cutS, hn1]]
        rw [hd] at c6
        clear hd
        go_enter Try.func24, Try.ntmps24
        go_wp2_with fail
        go_ret
        exact ⟨rfl, ⟨ev, vL, vS, HV.out, HE.out⟩, only_refl _ _⟩
      · rw [show cutE d n = spR d.st d.sn by simp [cutE, hd, hn0, hn1], show cutS d n = if doneB d = true then keepS (spendS d) n.toNat else spendS d by simp [cutS, hd, hn0, hn1]]
        obtain ⟨m, rfl⟩ : ∃ m : Nat, n = (m : Int) := ⟨n.toNat, by omega⟩
        rw [Int.toNat_natCast]
        have hm : m ≤ d.L.length := by omega
        have hcL := (show Rv w F g (.slice AL d.L.length cL) d.L by have := HV.out.2.1; rwa [HEL.out] at this).has.2.2
        have GO := Lib.hid (rgoes_any F g d ev vL vS w HV.out HK.out hd hst)
        have SE := Lib.hid (spend_eq d hd)
        have SE2 : Hid (({ ({ goesS d with L := d.L.take m, sy := (m : Int) } : DS) with op := if ({ goesS d with L := d.L.take m, sy := (m : Int) } : DS).dd = true then ({ goesS d with L := d.L.take m, sy := (m : Int) } : DS).op else ({ goesS d with L := d.L.take m, sy := (m : Int) } : DS).op + 1 } : DS) = keepS (spendS d) m) := by
          unfold Hid
          rw [← SE.out]
          rfl
        rw [hd] at c6
        clear hd
        cases hg : goes d.st d.sn
        · rw [if_pos (show doneB d = true by simp [doneB, hg])]
          rw [hg] at GO
          clear hg
          go_enter Try.func24, Try.ntmps24
          go_wp2_with fail
          refine GO.out.mono ?_
          rintro _ w1 ⟨rfl, V1, g1⟩
          have q1 := V1.cells.2.1
          have q5 := V1.cells.2.2.2.2.2.1
          rw [HEL.out] at q1
          have hlg := V1.lt
          have HR := Lib.hid (show Rv w1 F g (.slice AL d.L.length cL) d.L by have := V1.2.1; rwa [HEL.out] at this)
          have HV1 := Lib.hid V1
          have HG1 := Lib.hid g1
          clear V1 g1
          have hRf := Lib.hid (HR.out.front m hm)
          have lit : Hid ((w1.alloc (.cells #[] 5)).ownsRow w1.heap.size 5 1 (.slice (some ⟨w1.heap.size, 0, none⟩) 0 0) ([] : List Value).length []) := own_lit0 w1
          have bz1 : w1.heap.size ≤ (w1.alloc (.cells #[] 5)).heap.size := (World.grownBy_alloc _ _ none).size
          have hlm : (d.L.take m).length = m := by rw [List.length_take]; omega
          have sr1 : Hid (Src Try.prog 1 31 (.slice AL (d.L.take m).length cL) (bs (d.L.take m)).length (bs (d.L.take m)) (w1.alloc (.cells #[] 5))) := src_none (by have := hRf.out.has.1; exact this) (World.grownBy_alloc w1 _ none) cL
          rw [hlm] at sr1
          have hl1 : (bs (d.L.take m)).length ≤ 1073741824 := by rw [bs_len]; omega
          go_wp2_with (at_builtin; go_loud (refine app_bytes rfl _ _ 31 rfl w1.heap.size (.slice (some ⟨w1.heap.size, 0, none⟩) 0 0) [] rfl lit.out (.slice AL m cL) (bs (d.L.take m)) rfl sr1.out (by simp only [List.length_nil]; omega) bz1 ?_; intro v1 wb g1; rw [List.nil_append] at g1; have o1 := Lib.hid g1.own; have gw1 := Lib.hid (only_step (only_alloc (only_refl w1 none) (.cells #[] 5)) g1.only (fun q hq => .inr (lit.out.lt q hq).1)); clear g1; obtain ⟨A1, k1, rfl⟩ := own_slice o1.out; have hbg := (gw1.out.block g hlg (by simp)).trans HV1.out.1; have f1b : wb.frozen? ⟨g, 1, none⟩ = false := (by simp [World.frozen?, hbg]); have f2b : wb.frozen? ⟨g, 2, none⟩ = false := (by simp [World.frozen?, hbg]); have f3b : wb.frozen? ⟨g, 3, none⟩ = false := (by simp [World.frozen?, hbg]); have x1 : wb.cell? ⟨g, 1, none⟩ = some vL := (by simp [World.cell?, hbg]); have x2 : wb.cell? ⟨g, 2, none⟩ = some (.int .i64 d.sy) := (by simp [World.cell?, hbg, goesS]); have x3 : wb.cell? ⟨g, 3, none⟩ = some vS := (by simp [World.cell?, hbg])))
          obtain ⟨n3, hn3⟩ : ∃ n3, (bs (d.L.take m)).length = n3 := ⟨_, rfl⟩
          have o1' := o1.out
          rw [hn3] at o1'
          try rw [hn3]
          obtain ⟨w5, hw5⟩ : ∃ Z, (wb.setCell ⟨g, 1, none⟩ (.slice A1 n3 k1)).setCell ⟨g, 2, none⟩ (.int .i64 m) = Z := ⟨_, rfl⟩
          have gs : wb.grownBy w5 (some g) := by subst hw5; exact only_set (p := ⟨g, 2, none⟩) (only_set (p := ⟨g, 1, none⟩) (only_refl _ _) (.inl rfl) _) (.inl rfl) _
          have g15 : w1.grownBy w5 (some g) := only_step (only_none gw1.out _) gs (fun _ h => .inl h)
          have own_ne : (Value.slice A1 n3 k1).ownBlock ≠ some g := fun e => by have := (o1'.lt g e).1; omega
          have RV : Rv w5 F g (.slice A1 n3 k1) ((d.L.take m)) := Rv.own (n := n3) (B := w1.heap.size) (kept_other o1' gs (fun k hk e => by cases hk; exact own_ne e)) own_ne (fun k e => HF.out k (by have := (o1'.lt k e).1; have := HG1.out.size; omega))
          have V5 : RkV w5 F g ({ goesS d with L := d.L.take m, sy := (m : Int) }) ev (.slice A1 n3 k1) (vS) := by
            refine HV1.out.to g15 ?_ (.inr RV) (.inl ⟨rfl, rfl⟩)
            subst hw5
            rw [heap_set (heap_set hbg)]
            rfl
          rw [hw5]
          clear hw5
          refine (rend_any F g _ ev _ _ w5 V5 HK.out.op).mono ?_
          rintro e3 w3 ⟨he3, V3, g3⟩
          rw [SE2.out] at V3
          have he3 : e3 = .returned (.int .i64 (spR d.st d.sn)) := he3
          subst he3
          go_wp2_with fail
          go_ret
          exact ⟨rfl, ⟨ev, _, _, V3, fun hp => HE.out (left_pos d HK.out.sn.1 hp)⟩, only_step (only_step HG1.out g15 (fun _ h => .inl h)) g3 (fun _ h => .inl h)⟩
        · have hev := HE.out (left_one d HK.out.sn.1 hg)
          cases h2 : (d.st % 2 == 0)
          · rw [if_neg (show ¬ doneB d = true by simp [doneB, hg, h2])]
            rw [h2] at hev
            rw [hg] at GO
            clear hg h2
            go_enter Try.func24, Try.ntmps24
            go_wp2_with fail
            refine GO.out.mono ?_
            rintro _ w1 ⟨rfl, V1, g1⟩
            have q1 := V1.cells.2.1
            have q5 := V1.cells.2.2.2.2.2.1
            rw [hev] at q5
            rw [HEL.out] at q1
            have hlg := V1.lt
            have HR := Lib.hid (show Rv w1 F g (.slice AL d.L.length cL) d.L by have := V1.2.1; rwa [HEL.out] at this)
            have HV1 := Lib.hid V1
            have HG1 := Lib.hid g1
            clear V1 g1
            go_wp2_with fail
            refine (rend_any F g _ ev vL vS w1 HV1.out HK.out.op).mono ?_
            rintro e3 w3 ⟨he3, V3, g3⟩
            rw [SE.out] at V3
            have he3 : e3 = .returned (.int .i64 (spR d.st d.sn)) := he3
            subst he3
            go_wp2_with fail
            go_ret
            exact ⟨rfl, ⟨ev, vL, vS, V3, fun hp => HE.out (left_pos d HK.out.sn.1 hp)⟩, only_step HG1.out g3 (fun _ h => .inl h)⟩
          · rw [if_pos (show doneB d = true by simp [doneB, h2])]
            rw [h2] at hev
            rw [hg] at GO
            clear hg h2
            go_enter Try.func24, Try.ntmps24
            go_wp2_with fail
            refine GO.out.mono ?_
            rintro _ w1 ⟨rfl, V1, g1⟩
            have q1 := V1.cells.2.1
            have q5 := V1.cells.2.2.2.2.2.1
            rw [hev] at q5
            rw [HEL.out] at q1
            have hlg := V1.lt
            have HR := Lib.hid (show Rv w1 F g (.slice AL d.L.length cL) d.L by have := V1.2.1; rwa [HEL.out] at this)
            have HV1 := Lib.hid V1
            have HG1 := Lib.hid g1
            clear V1 g1
            have hRf := Lib.hid (HR.out.front m hm)
            have lit : Hid ((w1.alloc (.cells #[] 5)).ownsRow w1.heap.size 5 1 (.slice (some ⟨w1.heap.size, 0, none⟩) 0 0) ([] : List Value).length []) := own_lit0 w1
            have bz1 : w1.heap.size ≤ (w1.alloc (.cells #[] 5)).heap.size := (World.grownBy_alloc _ _ none).size
            have hlm : (d.L.take m).length = m := by rw [List.length_take]; omega
            have sr1 : Hid (Src Try.prog 1 31 (.slice AL (d.L.take m).length cL) (bs (d.L.take m)).length (bs (d.L.take m)) (w1.alloc (.cells #[] 5))) := src_none (by have := hRf.out.has.1; exact this) (World.grownBy_alloc w1 _ none) cL
            rw [hlm] at sr1
            have hl1 : (bs (d.L.take m)).length ≤ 1073741824 := by rw [bs_len]; omega
            go_wp2_with (at_builtin; go_loud (refine app_bytes rfl _ _ 31 rfl w1.heap.size (.slice (some ⟨w1.heap.size, 0, none⟩) 0 0) [] rfl lit.out (.slice AL m cL) (bs (d.L.take m)) rfl sr1.out (by simp only [List.length_nil]; omega) bz1 ?_; intro v1 wb g1; rw [List.nil_append] at g1; have o1 := Lib.hid g1.own; have gw1 := Lib.hid (only_step (only_alloc (only_refl w1 none) (.cells #[] 5)) g1.only (fun q hq => .inr (lit.out.lt q hq).1)); clear g1; obtain ⟨A1, k1, rfl⟩ := own_slice o1.out; have hbg := (gw1.out.block g hlg (by simp)).trans HV1.out.1; have f1b : wb.frozen? ⟨g, 1, none⟩ = false := (by simp [World.frozen?, hbg]); have f2b : wb.frozen? ⟨g, 2, none⟩ = false := (by simp [World.frozen?, hbg]); have f3b : wb.frozen? ⟨g, 3, none⟩ = false := (by simp [World.frozen?, hbg]); have x1 : wb.cell? ⟨g, 1, none⟩ = some vL := (by simp [World.cell?, hbg]); have x2 : wb.cell? ⟨g, 2, none⟩ = some (.int .i64 d.sy) := (by simp [World.cell?, hbg, goesS]); have x3 : wb.cell? ⟨g, 3, none⟩ = some vS := (by simp [World.cell?, hbg])))
            obtain ⟨n3, hn3⟩ : ∃ n3, (bs (d.L.take m)).length = n3 := ⟨_, rfl⟩
            have o1' := o1.out
            rw [hn3] at o1'
            try rw [hn3]
            obtain ⟨w5, hw5⟩ : ∃ Z, (wb.setCell ⟨g, 1, none⟩ (.slice A1 n3 k1)).setCell ⟨g, 2, none⟩ (.int .i64 m) = Z := ⟨_, rfl⟩
            have gs : wb.grownBy w5 (some g) := by subst hw5; exact only_set (p := ⟨g, 2, none⟩) (only_set (p := ⟨g, 1, none⟩) (only_refl _ _) (.inl rfl) _) (.inl rfl) _
            have g15 : w1.grownBy w5 (some g) := only_step (only_none gw1.out _) gs (fun _ h => .inl h)
            have own_ne : (Value.slice A1 n3 k1).ownBlock ≠ some g := fun e => by have := (o1'.lt g e).1; omega
            have RV : Rv w5 F g (.slice A1 n3 k1) ((d.L.take m)) := Rv.own (n := n3) (B := w1.heap.size) (kept_other o1' gs (fun k hk e => by cases hk; exact own_ne e)) own_ne (fun k e => HF.out k (by have := (o1'.lt k e).1; have := HG1.out.size; omega))
            have V5 : RkV w5 F g ({ goesS d with L := d.L.take m, sy := (m : Int) }) ev (.slice A1 n3 k1) (vS) := by
              refine HV1.out.to g15 ?_ (.inr RV) (.inl ⟨rfl, rfl⟩)
              subst hw5
              rw [heap_set (heap_set hbg)]
              rfl
            rw [hw5]
            clear hw5
            refine (rend_any F g _ ev _ _ w5 V5 HK.out.op).mono ?_
            rintro e3 w3 ⟨he3, V3, g3⟩
            rw [SE2.out] at V3
            have he3 : e3 = .returned (.int .i64 (spR d.st d.sn)) := he3
            subst he3
            go_wp2_with fail
            go_ret
            exact ⟨rfl, ⟨ev, _, _, V3, fun hp => HE.out (left_pos d HK.out.sn.1 hp)⟩, only_step (only_step HG1.out g15 (fun _ h => .inl h)) g3 (fun _ h => .inl h)⟩
set_option maxRecDepth 100000 in
set_option maxHeartbeats 4000000 in
theorem rswap_any (F : Nat → Prop) (g : Nat) (d : DS) (B : Option Addr) (c : Nat) (b : List Int) (w : World) (h : Rk w F g d) (hk : Ok d) (hst : d.st ≤ 9223372036854775807) (hb : ∀ W, w.grownBy W (some g) → Has W W.heap.size B (bs b)) (hbl : b.length ≤ 1073741824) (hF : ∀ k, w.heap.size ≤ k → F k) :
    Calls Try.prog 22 #[.pointer (some ⟨g, 0, none⟩), .slice B b.length c] w fun e w' => e = .returned (.int .i64 (swapE d b)) ∧ Rk w' F g (swapS d b) ∧ w.grownBy w' (some g) := by
  obtain ⟨ev, vL, vS, hV, he⟩ := h
  obtain ⟨c0, c1, c2, c3, c4, c5, c6, c7⟩ := hV.cells
  obtain ⟨AL, cL, eL, _⟩ := hV.2.1
  rw [eL] at c1
  have HV := Lib.hid hV
  have HE := Lib.hid he
  have HK := Lib.hid hk
  have HF := Lib.hid hF
  have HEL := Lib.hid eL
  have kl := hk.l; have ks := hk.s; have kr := hk.rm
  clear hV he hk c2 c3 c4 c5 c7 eL hF
  have HB := Lib.hid hb
  clear hb
  by_cases hd : d.dd = true
  · rw [show swapE d b = 18 by simp [swapE, hd], show swapS d b = d by simp [swapS, hd]]
    rw [hd] at c6
    clear hd
    go_enter Try.func22, Try.ntmps22
    go_wp2_with fail
    go_ret
    exact ⟨rfl, ⟨ev, vL, vS, HV.out, HE.out⟩, only_refl _ _⟩
  · have hd : d.dd = false := by simpa using hd
    by_cases hf : d.rm < (b.length : Int)
    · rw [show swapE d b = 17 by simp [swapE, hd, hf], show swapS d b = d by simp [swapS, hf]]
      rw [hd] at c6
      clear hd
      go_enter Try.func22, Try.ntmps22
      go_wp2_with fail
      go_ret
      exact ⟨rfl, ⟨ev, vL, vS, HV.out, HE.out⟩, only_refl _ _⟩
    · rw [show swapE d b = spR d.st d.sn by simp [swapE, hd, hf], show swapS d b = if doneB d = true then keepS { spendS d with S := b } 0 else spendS d by simp [swapS, hd, hf]]
      have GO := Lib.hid (rgoes_any F g d ev vL vS w HV.out HK.out hd hst)
      have SE := Lib.hid (spend_eq d hd)
      have SE2 : Hid (({ ({ goesS d with S := b, L := [], sy := (0 : Int) } : DS) with op := if ({ goesS d with S := b, L := [], sy := (0 : Int) } : DS).dd = true then ({ goesS d with S := b, L := [], sy := (0 : Int) } : DS).op else ({ goesS d with S := b, L := [], sy := (0 : Int) } : DS).op + 1 } : DS) = keepS { spendS d with S := b } 0) := by
        unfold Hid
        rw [← SE.out]
        rfl
      rw [hd] at c6
      clear hd
      cases hg : goes d.st d.sn
      · rw [if_pos (show doneB d = true by simp [doneB, hg])]
        rw [hg] at GO
        clear hg
        go_enter Try.func22, Try.ntmps22
        go_wp2_with fail
        refine GO.out.mono ?_
        rintro _ w1 ⟨rfl, V1, g1⟩
        have q1 := V1.cells.2.1
        have q5 := V1.cells.2.2.2.2.2.1
        rw [HEL.out] at q1
        have hlg := V1.lt
        have HR := Lib.hid (show Rv w1 F g (.slice AL d.L.length cL) d.L by have := V1.2.1; rwa [HEL.out] at this)
        have HV1 := Lib.hid V1
        have HG1 := Lib.hid g1
        clear V1 g1
        have lit : Hid ((w1.alloc (.cells #[] 5)).ownsRow w1.heap.size 5 1 (.slice (some ⟨w1.heap.size, 0, none⟩) 0 0) ([] : List Value).length []) := own_lit0 w1
        have bz1 : w1.heap.size ≤ (w1.alloc (.cells #[] 5)).heap.size := (World.grownBy_alloc _ _ none).size
        have sr1 : Hid (Src Try.prog 1 31 (.slice B b.length c) (bs b).length (bs b) (w1.alloc (.cells #[] 5))) := src_none (HB.out w1 HG1.out) (World.grownBy_alloc w1 _ none) c
        have hl1 : (bs b).length ≤ 1073741824 := by rw [bs_len]; exact hbl
        go_wp2_with (at_builtin; go_loud (refine app_bytes rfl _ _ 31 rfl w1.heap.size (.slice (some ⟨w1.heap.size, 0, none⟩) 0 0) [] rfl lit.out (.slice B b.length c) (bs b) rfl sr1.out (by simp only [List.length_nil]; omega) bz1 ?_; intro v1 wb g1; rw [List.nil_append] at g1; have o1 := Lib.hid g1.own; have gw1 := Lib.hid (only_step (only_alloc (only_refl w1 none) (.cells #[] 5)) g1.only (fun q hq => .inr (lit.out.lt q hq).1)); clear g1; obtain ⟨A1, k1, rfl⟩ := own_slice o1.out; have hbg := (gw1.out.block g hlg (by simp)).trans HV1.out.1; have f1b : wb.frozen? ⟨g, 1, none⟩ = false := (by simp [World.frozen?, hbg]); have f2b : wb.frozen? ⟨g, 2, none⟩ = false := (by simp [World.frozen?, hbg]); have f3b : wb.frozen? ⟨g, 3, none⟩ = false := (by simp [World.frozen?, hbg]); have x1 : wb.cell? ⟨g, 1, none⟩ = some vL := (by simp [World.cell?, hbg]); have x2 : wb.cell? ⟨g, 2, none⟩ = some (.int .i64 d.sy) := (by simp [World.cell?, hbg, goesS]); have x3 : wb.cell? ⟨g, 3, none⟩ = some vS := (by simp [World.cell?, hbg])))
        obtain ⟨n3, hn3⟩ : ∃ n3, (bs b).length = n3 := ⟨_, rfl⟩
        have o1' := o1.out
        rw [hn3] at o1'
        try rw [hn3]
        obtain ⟨w5, hw5⟩ : ∃ Z, ((wb.setCell ⟨g, 3, none⟩ (.slice A1 n3 k1)).setCell ⟨g, 1, none⟩ (.slice none 0 0)).setCell ⟨g, 2, none⟩ (.int .i64 0) = Z := ⟨_, rfl⟩
        have gs : wb.grownBy w5 (some g) := by subst hw5; exact only_set (p := ⟨g, 2, none⟩) (only_set (p := ⟨g, 1, none⟩) (only_set (p := ⟨g, 3, none⟩) (only_refl _ _) (.inl rfl) _) (.inl rfl) _) (.inl rfl) _
        have g15 : w1.grownBy w5 (some g) := only_step (only_none gw1.out _) gs (fun _ h => .inl h)
        have own_ne : (Value.slice A1 n3 k1).ownBlock ≠ some g := fun e => by have := (o1'.lt g e).1; omega
        have RV : Rv w5 F g (.slice A1 n3 k1) (b) := Rv.own (n := n3) (B := w1.heap.size) (kept_other o1' gs (fun k hk e => by cases hk; exact own_ne e)) own_ne (fun k e => HF.out k (by have := (o1'.lt k e).1; have := HG1.out.size; omega))
        have V5 : RkV w5 F g ({ goesS d with S := b, L := [], sy := (0 : Int) }) ev (.slice none 0 0) (.slice A1 n3 k1) := by
          refine HV1.out.to g15 ?_ (.inr (Rv.nil _ _ _)) (.inr RV)
          subst hw5
          rw [heap_set (heap_set (heap_set hbg))]
          rfl
        rw [hw5]
        clear hw5
        refine (rend_any F g _ ev _ _ w5 V5 HK.out.op).mono ?_
        rintro e3 w3 ⟨he3, V3, g3⟩
        rw [SE2.out] at V3
        have he3 : e3 = .returned (.int .i64 (spR d.st d.sn)) := he3
        subst he3
        go_wp2_with fail
        go_ret
        exact ⟨rfl, ⟨ev, _, _, V3, fun hp => HE.out (left_pos d HK.out.sn.1 hp)⟩, only_step (only_step HG1.out g15 (fun _ h => .inl h)) g3 (fun _ h => .inl h)⟩
      · have hev := HE.out (left_one d HK.out.sn.1 hg)
        cases h2 : (d.st % 2 == 0)
        · rw [if_neg (show ¬ doneB d = true by simp [doneB, hg, h2])]
          rw [h2] at hev
          rw [hg] at GO
          clear hg h2
          go_enter Try.func22, Try.ntmps22
          go_wp2_with fail
          refine GO.out.mono ?_
          rintro _ w1 ⟨rfl, V1, g1⟩
          have q1 := V1.cells.2.1
          have q5 := V1.cells.2.2.2.2.2.1
          rw [hev] at q5
          rw [HEL.out] at q1
          have hlg := V1.lt
          have HR := Lib.hid (show Rv w1 F g (.slice AL d.L.length cL) d.L by have := V1.2.1; rwa [HEL.out] at this)
          have HV1 := Lib.hid V1
          have HG1 := Lib.hid g1
          clear V1 g1
          go_wp2_with fail
          refine (rend_any F g _ ev vL vS w1 HV1.out HK.out.op).mono ?_
          rintro e3 w3 ⟨he3, V3, g3⟩
          rw [SE.out] at V3
          have he3 : e3 = .returned (.int .i64 (spR d.st d.sn)) := he3
          subst he3
          go_wp2_with fail
          go_ret
          exact ⟨rfl, ⟨ev, vL, vS, V3, fun hp => HE.out (left_pos d HK.out.sn.1 hp)⟩, only_step HG1.out g3 (fun _ h => .inl h)⟩
        · rw [if_pos (show doneB d = true by simp [doneB, h2])]
          rw [h2] at hev
          rw [hg] at GO
          clear hg h2
          go_enter Try.func22, Try.ntmps22
          go_wp2_with fail
          refine GO.out.mono ?_
          rintro _ w1 ⟨rfl, V1, g1⟩
          have q1 := V1.cells.2.1
          have q5 := V1.cells.2.2.2.2.2.1
          rw [hev] at q5
          rw [HEL.out] at q1
          have hlg := V1.lt
          have HR := Lib.hid (show Rv w1 F g (.slice AL d.L.length cL) d.L by have := V1.2.1; rwa [HEL.out] at this)
          have HV1 := Lib.hid V1
          have HG1 := Lib.hid g1
          clear V1 g1
          have lit : Hid ((w1.alloc (.cells #[] 5)).ownsRow w1.heap.size 5 1 (.slice (some ⟨w1.heap.size, 0, none⟩) 0 0) ([] : List Value).length []) := own_lit0 w1
          have bz1 : w1.heap.size ≤ (w1.alloc (.cells #[] 5)).heap.size := (World.grownBy_alloc _ _ none).size
          have sr1 : Hid (Src Try.prog 1 31 (.slice B b.length c) (bs b).length (bs b) (w1.alloc (.cells #[] 5))) := src_none (HB.out w1 HG1.out) (World.grownBy_alloc w1 _ none) c
          have hl1 : (bs b).length ≤ 1073741824 := by rw [bs_len]; exact hbl
          go_wp2_with (at_builtin; go_loud (refine app_bytes rfl _ _ 31 rfl w1.heap.size (.slice (some ⟨w1.heap.size, 0, none⟩) 0 0) [] rfl lit.out (.slice B b.length c) (bs b) rfl sr1.out (by simp only [List.length_nil]; omega) bz1 ?_; intro v1 wb g1; rw [List.nil_append] at g1; have o1 := Lib.hid g1.own; have gw1 := Lib.hid (only_step (only_alloc (only_refl w1 none) (.cells #[] 5)) g1.only (fun q hq => .inr (lit.out.lt q hq).1)); clear g1; obtain ⟨A1, k1, rfl⟩ := own_slice o1.out; have hbg := (gw1.out.block g hlg (by simp)).trans HV1.out.1; have f1b : wb.frozen? ⟨g, 1, none⟩ = false := (by simp [World.frozen?, hbg]); have f2b : wb.frozen? ⟨g, 2, none⟩ = false := (by simp [World.frozen?, hbg]); have f3b : wb.frozen? ⟨g, 3, none⟩ = false := (by simp [World.frozen?, hbg]); have x1 : wb.cell? ⟨g, 1, none⟩ = some vL := (by simp [World.cell?, hbg]); have x2 : wb.cell? ⟨g, 2, none⟩ = some (.int .i64 d.sy) := (by simp [World.cell?, hbg, goesS]); have x3 : wb.cell? ⟨g, 3, none⟩ = some vS := (by simp [World.cell?, hbg])))
          obtain ⟨n3, hn3⟩ : ∃ n3, (bs b).length = n3 := ⟨_, rfl⟩
          have o1' := o1.out
          rw [hn3] at o1'
          try rw [hn3]
          obtain ⟨w5, hw5⟩ : ∃ Z, ((wb.setCell ⟨g, 3, none⟩ (.slice A1 n3 k1)).setCell ⟨g, 1, none⟩ (.slice none 0 0)).setCell ⟨g, 2, none⟩ (.int .i64 0) = Z := ⟨_, rfl⟩
          have gs : wb.grownBy w5 (some g) := by subst hw5; exact only_set (p := ⟨g, 2, none⟩) (only_set (p := ⟨g, 1, none⟩) (only_set (p := ⟨g, 3, none⟩) (only_refl _ _) (.inl rfl) _) (.inl rfl) _) (.inl rfl) _
          have g15 : w1.grownBy w5 (some g) := only_step (only_none gw1.out _) gs (fun _ h => .inl h)
          have own_ne : (Value.slice A1 n3 k1).ownBlock ≠ some g := fun e => by have := (o1'.lt g e).1; omega
          have RV : Rv w5 F g (.slice A1 n3 k1) (b) := Rv.own (n := n3) (B := w1.heap.size) (kept_other o1' gs (fun k hk e => by cases hk; exact own_ne e)) own_ne (fun k e => HF.out k (by have := (o1'.lt k e).1; have := HG1.out.size; omega))
          have V5 : RkV w5 F g ({ goesS d with S := b, L := [], sy := (0 : Int) }) ev (.slice none 0 0) (.slice A1 n3 k1) := by
            refine HV1.out.to g15 ?_ (.inr (Rv.nil _ _ _)) (.inr RV)
            subst hw5
            rw [heap_set (heap_set (heap_set hbg))]
            rfl
          rw [hw5]
          clear hw5
          refine (rend_any F g _ ev _ _ w5 V5 HK.out.op).mono ?_
          rintro e3 w3 ⟨he3, V3, g3⟩
          rw [SE2.out] at V3
          have he3 : e3 = .returned (.int .i64 (spR d.st d.sn)) := he3
          subst he3
          go_wp2_with fail
          go_ret
          exact ⟨rfl, ⟨ev, _, _, V3, fun hp => HE.out (left_pos d HK.out.sn.1 hp)⟩, only_step (only_step HG1.out g15 (fun _ h => .inl h)) g3 (fun _ h => .inl h)⟩
end Go.Proofs.Ytmjfemnjkgfgfaa
