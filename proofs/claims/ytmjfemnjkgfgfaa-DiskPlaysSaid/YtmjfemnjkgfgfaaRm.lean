/- The reference's disk: Append, Cut, Swap. Conditions: its numbers stay below 2^40. -/
import Derived.Test.YtmjfemnjkgfgfaaRl
namespace Go.Proofs.Ytmjfemnjkgfgfaa
open Go.RowKit Go.Deep
theorem src_none {w w' : World} {A : Option Addr} {l : List Int} (h : Has w w.heap.size A (bs l)) (hg : w.grownBy w' none) (c : Nat) : Src Try.prog 1 31 (.slice A l.length c) (bs l).length (bs l) w' := by
  have h := ((h.only hg (Nat.le_refl _) (fun _ h => by cases h)).more hg.size).src (P := Try.prog) (tx := 31) Try.underlying31 c (bs_one _)
  rw [bs_len] at h ⊢
  exact h
set_option maxRecDepth 100000 in
set_option maxHeartbeats 2000000 in
theorem rappend_any (F : Nat → Prop) (g : Nat) (d : DS) (B : Option Addr) (c : Nat) (b : List Int) (w : World) (h : Rk w F g d) (hk : Ok d) (hst : d.st ≤ 9223372036854775807) (hb : ∀ W, w.grownBy W (some g) → Has W W.heap.size B (bs b)) (hbl : b.length ≤ 1073741824) (hF : ∀ k, w.heap.size ≤ k → F k) :
    Calls Try.prog 14 #[.pointer (some ⟨g, 0, none⟩), .slice B b.length c] w fun e w' => e = .returned (.int .i64 (appendE d b)) ∧ Rk w' F g (appendS d b) ∧ w.grownBy w' (some g) := by
  obtain ⟨ev, vL, vS, hV, he⟩ := h
  obtain ⟨c0, c1, c2, c3, c4, c5, c6, c7⟩ := hV.cells
  obtain ⟨AL, cL, eL, hL⟩ := hV.2.1
  obtain ⟨AS, cS, eS, hS⟩ := hV.2.2
  rw [eL] at c1
  rw [eS] at c3
  have HV := Lib.hid hV
  have HE := Lib.hid he
  have HK := Lib.hid hk
  have HB := Lib.hid hb
  have HF := Lib.hid hF
  have HEL := Lib.hid eL
  have kl := hk.l; have ks := hk.s; have kr := hk.rm
  clear hV he hk c2 c4 c5 c7 hb eL eS hL hS hF
  by_cases hd : d.dd = true
  · rw [show appendE d b = 18 by simp [appendE, hd], show appendS d b = d by simp [appendS, hd]]
    rw [hd] at c6
    clear hd
    go_enter Try.func14, Try.ntmps14
    go_wp2_with fail
    go_ret
    exact ⟨rfl, ⟨ev, vL, vS, HV.out, HE.out⟩, only_refl _ _⟩
  · have hd : d.dd = false := by simpa using hd
    have hw1 : IntKind.i64.wrap ((d.L.length : Int) + (d.S.length : Int)) = (d.L.length : Int) + (d.S.length : Int) := by rw [IntKind.wrap_i64]; omega
    have hw2 : IntKind.i64.wrap ((d.L.length : Int) + (d.S.length : Int) + (b.length : Int)) = (d.L.length : Int) + (d.S.length : Int) + (b.length : Int) := by rw [IntKind.wrap_i64]; omega
    by_cases hf : d.rm < (d.L.length : Int) + d.S.length + b.length
    · rw [show appendE d b = 17 by simp [appendE, hd, hf], show appendS d b = d by simp [appendS, hf]]
      rw [hd] at c6
      clear hd
      go_enter Try.func14, Try.ntmps14
      go_wp2_with fail
      go_quiet (fail)
      go_wp2_with fail
      go_ret
      exact ⟨rfl, ⟨ev, vL, vS, ⟨HV.out.1, HV.out.2.1, HV.out.2.2⟩, HE.out⟩, only_drewN (only_refl _ _) _⟩
    · rw [show appendE d b = spR d.st d.sn by simp [appendE, hd, hf, spendE], show appendS d b = spendS { d with L := d.L ++ b } by simp [appendS, hd, hf]]
      have GO : ∀ n, Hid (Calls Try.prog 30 #[.pointer (some ⟨g, 0, none⟩)] (w.drewN n) fun e w' => e = .returned (.bool (goes d.st d.sn)) ∧ RkV w' F g (goesS d) ev vL vS ∧ (w.drewN n).grownBy w' (some g)) := fun n => rgoes_any F g d ev vL vS (w.drewN n) HV.out HK.out hd hst
      have SE := Lib.hid (spend_eq { d with L := d.L ++ b } hd)
      rw [hd] at c6
      clear hd
      go_enter Try.func14, Try.ntmps14
      go_wp2_with fail
      go_quiet (fail)
      go_wp2_with fail
      refine (GO _).out.mono ?_
      rintro _ w1 ⟨rfl, V1, g1⟩
      have g1' : w.grownBy w1 (some g) := only_step (only_drewN (only_refl w (some g)) _) g1 (fun _ h => .inl h)
      have q1 := V1.cells.2.1
      rw [HEL.out] at q1
      have hlg := V1.lt
      have HR := Lib.hid (show Rv w1 F g (.slice AL d.L.length cL) d.L by have := V1.2.1; rwa [HEL.out] at this)
      have lit : Hid ((w1.alloc (.cells #[] 5)).ownsRow w1.heap.size 5 1 (.slice (some ⟨w1.heap.size, 0, none⟩) 0 0) ([] : List Value).length []) := own_lit0 w1
      have sr1 : Hid (Src Try.prog 1 31 (.slice AL d.L.length cL) (bs d.L).length (bs d.L) (w1.alloc (.cells #[] 5))) := src_none HR.out.has.1 (World.grownBy_alloc w1 _ none) cL
      have bz1 : w1.heap.size ≤ (w1.alloc (.cells #[] 5)).heap.size := (World.grownBy_alloc _ _ none).size
      have hl1 : (bs d.L).length ≤ 1073741824 := by rw [bs_len]; exact kl
      have hl2 : (bs b).length ≤ 1073741824 := by rw [bs_len]; exact hbl
      have HV1 := Lib.hid V1
      have HG1 := Lib.hid g1'
      clear V1 g1 g1'
      go_wp2_with (first
        | (at_builtin; (refine app_bytes rfl _ _ 31 rfl w1.heap.size (.slice A1 (bs d.L).length k1) (bs d.L) rfl o1.out (.slice B b.length c) (bs b) rfl sr2.out (by omega) gz1 ?_; intro v2 wb g2; have o2 := Lib.hid g2.own; have gw2 := Lib.hid (only_step gw1.out g2.only (fun q hq => .inr (o1.out.lt q hq).1)); clear g2; obtain ⟨A2, k2, rfl⟩ := own_slice o2.out; have Vb := (HV1.out.1); have hbg := (gw2.out.block g hlg (by simp)).trans Vb; have fb : wb.frozen? ⟨g, 1, none⟩ = false := (by simp [World.frozen?, hbg]); have cb1 : wb.cell? ⟨g, 1, none⟩ = some vL := (by simp [World.cell?, hbg])))
        | (at_builtin; go_loud (refine app_bytes rfl _ _ 31 rfl w1.heap.size (.slice (some ⟨w1.heap.size, 0, none⟩) 0 0) [] rfl lit.out (.slice AL d.L.length cL) (bs d.L) rfl sr1.out (by simp only [List.length_nil]; omega) bz1 ?_; intro v1 wa g1; rw [List.nil_append] at g1; have o1 := Lib.hid g1.own; have gw1 := Lib.hid (only_step (only_alloc (only_refl w1 none) (.cells #[] 5)) g1.only (fun q hq => .inr (lit.out.lt q hq).1)); clear g1; obtain ⟨A1, k1, rfl⟩ := own_slice o1.out; have gz1 := gw1.out.size; have sr2 : Hid (Src Try.prog 1 31 (.slice B b.length c) (bs b).length (bs b) wa) := src_none (HB.out wa (only_step HG1.out gw1.out (fun _ h => by cases h))) (only_refl wa none) c)))
      obtain ⟨n3, hn3⟩ : ∃ n3, (bs d.L ++ bs b).length = n3 := ⟨_, rfl⟩
      have hn3' : (bs d.L).length + (bs b).length = n3 := by rw [← hn3, List.length_append]
      have HN3 := Lib.hid hn3
      have o2' := o2.out
      rw [hn3] at o2'
      try rw [hn3]
      try rw [hn3']
      obtain ⟨w5, hw5⟩ : ∃ Z, wb.setCell ⟨g, 1, none⟩ (.slice A2 n3 k2) = Z := ⟨_, rfl⟩
      have gs : wb.grownBy w5 (some g) := by subst hw5; exact only_set (p := ⟨g, 1, none⟩) (only_refl _ _) (.inl rfl) _
      have g15 : w1.grownBy w5 (some g) := only_step (only_none gw2.out _) gs (fun _ h => .inl h)
      have own_ne : (Value.slice A2 n3 k2).ownBlock ≠ some g := fun e => by have := (o2'.lt g e).1; omega
      have V5 : RkV w5 F g (goesS { d with L := d.L ++ b }) ev (.slice A2 n3 k2) vS := by
        refine HV1.out.to g15 ?_ (.inr ?_) (.inl ⟨rfl, rfl⟩)
        · subst hw5
          rw [heap_set hbg]
          rfl
        · refine Rv.own (l := d.L ++ b) (n := n3) (B := w1.heap.size) ?_ own_ne (fun k e => HF.out k (by have := (o2'.lt k e).1; have := HG1.out.size; omega))
          rw [bs_append]
          exact kept_other o2' gs (fun k hk e => by cases hk; exact own_ne e)
      rw [hw5]
      clear hw5
      refine (rend_any F g _ ev _ vS w5 V5 HK.out.op).mono ?_
      rintro e3 w3 ⟨he3, V3, g3⟩
      rw [SE.out] at V3
      rw [show (if (goesS { d with L := d.L ++ b }).dd = true then (18 : Int) else 0) = spR d.st d.sn from rfl] at he3
      subst he3
      go_wp2_with fail
      go_ret
      exact ⟨rfl, ⟨ev, _, vS, V3, fun hp => HE.out (left_pos d HK.out.sn.1 hp)⟩, only_step (only_step HG1.out g15 (fun _ h => .inl h)) g3 (fun _ h => .inl h)⟩
end Go.Proofs.Ytmjfemnjkgfgfaa
