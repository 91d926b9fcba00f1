/- Rows of the law's, read in every world behind; the walk of RangesNone: it returns true for every input. No condition. -/
import Derived.Test.YtnljccmchmclnaaRo
import Derived.Test.YtnljccmchmclnaaRow
namespace Go.Proofs.Ytnljccmchmclnaa
open Go.RowKit Go.Deep

def Lv (w : World) (A : Option Addr) (c : Nat) (l : List E2) : Prop := ∀ V, w.grownBy V none → Vw V V.heap.size A c l
theorem Lv.of {w : World} {A : Option Addr} {c : Nat} {l : List E2} (h : Vw w w.heap.size A c l) : Lv w A c l := fun _ hV => h.up hV
theorem Lv.on {w w' : World} {A : Option Addr} {c : Nat} {l : List E2} (h : Lv w A c l) (g : w.grownBy w' none) : Lv w' A c l := fun V hV => h V (grow2 g hV)
theorem same_lv {w : World} {A A' : Option Addr} {c c' : Nat} {l m : List E2} (h : Lv w A c l) (k : Lv w A' c' m) (hl : l.length ≤ 1073741824) (r : Bool) (hr : r = true ↔ l = m) {V : World} (g : w.grownBy V none) :
    Calls Try.prog 16 #[.slice A l.length c, .slice A' m.length c'] V fun e w' => e = .returned (.bool r) ∧ w.grownBy w' none :=
  (same_any A c l A' c' m V (h V g).has (k V g).has (by omega) r hr).mono fun _ _ h => ⟨h.1, grow2 g h.2⟩
def GotL (w : World) (L : List E2) (e : Ending) (w' : World) : Prop := ∃ A c, e = .returned (.slice A L.length c) ∧ Lv w' A c L ∧ w.grownBy w' none
theorem got_lv {w : World} {L : List E2} {e : Ending} {w' : World} (h : GotR w L e w') {V : World} (g : V.grownBy w none) : GotL V L e w' := by
  obtain ⟨v, he, ho, hg⟩ := h
  obtain ⟨A3, c3, rfl⟩ := own_slice_w ho
  exact ⟨A3, c3, he, Lv.of (Vw.own ho).1, grow2 g hg⟩
theorem add_lv {w : World} {A : Option Addr} {c : Nat} {l : List E2} (h : Lv w A c l) (hl : l.length ≤ 1073741824) (f t : Int) (hr : okR (f, t)) {V : World} (g : w.grownBy V none) :
    Calls Try.prog 11 #[.slice A l.length c, .agg #[.int .i64 f, .int .i64 t]] V (GotL w (addP l f t)) :=
  (add_any A c l f t V (h V g) (by omega) hr).mono fun _ _ h => got_lv h g
theorem bad_lv {w : World} {A : Option Addr} {c : Nat} {l : List E2} (h : Lv w A c l) (hl : l.length ≤ 1073741824) (f t : Int) (hr : ¬ isRange f t) {V : World} (g : w.grownBy V none) :
    Calls Try.prog 11 #[.slice A l.length c, .agg #[.int .i64 f, .int .i64 t]] V (GotL w l) :=
  (add_bad A c l f t V (h V g).has (by omega) hr).mono fun _ _ h => got_lv h g
theorem of_lv (A : Option Addr) (c : Nat) (ns : List Int) (w : World) (h : Has w w.heap.size A (is_ ns)) (hb : ∀ n ∈ ns, -9223372036854775808 ≤ n ∧ n ≤ 9223372036854775807) :
    Calls Try.prog 9 #[.slice A ns.length c] w fun e w' => ∃ A' c' l, e = .returned (.slice A' l.length c') ∧ Lv w' A' c' l ∧ Ok11 l ∧ w.grownBy w' none :=
  (of_any A c ns w h hb).mono fun e w' ⟨v, l, he, ho, ok, hg⟩ => by
    obtain ⟨A3, c3, rfl⟩ := own_slice_w ho
    exact ⟨A3, c3, l, he, Lv.of (Vw.own ho).1, ok, hg⟩
theorem Bx.swap_grow (w : World) (B : Nat) (f' t' : Int) : w.grownBy ((w.setCell ⟨B, 0, none⟩ (.int .i64 f')).setCell ⟨B, 1, none⟩ (.int .i64 t')) (some B) := set_only (set_only (only_refl w _) 0 _) 1 _

set_option maxRecDepth 100000 in
set_option maxHeartbeats 4000000 in
theorem rangesNone_walk (A0 : Option Addr) (c0 : Nat) (ns : List Int) (f t : Int) (w : World) (h : Has w w.heap.size A0 (is_ ns)) (hb : ∀ n ∈ ns, -9223372036854775808 ≤ n ∧ n ≤ 9223372036854775807) :
    Calls Try.prog 5 #[.slice A0 ns.length c0, .agg #[.int .i64 f, .int .i64 t]] w fun e w' => e = .returned (.bool true) ∧ w.grownBy w' none := by
  have HA := Lib.hid h
  have HB := Lib.hid hb
  have b0 := Lib.hid (Bx.new w f t)
  have g0 := Lib.hid (World.grownBy_alloc w (.cells #[.int .i64 f, .int .i64 t] 24) none)
  clear h hb
  go_enter Try.func5, Try.ntmps5
  go_wp2_with fail
  obtain ⟨w0, hw0⟩ : ∃ w0, w0 = w.alloc (.cells #[.int .i64 f, .int .i64 t] 24) := ⟨_, rfl⟩
  rw [← hw0] at b0 g0 ⊢
  clear hw0
  refine (known_any _).mono ?_
  rintro _ w1 ⟨rfl, g1⟩
  have b1 := Lib.hid (b0.out.keep g1)
  have G1 := Lib.hid (grow2 g0.out g1)
  have z1 : w.heap.size < w1.heap.size := b1.out.lt
  clear g1
  go_wp2_with fail
  refine (of_any A0 c0 ns w1 (HA.out.up G1.out) HB.out).mono ?_
  rintro _ w2 ⟨v, l, rfl, ho, ok, g2⟩
  obtain ⟨A, c, rfl⟩ := own_slice_w ho
  have HO := Lib.hid ho
  have hl : l.length ≤ 20 := ok.len
  have b2 := Lib.hid (b1.out.keep g2)
  have G2 := Lib.hid (grow2 G1.out g2)
  clear ho ok g2 HA HB G1 b0 b1 g0
  obtain ⟨r1, r2⟩ := b2.out.cells
  have key : ∀ (F T : Int), ¬ isRange F T → ∀ W, Bx W w.heap.size F T → Lv W A c l → w.grownBy W none → True := fun _ _ _ _ _ _ _ => trivial
  by_cases hr : isRange f t
  · unfold isRange at hr
    have t1 : (0 : Int) ≤ f := by omega
    have t2 : f < t := by omega
    have t3 : t ≤ 1073741824 := by omega
    have f1 := b2.out.thaw
    have hbad := Lib.hid (show ¬ isRange t f by unfold isRange; omega)
    clear hr key
    go_wp2_with fail
    obtain ⟨w3, hw3⟩ : ∃ w3, w3 = (w2.setCell ⟨w.heap.size, 0, none⟩ (.int .i64 t)).setCell ⟨w.heap.size, 1, none⟩ (.int .i64 f) := ⟨_, rfl⟩
    rw [← hw3]
    have g3 : w2.grownBy w3 (some w.heap.size) := by rw [hw3]; exact Bx.swap_grow w2 _ t f
    have LV : Hid (Lv w3 A c l) := Lib.hid (Lv.of (Vw.own (HO.out.kept g3 (.inr (fun e => by have := own_ge HO.out _ e; omega)))).1)
    have G3 := Lib.hid (only_step G2.out g3 (fun k hk => by cases hk; exact .inr (Nat.le_refl _)))
    clear hw3 g3 r1 r2 f1 b2 HO G2
    refine (bad_lv LV.out (by omega) t f hbad.out (only_refl _ _)).mono ?_
    rintro _ w4 ⟨A4, c4, rfl, l4, g4⟩
    have L4 := Lib.hid l4
    have LV := Lib.hid (LV.out.on g4)
    have G4 := Lib.hid (grow2 G3.out g4)
    clear l4 g4 G3
    go_wp2_with fail
    refine (same_lv L4.out LV.out (by omega) true (by simp) (only_refl _ _)).mono ?_
    rintro _ w5 ⟨rfl, g5⟩
    have LV := Lib.hid (LV.out.on g5)
    have G5 := Lib.hid (grow2 G4.out g5)
    clear g5 G4 L4
    go_wp2_with fail
    refine (bad_lv LV.out (by omega) 5 5 (by unfold isRange; omega) (only_refl _ _)).mono ?_
    rintro _ w6 ⟨A6, c6, rfl, l6, g6⟩
    have L6 := Lib.hid l6
    have LV := Lib.hid (LV.out.on g6)
    have G6 := Lib.hid (grow2 G5.out g6)
    clear l6 g6 G5
    go_wp2_with fail
    refine (same_lv L6.out LV.out (by omega) true (by simp) (only_refl _ _)).mono ?_
    rintro _ w7 ⟨rfl, g7⟩
    have LV := Lib.hid (LV.out.on g7)
    have G7 := Lib.hid (grow2 G6.out g7)
    clear g7 G6 L6
    go_wp2_with fail
    refine (bad_lv LV.out (by omega) (-1) 3 (by unfold isRange; omega) (only_refl _ _)).mono ?_
    rintro _ w8 ⟨A8, c8, rfl, l8, g8⟩
    have L8 := Lib.hid l8
    have LV := Lib.hid (LV.out.on g8)
    have G8 := Lib.hid (grow2 G7.out g8)
    clear l8 g8 G7
    go_wp2_with fail
    refine (same_lv L8.out LV.out (by omega) true (by simp) (only_refl _ _)).mono ?_
    rintro _ w9 ⟨rfl, g9⟩
    have G9 := Lib.hid (grow2 G8.out g9)
    go_wp2_with fail
    go_ret
    exact ⟨rfl, G9.out⟩
  · rcases (show f < 0 ∨ (0 ≤ f ∧ ¬ f < t) ∨ (0 ≤ f ∧ f < t ∧ ¬ t ≤ 1073741824) by unfold isRange at hr; omega) with t1 | ⟨t1, t2⟩ | ⟨t1, t2, t3⟩
    · have t1' : ¬ (0 : Int) ≤ f := by omega
      have hbad := Lib.hid hr
      have LV : Hid (Lv w2 A c l) := Lib.hid (Lv.of (Vw.own HO.out).1)
      clear hr key b2 HO
      go_wp2_with fail
      refine (bad_lv LV.out (by omega) f t hbad.out (only_refl _ _)).mono ?_
      rintro _ w4 ⟨A4, c4, rfl, l4, g4⟩
      have L4 := Lib.hid l4
      have LV := Lib.hid (LV.out.on g4)
      have G4 := Lib.hid (grow2 G2.out g4)
      clear l4 g4 G2 r1 r2
      go_wp2_with fail
      refine (same_lv L4.out LV.out (by omega) true (by simp) (only_refl _ _)).mono ?_
      rintro _ w5 ⟨rfl, g5⟩
      have LV := Lib.hid (LV.out.on g5)
      have G5 := Lib.hid (grow2 G4.out g5)
      clear g5 G4 L4
      go_wp2_with fail
      refine (bad_lv LV.out (by omega) 5 5 (by unfold isRange; omega) (only_refl _ _)).mono ?_
      rintro _ w6 ⟨A6, c6, rfl, l6, g6⟩
      have L6 := Lib.hid l6
      have LV := Lib.hid (LV.out.on g6)
      have G6 := Lib.hid (grow2 G5.out g6)
      clear l6 g6 G5
      go_wp2_with fail
      refine (same_lv L6.out LV.out (by omega) true (by simp) (only_refl _ _)).mono ?_
      rintro _ w7 ⟨rfl, g7⟩
      have LV := Lib.hid (LV.out.on g7)
      have G7 := Lib.hid (grow2 G6.out g7)
      clear g7 G6 L6
      go_wp2_with fail
      refine (bad_lv LV.out (by omega) (-1) 3 (by unfold isRange; omega) (only_refl _ _)).mono ?_
      rintro _ w8 ⟨A8, c8, rfl, l8, g8⟩
      have L8 := Lib.hid l8
      have LV := Lib.hid (LV.out.on g8)
      have G8 := Lib.hid (grow2 G7.out g8)
      clear l8 g8 G7
      go_wp2_with fail
      refine (same_lv L8.out LV.out (by omega) true (by simp) (only_refl _ _)).mono ?_
      rintro _ w9 ⟨rfl, g9⟩
      have G9 := Lib.hid (grow2 G8.out g9)
      go_wp2_with fail
      go_ret
      exact ⟨rfl, G9.out⟩
    · have hbad := Lib.hid hr
      have LV : Hid (Lv w2 A c l) := Lib.hid (Lv.of (Vw.own HO.out).1)
      clear hr key b2 HO
      go_wp2_with fail
      refine (bad_lv LV.out (by omega) f t hbad.out (only_refl _ _)).mono ?_
      rintro _ w4 ⟨A4, c4, rfl, l4, g4⟩
      have L4 := Lib.hid l4
      have LV := Lib.hid (LV.out.on g4)
      have G4 := Lib.hid (grow2 G2.out g4)
      clear l4 g4 G2 r1 r2
      go_wp2_with fail
      refine (same_lv L4.out LV.out (by omega) true (by simp) (only_refl _ _)).mono ?_
      rintro _ w5 ⟨rfl, g5⟩
      have LV := Lib.hid (LV.out.on g5)
      have G5 := Lib.hid (grow2 G4.out g5)
      clear g5 G4 L4
      go_wp2_with fail
      refine (bad_lv LV.out (by omega) 5 5 (by unfold isRange; omega) (only_refl _ _)).mono ?_
      rintro _ w6 ⟨A6, c6, rfl, l6, g6⟩
      have L6 := Lib.hid l6
      have LV := Lib.hid (LV.out.on g6)
      have G6 := Lib.hid (grow2 G5.out g6)
      clear l6 g6 G5
      go_wp2_with fail
      refine (same_lv L6.out LV.out (by omega) true (by simp) (only_refl _ _)).mono ?_
      rintro _ w7 ⟨rfl, g7⟩
      have LV := Lib.hid (LV.out.on g7)
      have G7 := Lib.hid (grow2 G6.out g7)
      clear g7 G6 L6
      go_wp2_with fail
      refine (bad_lv LV.out (by omega) (-1) 3 (by unfold isRange; omega) (only_refl _ _)).mono ?_
      rintro _ w8 ⟨A8, c8, rfl, l8, g8⟩
      have L8 := Lib.hid l8
      have LV := Lib.hid (LV.out.on g8)
      have G8 := Lib.hid (grow2 G7.out g8)
      clear l8 g8 G7
      go_wp2_with fail
      refine (same_lv L8.out LV.out (by omega) true (by simp) (only_refl _ _)).mono ?_
      rintro _ w9 ⟨rfl, g9⟩
      have G9 := Lib.hid (grow2 G8.out g9)
      go_wp2_with fail
      go_ret
      exact ⟨rfl, G9.out⟩
    · have hbad := Lib.hid hr
      have LV : Hid (Lv w2 A c l) := Lib.hid (Lv.of (Vw.own HO.out).1)
      clear hr key b2 HO
      go_wp2_with fail
      refine (bad_lv LV.out (by omega) f t hbad.out (only_refl _ _)).mono ?_
      rintro _ w4 ⟨A4, c4, rfl, l4, g4⟩
      have L4 := Lib.hid l4
      have LV := Lib.hid (LV.out.on g4)
      have G4 := Lib.hid (grow2 G2.out g4)
      clear l4 g4 G2 r1 r2
      go_wp2_with fail
      refine (same_lv L4.out LV.out (by omega) true (by simp) (only_refl _ _)).mono ?_
      rintro _ w5 ⟨rfl, g5⟩
      have LV := Lib.hid (LV.out.on g5)
      have G5 := Lib.hid (grow2 G4.out g5)
      clear g5 G4 L4
      go_wp2_with fail
      refine (bad_lv LV.out (by omega) 5 5 (by unfold isRange; omega) (only_refl _ _)).mono ?_
      rintro _ w6 ⟨A6, c6, rfl, l6, g6⟩
      have L6 := Lib.hid l6
      have LV := Lib.hid (LV.out.on g6)
      have G6 := Lib.hid (grow2 G5.out g6)
      clear l6 g6 G5
      go_wp2_with fail
      refine (same_lv L6.out LV.out (by omega) true (by simp) (only_refl _ _)).mono ?_
      rintro _ w7 ⟨rfl, g7⟩
      have LV := Lib.hid (LV.out.on g7)
      have G7 := Lib.hid (grow2 G6.out g7)
      clear g7 G6 L6
      go_wp2_with fail
      refine (bad_lv LV.out (by omega) (-1) 3 (by unfold isRange; omega) (only_refl _ _)).mono ?_
      rintro _ w8 ⟨A8, c8, rfl, l8, g8⟩
      have L8 := Lib.hid l8
      have LV := Lib.hid (LV.out.on g8)
      have G8 := Lib.hid (grow2 G7.out g8)
      clear l8 g8 G7
      go_wp2_with fail
      refine (same_lv L8.out LV.out (by omega) true (by simp) (only_refl _ _)).mono ?_
      rintro _ w9 ⟨rfl, g9⟩
      have G9 := Lib.hid (grow2 G8.out g9)
      go_wp2_with fail
      go_ret
      exact ⟨rfl, G9.out⟩
end Go.Proofs.Ytnljccmchmclnaa
