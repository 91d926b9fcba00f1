/- slices.BinarySearchFunc by vector.order; vector.find. No condition of the program's own. -/
import Derived.Test.YtlanldjpafkckaaVc
namespace Go.Proofs.Ytlanldjpafkckaa
open Go.RowKit Go.Deep

def vhit (l : List E3) (x : E3) : Bool := match l[vpos l x]? with | some y => decide (y.1 = x.1 ∧ y.2.1 = x.2.1) | none => false
def agg3 (x : E3) : Value := .agg #[.int .i64 x.1, .int .i64 x.2.1, .int .i64 x.2.2]
def box3 (w : World) (B : Nat) (x : E3) : Prop := w.cell? ⟨B, 0, none⟩ = some (.int .i64 x.1) ∧ w.cell? ⟨B, 1, none⟩ = some (.int .i64 x.2.1) ∧ w.cell? ⟨B, 2, none⟩ = some (.int .i64 x.2.2)
theorem box3_new (w : World) (x : E3) (T : TypeId) : box3 (w.alloc (.cells #[.int .i64 x.1, .int .i64 x.2.1, .int .i64 x.2.2] T)) w.heap.size x :=
  ⟨cell_new w _ T 0 _ rfl, cell_new w _ T 1 _ rfl, cell_new w _ T 2 _ rfl⟩
theorem box3.kept {w w' : World} {B : Nat} {x : E3} (h : box3 w B x) (hg : w.grownBy w' none) (hb : B < w.heap.size) : box3 w' B x := by
  have o : ∀ j, w'.cell? ⟨B, j, none⟩ = w.cell? ⟨B, j, none⟩ := fun j => World.cell?_of_block (hg.block B hb (by simp))
  exact ⟨(o 0).trans h.1, (o 1).trans h.2.1, (o 2).trans h.2.2⟩
theorem Has.kept {w w' : World} {lim : Nat} {A : Option Addr} {xs : List Value} (h : Has w lim A xs) (hg : w.grownBy w' none) (hl : lim ≤ w.heap.size) : Has w' lim A xs :=
  h.only hg hl (fun _ e => by cases e)
theorem Has.up {w w' : World} {A : Option Addr} {xs : List Value} (h : Has w w.heap.size A xs) (hg : w.grownBy w' none) : Has w' w'.heap.size A xs :=
  (h.kept hg (Nat.le_refl _)).more hg.size

set_option maxRecDepth 100000 in
set_option maxHeartbeats 1000000 in
theorem bs_any (A : Option Addr) (c : Nat) (l : List E3) (x : E3) (w : World) (h : Has w w.heap.size A (dc l)) (hs : Srt l) (hl : l.length ≤ 1099511627776) :
    Calls Try.prog 29 #[.slice A l.length c, .agg #[.int .i64 x.1, .int .i64 x.2.1, .int .i64 x.2.2], .func (.func 27) #[] #[]] w fun e w' =>
      e = .returned (.tuple #[.int .i64 (vpos l x : Nat), .bool (vhit l x)]) ∧ w.grownBy w' none := by
  have HA := Lib.hid h
  have HS := Lib.hid hs
  clear h hs
  go_enter Try.func29, Try.ntmps29
  go_wp2_with fail
  have b0 := box3_new w x 40
  have g0 := World.grownBy_alloc w (.cells #[.int .i64 x.1, .int .i64 x.2.1, .int .i64 x.2.2] 40) none
  have z0 : w.heap.size < (w.alloc (.cells #[.int .i64 x.1, .int .i64 x.2.1, .int .i64 x.2.2] 40)).heap.size := by show _ < (w.heap.push _).size; rw [Array.size_push]; omega
  obtain ⟨w0, hw0⟩ : ∃ w0, w0 = w.alloc (.cells #[.int .i64 x.1, .int .i64 x.2.1, .int .i64 x.2.2] 40) := ⟨_, rfl⟩
  rw [← hw0] at b0 g0 z0 ⊢
  have B0 := Lib.hid b0
  have G0 := Lib.hid g0
  clear hw0 b0 g0
  go_loopw [9, 10] (fun si sj wr => ∃ i j : Nat, i ≤ j ∧ j ≤ l.length ∧ si = .int .i64 i ∧ sj = .int .i64 j ∧ Hid (∀ k y, l[k]? = some y → k < i → klt y x) ∧ Hid (∀ y, l[j]? = some y → ¬ klt y x) ∧ Hid (w0.grownBy wr none)) (fun si sj _ => (intOf sj - intOf si).toNat)
  case atStart => exact ⟨0, l.length, Nat.zero_le _, Nat.le_refl _, rfl, rfl, fun k y _ h => absurd h (by omega), fun y h => by simp at h, only_refl _ _⟩
  case round =>
    obtain ⟨i, j, hij, hj, rfl, rfl, H1, H2, hG⟩ := hrel
    by_cases hlt : i < j
    · have u1 : (i : Int) < (j : Int) := by omega
      have u0 : (0 : Int) ≤ (i : Int) + (j : Int) := by omega
      have hes : IntKind.i64.wrap ((i : Int) + (j : Int)) = (i : Int) + (j : Int) := by rw [IntKind.wrap_i64]; omega
      obtain ⟨m, hm⟩ : ∃ m : Nat, m = (i + j) / 2 := ⟨_, rfl⟩
      have hmi : i ≤ m := by omega
      have hmj : m < j := by omega
      go_wp2_with fail
      rw [show ((i : Int) + (j : Int)) / 2 = (m : Int) by omega]
      have m0 : (0 : Int) ≤ (m : Int) := by omega
      have m1 : (m : Int) < (l.length : Int) := by omega
      obtain ⟨y, hy⟩ : ∃ y, l[m]? = some y := ⟨_, List.getElem?_eq_getElem (by omega)⟩
      obtain ⟨b, off, e0, hb, y1, y2, y3⟩ := HA.out.dot hy
      subst e0
      have HY := Lib.hid hy
      have SV : ∀ V, w0.grownBy V none → Hid (V.cell? ⟨b, off + m * 3, none⟩ = some (.int .i64 y.1) ∧ V.cell? ⟨b, off + m * 3 + 1, none⟩ = some (.int .i64 y.2.1) ∧ V.cell? ⟨b, off + m * 3 + 2, none⟩ = some (.int .i64 y.2.2) ∧ V.cell? ⟨w.heap.size, 0, none⟩ = some (.int .i64 x.1) ∧ V.cell? ⟨w.heap.size, 1, none⟩ = some (.int .i64 x.2.1) ∧ V.cell? ⟨w.heap.size, 2, none⟩ = some (.int .i64 x.2.2) ∧ w0.grownBy V none) := fun V hV => by
        have o : ∀ j, V.cell? ⟨b, j, none⟩ = w.cell? ⟨b, j, none⟩ := fun j => World.cell?_of_block ((only_step G0.out hV (fun _ h => by cases h)).block b hb (by simp))
        have q := B0.out.kept hV z0
        exact ⟨(o _).trans y1, (o _).trans y2, (o _).trans y3, q.1, q.2.1, q.2.2, hV⟩
      have d0 := only_drew hG.out
      clear hy y1 y2 y3 hm
      go_region_held3 (fun V => V.cell? ⟨b, off + m * 3, none⟩ = some (.int .i64 y.1) ∧ V.cell? ⟨b, off + m * 3 + 1, none⟩ = some (.int .i64 y.2.1) ∧ V.cell? ⟨b, off + m * 3 + 2, none⟩ = some (.int .i64 y.2.2) ∧ V.cell? ⟨w.heap.size, 0, none⟩ = some (.int .i64 x.1) ∧ V.cell? ⟨w.heap.size, 1, none⟩ = some (.int .i64 x.2.1) ∧ V.cell? ⟨w.heap.size, 2, none⟩ = some (.int .i64 x.2.2) ∧ w0.grownBy V none)
        (first | exact (SV _ d0).out | exact (SV _ (only_step d0 (by assumption) (fun _ h => by cases h))).out) ((go_at_call 27; refine (ord_any y x _).mono ?_; rintro e wa ⟨rfl, ga⟩))
      have g1 : Hid (w0.grownBy wa none) := only_step d0 ga (fun _ h => by cases h)
      clear SV d0 ga
      by_cases hk : klt y x
      · have t : ordP y x < 0 := (ord_neg y x).2 hk
        have hes2 : IntKind.i64.wrap ((m : Int) + 1) = (m : Int) + 1 := by rw [IntKind.wrap_i64]; omega
        go_wp2_with fail
        refine ⟨⟨m + 1, j, by omega, hj, by go_num, rfl, ?_, H2, g1⟩, ?_⟩
        · intro k z hz hk2
          by_cases h3 : k = m
          · subst h3; rw [HY.out] at hz; cases hz; exact hk
          · exact klt_trans (srt_get HS.out hz HY.out (by omega)) hk
        · simp [intOf]; omega
      · have t : ¬ ordP y x < 0 := fun h => hk ((ord_neg y x).1 h)
        go_wp2_with fail
        refine ⟨⟨i, m, by omega, by omega, rfl, rfl, H1, ?_, g1⟩, ?_⟩
        · intro z hz; rw [HY.out] at hz; cases hz; exact hk
        · simp [intOf]; omega
    · obtain rfl : i = j := by omega
      have u1 : ¬ (i : Int) < (i : Int) := by omega
      have HP : Hid (i = vpos l x) := vpos_of l x i hj H1.out H2.out
      by_cases hil : i < l.length
      · have m0 : (0 : Int) ≤ (i : Int) := by omega
        have m1 : (i : Int) < (l.length : Int) := by omega
        obtain ⟨m, hm⟩ : ∃ m, m = i := ⟨_, rfl⟩
        obtain ⟨y, hy⟩ : ∃ y, l[i]? = some y := ⟨_, List.getElem?_eq_getElem hil⟩
        obtain ⟨b, off, e0, hb, y1, y2, y3⟩ := HA.out.dot hy
        subst e0
        have HV : Hid (vhit l x = decide (y.1 = x.1 ∧ y.2.1 = x.2.1)) := Lib.hid (by unfold vhit; simp only [← HP.out, hy])
        rw [← hm] at y1 y2 y3
        have SV : ∀ V, w0.grownBy V none → Hid (V.cell? ⟨b, off + m * 3, none⟩ = some (.int .i64 y.1) ∧ V.cell? ⟨b, off + m * 3 + 1, none⟩ = some (.int .i64 y.2.1) ∧ V.cell? ⟨b, off + m * 3 + 2, none⟩ = some (.int .i64 y.2.2) ∧ V.cell? ⟨w.heap.size, 0, none⟩ = some (.int .i64 x.1) ∧ V.cell? ⟨w.heap.size, 1, none⟩ = some (.int .i64 x.2.1) ∧ V.cell? ⟨w.heap.size, 2, none⟩ = some (.int .i64 x.2.2) ∧ w0.grownBy V none) := fun V hV => by
          have o : ∀ j, V.cell? ⟨b, j, none⟩ = w.cell? ⟨b, j, none⟩ := fun j => World.cell?_of_block ((only_step G0.out hV (fun _ h => by cases h)).block b hb (by simp))
          have q := B0.out.kept hV z0
          exact ⟨(o _).trans y1, (o _).trans y2, (o _).trans y3, q.1, q.2.1, q.2.2, hV⟩
        rw [hm] at SV
        have d0 := only_drew hG.out
        clear hy y1 y2 y3 hm
        by_cases hk : y.1 = x.1 ∧ y.2.1 = x.2.1
        · have t : (ordP y x == 0) = true := by rw [beq_iff_eq]; exact (ord_zero y x).2 hk
          have HK := Lib.hid hk
          clear hk
          go_wp2_with fail
          go_region_held3 (fun V => V.cell? ⟨b, off + i * 3, none⟩ = some (.int .i64 y.1) ∧ V.cell? ⟨b, off + i * 3 + 1, none⟩ = some (.int .i64 y.2.1) ∧ V.cell? ⟨b, off + i * 3 + 2, none⟩ = some (.int .i64 y.2.2) ∧ V.cell? ⟨w.heap.size, 0, none⟩ = some (.int .i64 x.1) ∧ V.cell? ⟨w.heap.size, 1, none⟩ = some (.int .i64 x.2.1) ∧ V.cell? ⟨w.heap.size, 2, none⟩ = some (.int .i64 x.2.2) ∧ w0.grownBy V none)
        (first | exact (SV _ d0).out | exact (SV _ (only_step d0 (by assumption) (fun _ h => by cases h))).out) ((go_at_call 27; refine (ord_any y x _).mono ?_; rintro e wa ⟨rfl, ga⟩))
          go_wp2_with fail
          go_ret2
          exact ⟨by rw [HV.out, ← HP.out]; simp [HK.out], only_step G0.out (only_step d0 ga (fun _ h => by cases h)) (fun _ h => by cases h)⟩
        · have t : (ordP y x == 0) = false := by rw [beq_eq_false_iff_ne]; exact fun h => hk ((ord_zero y x).1 h)
          have HK := Lib.hid hk
          clear hk
          go_wp2_with fail
          go_region_held3 (fun V => V.cell? ⟨b, off + i * 3, none⟩ = some (.int .i64 y.1) ∧ V.cell? ⟨b, off + i * 3 + 1, none⟩ = some (.int .i64 y.2.1) ∧ V.cell? ⟨b, off + i * 3 + 2, none⟩ = some (.int .i64 y.2.2) ∧ V.cell? ⟨w.heap.size, 0, none⟩ = some (.int .i64 x.1) ∧ V.cell? ⟨w.heap.size, 1, none⟩ = some (.int .i64 x.2.1) ∧ V.cell? ⟨w.heap.size, 2, none⟩ = some (.int .i64 x.2.2) ∧ w0.grownBy V none)
        (first | exact (SV _ d0).out | exact (SV _ (only_step d0 (by assumption) (fun _ h => by cases h))).out) ((go_at_call 27; refine (ord_any y x _).mono ?_; rintro e wa ⟨rfl, ga⟩))
          go_wp2_with fail
          go_ret2
          exact ⟨by rw [HV.out, ← HP.out]; simp [HK.out], only_step G0.out (only_step d0 ga (fun _ h => by cases h)) (fun _ h => by cases h)⟩
      · have m1 : ¬ (i : Int) < (l.length : Int) := by omega
        have HV : Hid (vhit l x = false) := Lib.hid (by unfold vhit; simp only [← HP.out, List.getElem?_eq_none (show l.length ≤ i by omega)])
        go_wp2_with fail
        go_quiet (fail)
        go_wp2_with fail
        go_ret2
        exact ⟨by rw [HV.out, ← HP.out]; rfl, only_step G0.out (only_drewN hG.out _) (fun _ h => by cases h)⟩

theorem find_any (A : Option Addr) (c : Nat) (l : List E3) (x : E3) (w : World) (h : Has w w.heap.size A (dc l)) (hs : Srt l) (hl : l.length ≤ 1099511627776) :
    Calls Try.prog 23 #[.slice A l.length c, .agg #[.int .i64 x.1, .int .i64 x.2.1, .int .i64 x.2.2]] w fun e w' =>
      e = .returned (.tuple #[.int .i64 (vpos l x : Nat), .bool (vhit l x)]) ∧ w.grownBy w' none := by
  have HA := Lib.hid h
  have HS := Lib.hid hs
  clear h hs
  go_enter Try.func23, Try.ntmps23
  go_wp2_with fail
  refine (bs_any A c l x _ (HA.out.up (World.grownBy_alloc w _ none)) HS.out hl).mono ?_
  rintro _ w1 ⟨rfl, g1⟩
  go_wp2_with fail
  go_ret2
  exact ⟨rfl, only_step (World.grownBy_alloc w _ none) g1 (fun _ h => by cases h)⟩
end Go.Proofs.Ytlanldjpafkckaa
