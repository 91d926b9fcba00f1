/- The walk of VectorLes: it returns true for every input. No condition. -/
import Derived.Test.YtlanldjpafkckaaVo
import Derived.Test.YtlanldjpafkckaaRow
namespace Go.Proofs.Ytlanldjpafkckaa
open Go.RowKit Go.Deep

def Up (lo k : Int) (P : Int → Prop) : Prop := ∀ j, lo ≤ j → j < k → P j
theorem up_nil (lo : Int) (P : Int → Prop) : Up lo lo P ↔ True := ⟨fun _ => trivial, fun _ j h1 h2 => by omega⟩
theorem up_succ {lo k : Int} (P : Int → Prop) (h : lo ≤ k) : Up lo (k + 1) P ↔ Up lo k P ∧ P k := by
  constructor
  · intro h1; exact ⟨fun j a b => h1 j a (by omega), h1 k h (by omega)⟩
  · rintro ⟨h1, h2⟩ j a b
    by_cases e : j = k
    · subst e; exact h2
    · exact h1 j a (by omega)
def PH (l m : List E3) (d e s : Int) : Prop := vhas l (d, e, s) = true → vhas m (d, e, s) = true
def PE (l m : List E3) (d e : Int) : Prop := Up 1 7 (PH l m d e)
def PD (l m : List E3) (d : Int) : Prop := Up 1 3 (PE l m d)
theorem vle_up (l m : List E3) (hl : Ok7 l) (hm : Ok7 m) : vle l m ↔ Up 0 3 (PD l m) := by
  constructor
  · intro h d _ _ e _ _ s _ _ hs
    have h2 := (vle_iff l m hl.srt hm.pos).1 h d e
    unfold vhas at hs ⊢
    simp only [Bool.and_eq_true, decide_eq_true_eq] at hs ⊢
    exact ⟨hs.1, Int.le_trans hs.2 h2⟩
  · intro h y hy
    obtain ⟨a, b, c1, c2⟩ := hl.ins y hy
    have h2 := h y.1 a.1 (by omega) y.2.1 b.1 (by omega) y.2.2 c1 (by omega)
    unfold PH vhas at h2
    simp only [Bool.and_eq_true, decide_eq_true_eq] at h2
    exact (h2 ⟨c1, by rw [vget_mem l hl.srt y hy]; exact Int.le_refl _⟩).2
theorem vle_nil (l : List E3) : vle [] l := fun y hy => by cases hy
theorem vle_none (l : List E3) (h : Pos l) : vle l [] ↔ l.length = 0 := by
  constructor
  · intro h2
    cases l with
    | nil => rfl
    | cons y r =>
      have a := h y (by simp)
      have b := h2 y (by simp)
      simp [vget] at b
      omega
  · intro h2
    rw [List.eq_nil_of_length_eq_zero h2]
    exact vle_nil _
set_option maxRecDepth 100000 in
set_option maxHeartbeats 4000000 in
theorem vectorLes_walk (A0 : Option Addr) (c0 : Nat) (ns : List Int) (A1 : Option Addr) (c1 : Nat) (ms : List Int) (w : World) (h : Has w w.heap.size A0 (is_ ns)) (hb : ∀ n ∈ ns, -9223372036854775808 ≤ n ∧ n ≤ 9223372036854775807) (h1 : Has w w.heap.size A1 (is_ ms)) (hb1 : ∀ n ∈ ms, -9223372036854775808 ≤ n ∧ n ≤ 9223372036854775807) :
    Calls Try.prog 8 #[.slice A0 ns.length c0, .slice A1 ms.length c1] w fun e w' => e = .returned (.bool true) ∧ w.grownBy w' none := by
  have HA := Lib.hid h
  have HB := Lib.hid hb
  have HA1 := Lib.hid h1
  have HB1 := Lib.hid hb1
  clear h hb h1 hb1
  go_enter Try.func8, Try.ntmps8
  go_wp2_with fail
  refine (known_any _).mono ?_
  rintro _ w1 ⟨rfl, g1⟩
  have OF := Lib.hid (of_any A0 c0 ns w1 (HA.out.up g1) HB.out)
  go_wp2_with fail
  refine OF.out.mono ?_
  rintro _ w2 ⟨v, l, rfl, ho, ok, g2⟩
  obtain ⟨A, c, rfl⟩ := own_slice_w ho
  have VV0 := Lib.hid (Vw.own ho).1
  have OK := Lib.hid ok
  have hl : l.length ≤ 12 := ok.len
  have G1 := Lib.hid (only_step g1 g2 (fun _ h => by cases h))
  have OF := Lib.hid (of_any A1 c1 ms w2 (HA1.out.up G1.out) HB1.out)
  clear ho ok g1 g2 HA HB
  go_wp2_with fail
  refine OF.out.mono ?_
  rintro _ w3 ⟨v', m, rfl, ho, ok, g3⟩
  obtain ⟨A', c', rfl⟩ := own_slice_w ho
  have WW := Lib.hid (Vw.own ho).1
  have OM := Lib.hid ok
  have hm : m.length ≤ 12 := ok.len
  have VV := Lib.hid (VV0.out.up g3)
  have G0 := Lib.hid (only_step G1.out g3 (fun _ h => by cases h))
  clear OF ho ok g3 HA1 HB1 VV0 G1
  go_wp2_with fail
  go_loopw [7, 8] (fun sb sd wr => ∃ (d : Int) (b : Bool), 0 ≤ d ∧ d ≤ 3 ∧ sd = .int .i64 d ∧ sb = .bool b ∧ Hid (b = true ↔ Up 0 d (PD l m)) ∧ Hid (w3.grownBy wr none)) (fun _ sd _ => (3 - intOf sd).toNat)
  case atStart => exact ⟨0, true, by omega, by omega, rfl, rfl, Lib.hid (by simp [up_nil]), only_refl _ _⟩
  case round =>
    obtain ⟨d, b, d0, d4, rfl, rfl, HB2, hG⟩ := hrel
    by_cases hd : d < 3
    · have hesd : IntKind.i64.wrap (d + 1) = d + 1 := by rw [IntKind.wrap_i64]; omega
      go_wp2_with fail
      obtain ⟨wd, hwd⟩ : ∃ wd, wd = wr := ⟨_, rfl⟩
      rw [← hwd] at hG ⊢
      clear hwd
      go_loopw [7, 9] (fun sb se wr => ∃ (e : Int) (b : Bool), 1 ≤ e ∧ e ≤ 3 ∧ se = .int .i64 e ∧ sb = .bool b ∧ Hid (b = true ↔ Up 0 d (PD l m) ∧ Up 1 e (PE l m d)) ∧ Hid (w3.grownBy wr none)) (fun _ se _ => (3 - intOf se).toNat)
      case atStart => exact ⟨1, b, by omega, by omega, rfl, rfl, by show b = true ↔ _; rw [up_nil, HB2.out, and_true], hG⟩
      case round =>
        clear HB2
        obtain ⟨e, b, e0, e4, rfl, rfl, HB3, hG2⟩ := hrel
        by_cases he : e < 3
        · have hese : IntKind.i64.wrap (e + 1) = e + 1 := by rw [IntKind.wrap_i64]; omega
          go_wp2_with fail
          obtain ⟨we, hwe⟩ : ∃ we, we = wr := ⟨_, rfl⟩
          rw [← hwe] at hG2 ⊢
          clear hwe
          go_loopw [7, 10] (fun sb ss wr => ∃ (s : Int) (b : Bool), 1 ≤ s ∧ s ≤ 7 ∧ ss = .int .i64 s ∧ sb = .bool b ∧ Hid (b = true ↔ Up 0 d (PD l m) ∧ Up 1 e (PE l m d) ∧ Up 1 s (PH l m d e)) ∧ Hid (w3.grownBy wr none)) (fun _ ss _ => (7 - intOf ss).toNat)
          case atStart => exact ⟨1, b, by omega, by omega, rfl, rfl, by show b = true ↔ _; rw [up_nil, HB3.out, and_true], hG2⟩
          case round =>
            clear HB3
            obtain ⟨s, b, s0, s8, rfl, rfl, HB4, hG4⟩ := hrel
            by_cases hs : s < 7
            · have hess : IntKind.i64.wrap (s + 1) = s + 1 := by rw [IntKind.wrap_i64]; omega
              have b0 := box3_new wr (d, e, s) 24
              have g0 := World.grownBy_alloc wr (.cells #[.int .i64 d, .int .i64 e, .int .i64 s] 24) none
              have z0 : wr.heap.size < (wr.alloc (.cells #[.int .i64 d, .int .i64 e, .int .i64 s] 24)).heap.size := by show _ < (wr.heap.push _).size; rw [Array.size_push]; omega
              have gw := Lib.hid (only_step hG4.out g0 (fun _ h => by cases h))
              have HV := Lib.hid (has_any A c l (d, e, s) _ (VV.out.up gw.out).has OK.out.srt (by omega))
              cases b
              · have HN : Hid (false = true ↔ Up 0 d (PD l m) ∧ Up 1 e (PE l m d) ∧ Up 1 (s + 1) (PH l m d e)) := Lib.hid (by rw [up_succ _ (by omega)]; have := HB4.out; simp only [Bool.false_eq_true, false_iff] at this ⊢; exact fun h => this ⟨h.1, h.2.1, h.2.2.1⟩)
                go_wp2_with fail
                refine ⟨⟨s + 1, false, by omega, by omega, rfl, rfl, HN, gw⟩, ?_⟩
                simp [intOf]; omega
              · cases hv : vhas l (d, e, s)
                · rw [hv] at HV
                  have HN : Hid (Up 0 d (PD l m) ∧ Up 1 e (PE l m d) ∧ Up 1 (s + 1) (PH l m d e)) := Lib.hid (by rw [up_succ _ (by omega)]; have := HB4.out; simp only [true_iff] at this ⊢; exact ⟨this.1, this.2.1, this.2.2, fun h => by rw [hv] at h; cases h⟩)
                  clear hv
                  go_wp2_with fail
                  refine HV.out.mono ?_
                  rintro _ w5 ⟨rfl, g5⟩
                  go_wp2_with fail
                  refine ⟨⟨s + 1, true, by omega, by omega, rfl, rfl, Lib.hid ⟨fun _ => HN.out, fun _ => rfl⟩, only_step gw.out g5 (fun _ h => by cases h)⟩, ?_⟩
                  simp [intOf]; omega
                · rw [hv] at HV
                  obtain ⟨r, hr⟩ : ∃ r, r = vhas m (d, e, s) := ⟨_, rfl⟩
                  have HN : Hid (r = true ↔ Up 0 d (PD l m) ∧ Up 1 e (PE l m d) ∧ Up 1 (s + 1) (PH l m d e)) := Lib.hid (by
                    rw [up_succ _ (by omega)]; have := HB4.out; simp only [true_iff] at this; rw [hr]; exact ⟨fun h => ⟨this.1, this.2.1, this.2.2, fun _ => h⟩, fun h => h.2.2.2 hv⟩)
                  have HW : ∀ V, w3.grownBy V none → Hid (Calls Try.prog 17 #[.slice A' m.length c', .agg #[.int .i64 d, .int .i64 e, .int .i64 s]] V fun e w' => e = .returned (.bool r) ∧ V.grownBy w' none) := fun V hV => by
                    rw [hr]; exact has_any A' c' m (d, e, s) V (WW.out.up hV).has OM.out.srt (by omega)
                  clear hv hr
                  go_wp2_with fail
                  refine HV.out.mono ?_
                  rintro _ w5 ⟨rfl, g5⟩
                  obtain ⟨q1, q2, q3⟩ := b0.kept g5 z0
                  have gw5 := Lib.hid (only_step gw.out g5 (fun _ h => by cases h))
                  clear b0 g0 g5
                  go_wp2_with fail
                  refine (HW _ gw5.out).out.mono ?_
                  rintro _ w6 ⟨rfl, g6⟩
                  go_wp2_with fail
                  refine ⟨⟨s + 1, r, by omega, by omega, rfl, rfl, HN, only_step gw5.out g6 (fun _ h => by cases h)⟩, ?_⟩
                  simp [intOf]; omega
            · obtain rfl : s = 7 := by omega
              have HN : Hid (b = true ↔ Up 0 d (PD l m) ∧ Up 1 (e + 1) (PE l m d)) := Lib.hid (by rw [up_succ _ (by omega)]; exact HB4.out)
              go_wp2_with fail
              refine ⟨⟨e + 1, b, by omega, by omega, rfl, rfl, HN, hG4⟩, ?_⟩
              simp [intOf]; omega
        · obtain rfl : e = 3 := by omega
          have HN : Hid (b = true ↔ Up 0 (d + 1) (PD l m)) := Lib.hid (by rw [up_succ _ (by omega)]; exact HB3.out)
          go_wp2_with fail
          refine ⟨⟨d + 1, b, by omega, by omega, rfl, rfl, HN, hG2⟩, ?_⟩
          simp [intOf]; omega
    · obtain rfl : d = 3 := by omega
      have HL : Hid (vle l m ↔ b = true) := Lib.hid (by rw [vle_up l m OK.out OM.out, HB2.out])
      have L1 := Lib.hid (le_any A c l A' c' m wr (VV.out.up hG.out).has (WW.out.up hG.out).has OM.out.srt (by omega) (by omega))
      rw [show decide (vle l m) = b by cases b <;> simp [HL.out]] at L1
      have L2 : ∀ V, w3.grownBy V none → Hid (Calls Try.prog 21 #[.slice none 0 0, .slice A l.length c] V fun e w' => e = .returned (.bool true) ∧ V.grownBy w' none) := fun V hV => Lib.hid (by
        have := le_any none 0 [] A c l V Has.nil (VV.out.up hV).has OK.out.srt (by simp) (by omega)
        rw [decide_eq_true (vle_nil l)] at this
        exact this)
      have L3 : ∀ V, w3.grownBy V none → Hid (Calls Try.prog 21 #[.slice A l.length c, .slice none 0 0] V fun e w' => e = .returned (.bool (decide (l.length = 0))) ∧ V.grownBy w' none) := fun V hV => Lib.hid (by
        have := le_any A c l none 0 [] V (VV.out.up hV).has Has.nil List.Pairwise.nil (by omega) (by simp)
        rw [show decide (vle l []) = decide (l.length = 0) by simp only [vle_none l OK.out.pos]] at this
        exact this)
      have tb : (b == b) = true := by cases b <;> rfl
      go_wp2_with fail
      refine L1.out.mono ?_
      rintro _ w5 ⟨rfl, g5⟩
      have G5 := Lib.hid (only_step hG.out g5 (fun _ h => by cases h))
      go_wp2_with fail
      refine (L2 _ G5.out).out.mono ?_
      rintro _ w6 ⟨rfl, g6⟩
      have G6 := Lib.hid (only_step G5.out g6 (fun _ h => by cases h))
      by_cases h0 : l.length = 0
      · have t1 : ((l.length : Int) == 0) = true := by simp [h0]
        have L3 := (L3 _ G6.out)
        rw [decide_eq_true h0] at L3
        clear h0
        go_wp2_with fail
        refine L3.out.mono ?_
        rintro _ w7 ⟨rfl, g7⟩
        go_wp2_with fail
        go_ret
        exact ⟨rfl, only_step (only_step G0.out G6.out (fun _ h => by cases h)) g7 (fun _ h => by cases h)⟩
      · have t1 : ((l.length : Int) == 0) = false := by rw [beq_eq_false_iff_ne]; omega
        have L3 := (L3 _ G6.out)
        rw [decide_eq_false h0] at L3
        clear h0
        go_wp2_with fail
        refine L3.out.mono ?_
        rintro _ w7 ⟨rfl, g7⟩
        go_wp2_with fail
        go_ret
        exact ⟨rfl, only_step (only_step G0.out G6.out (fun _ h => by cases h)) g7 (fun _ h => by cases h)⟩
end Go.Proofs.Ytlanldjpafkckaa
