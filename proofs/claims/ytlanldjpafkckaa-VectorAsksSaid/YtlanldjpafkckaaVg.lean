/- Get, Has, Le of package vector and of the reference. No condition of the program's own. -/
import Derived.Test.YtlanldjpafkckaaVf
namespace Go.Proofs.Ytlanldjpafkckaa
open Go.RowKit Go.Deep

def vhas (l : List E3) (x : E3) : Bool := decide (1 ≤ x.2.2) && decide (x.2.2 ≤ vget l x.1 x.2.1)
theorem hit_yes {l : List E3} {x : E3} (h : vhit l x = true) : ∃ y, l[vpos l x]? = some y ∧ y.1 = x.1 ∧ y.2.1 = x.2.1 := by
  unfold vhit at h
  cases hq : l[vpos l x]? with
  | none => rw [hq] at h; cases h
  | some y => rw [hq] at h; exact ⟨y, rfl, by simpa using h⟩
theorem hit_no {l : List E3} {x : E3} (h : vhit l x = false) : ∀ y, l[vpos l x]? = some y → ¬ (y.1 = x.1 ∧ y.2.1 = x.2.1) := by
  intro y hy
  unfold vhit at h
  rw [hy] at h
  exact of_decide_eq_false h
theorem vget_hit {l : List E3} (hs : Srt l) {x : E3} (h : vhit l x = true) : ∃ y, l[vpos l x]? = some y ∧ vget l x.1 x.2.1 = y.2.2 := by
  obtain ⟨y, hy, h1, h2⟩ := hit_yes h
  exact ⟨y, hy, by rw [← h1, ← h2]; exact vget_at l hs _ y hy⟩
theorem vget_miss {l : List E3} (hs : Srt l) {x : E3} (h : vhit l x = false) : vget l x.1 x.2.1 = 0 := by
  rw [vget_pos l hs x]
  have h2 := hit_no h
  cases hq : l[vpos l x]? with
  | none => rfl
  | some y => simp only; rw [if_neg (h2 y hq)]

set_option maxRecDepth 100000 in
set_option maxHeartbeats 1000000 in
theorem get_any (A : Option Addr) (c : Nat) (l : List E3) (d e : Int) (w : World) (h : Has w w.heap.size A (dc l)) (hs : Srt l) (hl : l.length ≤ 1099511627776) :
    Calls Try.prog 15 #[.slice A l.length c, .int .i64 d, .int .i64 e] w fun e' w' => e' = .returned (.int .i64 (vget l d e)) ∧ w.grownBy w' none := by
  have HF := Lib.hid (find_any A c l (d, e, 0) w h hs hl)
  have HA := Lib.hid h
  have HS := Lib.hid hs
  clear h hs
  cases hh : vhit l (d, e, 0)
  · have H0 := Lib.hid (vget_miss HS.out hh)
    rw [hh] at HF
    clear hh
    go_enter Try.func15, Try.ntmps15
    go_wp2_with fail
    refine HF.out.mono ?_
    rintro _ w1 ⟨rfl, g1⟩
    go_wp2_with fail
    go_ret
    exact ⟨by rw [show vget l d e = 0 from H0.out]; rfl, g1⟩
  · obtain ⟨y, hy, h1⟩ := vget_hit HS.out hh
    obtain ⟨b, off, e0, hb, y1, y2, y3⟩ := HA.out.dot hy
    subst e0
    have hp := vpos_le l (d, e, 0)
    have hpl : vpos l (d, e, 0) < l.length := (List.getElem?_eq_some_iff.1 hy).1
    rw [hh] at HF
    obtain ⟨k, hk⟩ : ∃ k, k = vpos l (d, e, 0) := ⟨_, rfl⟩
    rw [← hk] at HF y1 y2 y3 hpl
    have H1 := Lib.hid h1
    have m0 : (0 : Int) ≤ (k : Int) := by omega
    have m1 : (k : Int) < (l.length : Int) := by omega
    clear hh hk hy hp h1
    go_enter Try.func15, Try.ntmps15
    go_wp2_with fail
    refine HF.out.mono ?_
    rintro _ w1 ⟨rfl, g1⟩
    have q3 : w1.cell? ⟨b, off + k * 3 + 2, none⟩ = some (.int .i64 y.2.2) := (World.cell?_of_block (g1.block b hb (by simp))).trans y3
    go_wp2_with fail
    go_ret
    exact ⟨by rw [show vget l d e = y.2.2 from H1.out]; rfl, g1⟩

set_option maxRecDepth 100000 in
set_option maxHeartbeats 1000000 in
theorem has_any (A : Option Addr) (c : Nat) (l : List E3) (x : E3) (w : World) (h : Has w w.heap.size A (dc l)) (hs : Srt l) (hl : l.length ≤ 1099511627776) :
    Calls Try.prog 17 #[.slice A l.length c, .agg #[.int .i64 x.1, .int .i64 x.2.1, .int .i64 x.2.2]] w fun e w' => e = .returned (.bool (vhas l x)) ∧ w.grownBy w' none := by
  have b0 := box3_new w x 24
  have g0 := World.grownBy_alloc w (.cells #[.int .i64 x.1, .int .i64 x.2.1, .int .i64 x.2.2] 24) none
  have z0 : w.heap.size < (w.alloc (.cells #[.int .i64 x.1, .int .i64 x.2.1, .int .i64 x.2.2] 24)).heap.size := by show _ < (w.heap.push _).size; rw [Array.size_push]; omega
  have GC : ∀ V, (w.alloc (.cells #[.int .i64 x.1, .int .i64 x.2.1, .int .i64 x.2.2] 24)).grownBy V none → Hid (Calls Try.prog 15 #[.slice A l.length c, .int .i64 x.1, .int .i64 x.2.1] V fun e w' => e = .returned (.int .i64 (vget l x.1 x.2.1)) ∧ V.grownBy w' none) := fun V hV => get_any A c l x.1 x.2.1 V ((h.up g0).up hV) hs hl
  obtain ⟨w0, hw0⟩ : ∃ w0, w0 = w.alloc (.cells #[.int .i64 x.1, .int .i64 x.2.1, .int .i64 x.2.2] 24) := ⟨_, rfl⟩
  rw [← hw0] at b0 g0 z0 GC
  have SV : ∀ V, w0.grownBy V none → Hid (V.cell? ⟨w.heap.size, 0, none⟩ = some (.int .i64 x.1) ∧ V.cell? ⟨w.heap.size, 1, none⟩ = some (.int .i64 x.2.1) ∧ V.cell? ⟨w.heap.size, 2, none⟩ = some (.int .i64 x.2.2) ∧ w0.grownBy V none) := fun V hV => by
    have q := b0.kept hV z0
    exact ⟨q.1, q.2.1, q.2.2, hV⟩
  have HW0 := Lib.hid hw0
  have s0 := (SV _ (only_refl w0 none)).out
  have d0 := only_drew (only_refl w0 none)
  have G0 := Lib.hid g0
  clear h hs hl b0 g0 z0 hw0
  unfold vhas
  by_cases h1 : 1 ≤ x.2.2
  · rw [decide_eq_true h1, Bool.true_and]
    go_enter Try.func17, Try.ntmps17
    go_wp2_with fail
    rw [← HW0.out]
    go_region_held3 (fun V => V.cell? ⟨w.heap.size, 0, none⟩ = some (.int .i64 x.1) ∧ V.cell? ⟨w.heap.size, 1, none⟩ = some (.int .i64 x.2.1) ∧ V.cell? ⟨w.heap.size, 2, none⟩ = some (.int .i64 x.2.2) ∧ w0.grownBy V none)
      (first | exact (SV _ d0).out | exact (SV _ (only_step d0 (by assumption) (fun _ h => by cases h))).out) ((go_at_call 15; refine (GC _ d0).out.mono ?_; rintro e wa ⟨rfl, ga⟩))
    go_wp2_with fail
    go_ret
    exact ⟨rfl, only_step G0.out (only_step d0 ga (fun _ h => by cases h)) (fun _ h => by cases h)⟩
  · rw [decide_eq_false h1, Bool.false_and]
    obtain ⟨s1, s2, s3, _⟩ := s0
    rw [HW0.out] at s1 s2 s3
    have k3 : ∀ k, ((w.alloc (.cells #[.int .i64 x.1, .int .i64 x.2.1, .int .i64 x.2.2] 24)).drewN k).cell? ⟨w.heap.size, 2, none⟩ = some (.int .i64 x.2.2) := fun _ => s3
    have hd : decide (1 ≤ x.2.2) = false := decide_eq_false h1
    clear SV GC d0
    go_enter Try.func17, Try.ntmps17
    go_wp2_with fail
    go_quiet (fail)
    go_wp2_with fail
    go_ret
    exact ⟨rfl, only_drewN (World.grownBy_alloc w _ none) _⟩

set_option maxRecDepth 100000 in
set_option maxHeartbeats 1000000 in
theorem rget_any (A : Option Addr) (c : Nat) (l : List E3) (d e : Int) (w : World) (h : Has w w.heap.size A (dc l)) (hl : l.length ≤ 1099511627776) :
    Calls Try.prog 16 #[.slice A l.length c, .int .i64 d, .int .i64 e] w fun e' w' => e' = .returned (.int .i64 (vget l d e)) ∧ w = w' := by
  have HA := Lib.hid h
  clear h
  go_enter Try.func16, Try.ntmps16
  go_wp2_with fail
  go_loopw [7] (fun si wr => ∃ i : Nat, i ≤ l.length ∧ si = .int .i64 i ∧ Hid (vget l d e = vget (l.drop i) d e) ∧ wr = w) (fun si _ => l.length - (intOf si).toNat)
  case atStart => exact ⟨0, Nat.zero_le _, rfl, rfl, rfl⟩
  case round =>
    obtain ⟨i, hi, rfl, HG, rfl⟩ := hrel
    by_cases hlt : i < l.length
    · have u1 : (i : Int) < (l.length : Int) := by omega
      have u0 : (0 : Int) ≤ (i : Int) := by omega
      have hes : IntKind.i64.wrap ((i : Int) + 1) = (i : Int) + 1 := by rw [IntKind.wrap_i64]; omega
      obtain ⟨y, hy⟩ : ∃ y, l[i]? = some y := ⟨_, List.getElem?_eq_getElem hlt⟩
      obtain ⟨b, off, e0, hb, y1, y2, y3⟩ := HA.out.dot hy
      have HD : Hid (vget (l.drop i) d e = if y.1 = d ∧ y.2.1 = e then y.2.2 else vget (l.drop (i + 1)) d e) := Lib.hid (by
        rw [List.drop_eq_getElem_cons hlt, vget, (List.getElem?_eq_some_iff.1 hy).2])
      subst e0
      clear hy
      by_cases h1 : y.1 = d
      · have t1 : (y.1 == d) = true := by rw [beq_iff_eq]; exact h1
        by_cases h2 : y.2.1 = e
        · have t2 : (y.2.1 == e) = true := by rw [beq_iff_eq]; exact h2
          have HE : Hid (vget l d e = y.2.2) := Lib.hid (by rw [HG.out, HD.out, if_pos ⟨h1, h2⟩])
          clear h1 h2
          go_wp2_with fail
          go_ret
          exact ⟨by rw [HE.out]; rfl, rfl⟩
        · have t2 : (y.2.1 == e) = false := by rw [beq_eq_false_iff_ne]; exact h2
          have HE : Hid (vget l d e = vget (l.drop (i + 1)) d e) := Lib.hid (by rw [HG.out, HD.out, if_neg (fun h => h2 h.2)])
          clear h1 h2
          go_wp2_with fail
          refine ⟨⟨i + 1, by omega, by go_num, HE, ?_⟩, ?_⟩
          · first | trivial | rfl
          · simp [intOf]; omega
      · have t1 : (y.1 == d) = false := by rw [beq_eq_false_iff_ne]; exact h1
        have HE : Hid (vget l d e = vget (l.drop (i + 1)) d e) := Lib.hid (by rw [HG.out, HD.out, if_neg (fun h => h1 h.1)])
        clear h1
        go_wp2_with fail
        refine ⟨⟨i + 1, by omega, by go_num, HE, ?_⟩, ?_⟩
        · first | trivial | rfl
        · simp [intOf]; omega
    · have u1 : ¬ (i : Int) < (l.length : Int) := by omega
      have HE : Hid (vget l d e = 0) := Lib.hid (by rw [HG.out, List.drop_eq_nil_of_le (by omega)]; rfl)
      go_wp2_with fail
      go_ret
      exact ⟨by rw [HE.out]; rfl, rfl⟩
theorem rget_only (A : Option Addr) (c : Nat) (l : List E3) (d e : Int) (w : World) (h : Has w w.heap.size A (dc l)) (hl : l.length ≤ 1099511627776) :
    Calls Try.prog 16 #[.slice A l.length c, .int .i64 d, .int .i64 e] w fun e' w' => e' = .returned (.int .i64 (vget l d e)) ∧ w.grownBy w' none :=
  (rget_any A c l d e w h hl).mono fun _ _ ⟨h1, h2⟩ => ⟨h1, by rw [← h2]; exact only_refl _ _⟩

set_option maxRecDepth 100000 in
set_option maxHeartbeats 1000000 in
theorem rhas_any (A : Option Addr) (c : Nat) (l : List E3) (x : E3) (w : World) (h : Has w w.heap.size A (dc l)) (hl : l.length ≤ 1099511627776) :
    Calls Try.prog 18 #[.slice A l.length c, .agg #[.int .i64 x.1, .int .i64 x.2.1, .int .i64 x.2.2]] w fun e w' => e = .returned (.bool (vhas l x)) ∧ w.grownBy w' none := by
  have b0 := box3_new w x 24
  have g0 := World.grownBy_alloc w (.cells #[.int .i64 x.1, .int .i64 x.2.1, .int .i64 x.2.2] 24) none
  have z0 : w.heap.size < (w.alloc (.cells #[.int .i64 x.1, .int .i64 x.2.1, .int .i64 x.2.2] 24)).heap.size := by show _ < (w.heap.push _).size; rw [Array.size_push]; omega
  have GC : ∀ V, (w.alloc (.cells #[.int .i64 x.1, .int .i64 x.2.1, .int .i64 x.2.2] 24)).grownBy V none → Hid (Calls Try.prog 16 #[.slice A l.length c, .int .i64 x.1, .int .i64 x.2.1] V fun e w' => e = .returned (.int .i64 (vget l x.1 x.2.1)) ∧ V.grownBy w' none) := fun V hV => rget_only A c l x.1 x.2.1 V ((h.up g0).up hV) hl
  obtain ⟨w0, hw0⟩ : ∃ w0, w0 = w.alloc (.cells #[.int .i64 x.1, .int .i64 x.2.1, .int .i64 x.2.2] 24) := ⟨_, rfl⟩
  rw [← hw0] at b0 g0 z0 GC
  have SV : ∀ V, w0.grownBy V none → Hid (V.cell? ⟨w.heap.size, 0, none⟩ = some (.int .i64 x.1) ∧ V.cell? ⟨w.heap.size, 1, none⟩ = some (.int .i64 x.2.1) ∧ V.cell? ⟨w.heap.size, 2, none⟩ = some (.int .i64 x.2.2) ∧ w0.grownBy V none) := fun V hV => by
    have q := b0.kept hV z0
    exact ⟨q.1, q.2.1, q.2.2, hV⟩
  have HW0 := Lib.hid hw0
  have s0 := (SV _ (only_refl w0 none)).out
  have d0 := only_drew (only_refl w0 none)
  have G0 := Lib.hid g0
  clear h hl b0 g0 z0 hw0
  unfold vhas
  by_cases h1 : 1 ≤ x.2.2
  · rw [decide_eq_true h1, Bool.true_and]
    go_enter Try.func18, Try.ntmps18
    go_wp2_with fail
    rw [← HW0.out]
    go_region_held3 (fun V => V.cell? ⟨w.heap.size, 0, none⟩ = some (.int .i64 x.1) ∧ V.cell? ⟨w.heap.size, 1, none⟩ = some (.int .i64 x.2.1) ∧ V.cell? ⟨w.heap.size, 2, none⟩ = some (.int .i64 x.2.2) ∧ w0.grownBy V none)
      (first | exact (SV _ d0).out | exact (SV _ (only_step d0 (by assumption) (fun _ h => by cases h))).out) ((go_at_call 16; refine (GC _ d0).out.mono ?_; rintro e wa ⟨rfl, ga⟩))
    go_wp2_with fail
    go_ret
    exact ⟨rfl, only_step G0.out (only_step d0 ga (fun _ h => by cases h)) (fun _ h => by cases h)⟩
  · rw [decide_eq_false h1, Bool.false_and]
    obtain ⟨s1, s2, s3, _⟩ := s0
    rw [HW0.out] at s1 s2 s3
    have k3 : ∀ k, ((w.alloc (.cells #[.int .i64 x.1, .int .i64 x.2.1, .int .i64 x.2.2] 24)).drewN k).cell? ⟨w.heap.size, 2, none⟩ = some (.int .i64 x.2.2) := fun _ => s3
    have hd : decide (1 ≤ x.2.2) = false := decide_eq_false h1
    clear SV GC d0
    go_enter Try.func18, Try.ntmps18
    go_wp2_with fail
    go_quiet (fail)
    go_wp2_with fail
    go_ret
    exact ⟨rfl, only_drewN (World.grownBy_alloc w _ none) _⟩
end Go.Proofs.Ytlanldjpafkckaa
