/- The walk of VectorSteps: it returns true for every input. No condition. -/
import Derived.Test.YtlanldjpafkckaaVo
import Derived.Test.YtlanldjpafkckaaRow
namespace Go.Proofs.Ytlanldjpafkckaa
open Go.RowKit Go.Deep

theorem grow2 {a b c : World} (h : a.grownBy b none) (k : b.grownBy c none) : a.grownBy c none := only_step h k (fun _ h => by cases h)
theorem vput_le (l : List E3) (x : E3) (hs : Srt l) (hp : Pos l) (hx : 1 ≤ x.2.2) (h : vhas l x = false) : vle l (vput l x) ∧ ¬ vle (vput l x) l := by
  have hg : vget l x.1 x.2.1 < x.2.2 := by
    unfold vhas at h
    rw [decide_eq_true hx, Bool.true_and, decide_eq_false_iff_not] at h
    omega
  constructor
  · rw [vle_iff _ _ hs (vput_pos l x hp hx)]
    intro d e
    rw [vget_put l x hs]
    by_cases he : x.1 = d ∧ x.2.1 = e
    · rw [if_pos he]
      obtain ⟨e1, e2⟩ := he
      subst e1; subst e2
      omega
    · rw [if_neg he]; exact Int.le_refl _
  · rw [vle_iff _ _ (vput_srt l x hs) hp]
    intro h2
    have := h2 x.1 x.2.1
    rw [vget_put l x hs, if_pos ⟨rfl, rfl⟩] at this
    omega
set_option maxRecDepth 100000 in
set_option maxHeartbeats 8000000 in
theorem vectorSteps_walk (A0 : Option Addr) (c0 : Nat) (ns : List Int) (n : Int) (w : World) (h : Has w w.heap.size A0 (is_ ns)) (hb : ∀ n ∈ ns, -9223372036854775808 ≤ n ∧ n ≤ 9223372036854775807) (hnb : -9223372036854775808 ≤ n ∧ n ≤ 9223372036854775807) :
    Calls Try.prog 5 #[.slice A0 ns.length c0, .int .i64 n] w fun e w' => e = .returned (.bool true) ∧ w.grownBy w' none := by
  have HA := Lib.hid h
  have HB := Lib.hid hb
  clear h hb
  obtain ⟨p2, hp2⟩ : ∃ p, p = n.tdiv 3 := ⟨_, rfl⟩
  obtain ⟨p4, hp4⟩ : ∃ p, p = n.tdiv 6 := ⟨_, rfl⟩
  have q2 := tdiv_in n 3 (by omega) hnb.1 hnb.2
  have q4 := tdiv_in n 6 (by omega) hnb.1 hnb.2
  have z2 : IntKind.i64.wrap (n.tdiv 3) = p2 := by rw [IntKind.wrap_i64]; omega
  have z4 : IntKind.i64.wrap (n.tdiv 6) = p4 := by rw [IntKind.wrap_i64]; omega
  rw [← hp2] at q2
  rw [← hp4] at q4
  obtain ⟨a, ha⟩ : ∃ a, a = n % 3 := ⟨_, rfl⟩
  obtain ⟨r2, hr2⟩ : ∃ a, a = p2 % 2 := ⟨_, rfl⟩
  obtain ⟨r4, hr4⟩ : ∃ a, a = p4 % 8 := ⟨_, rfl⟩
  have N0 : ∀ W, Hid (Calls Try.prog 11 #[.int .i64 n, .int .i64 3] W fun e w' => e = .returned (.int .i64 a) ∧ W = w') := fun W => by rw [ha]; exact within_any n 3 hnb.1 hnb.2 (by omega) (by omega) W
  have N1 : ∀ W, Hid (Calls Try.prog 11 #[.int .i64 p2, .int .i64 2] W fun e w' => e = .returned (.int .i64 r2) ∧ W = w') := fun W => by rw [hr2]; exact within_any p2 2 q2.1 q2.2 (by omega) (by omega) W
  have N2 : ∀ W, Hid (Calls Try.prog 11 #[.int .i64 p4, .int .i64 8] W fun e w' => e = .returned (.int .i64 r4) ∧ W = w') := fun W => by rw [hr4]; exact within_any p4 8 q4.1 q4.2 (by omega) (by omega) W
  have a0 : 0 ≤ a ∧ a ≤ 2 := by omega
  have r20 : 0 ≤ r2 ∧ r2 ≤ 1 := by omega
  have r40 : 0 ≤ r4 ∧ r4 ≤ 7 := by omega
  clear hp2 hp4 q2 q4 ha hr2 hr4
  go_enter Try.func5, Try.ntmps5
  go_wp2_with fail
  refine (known_any _).mono ?_
  rintro _ w1 ⟨rfl, g1⟩
  have OF := Lib.hid (of_any A0 c0 ns w1 (HA.out.up g1) HB.out)
  go_wp2_with fail
  refine OF.out.mono ?_
  rintro _ w2 ⟨v, l, rfl, ho, ok, g2⟩
  obtain ⟨A, c, rfl⟩ := own_slice_w ho
  have VV := Lib.hid (Vw.own ho).1
  have OK := Lib.hid ok
  have hl : l.length ≤ 12 := ok.len
  have G0 := Lib.hid (grow2 g1 g2)
  clear OF ho ok g1 g2 HA HB
  go_wp2_with fail
  refine (N0 _).out.mono ?_
  rintro _ _ ⟨rfl, rfl⟩
  go_wp2_with fail
  refine (N1 _).out.mono ?_
  rintro _ _ ⟨rfl, rfl⟩
  go_wp2_with fail
  refine (N2 _).out.mono ?_
  rintro _ _ ⟨rfl, rfl⟩
  obtain ⟨b2, hb2⟩ : ∃ b, b = 1 + r2 := ⟨_, rfl⟩
  obtain ⟨b4, hb4⟩ : ∃ b, b = 1 + r4 := ⟨_, rfl⟩
  have b20 : 1 ≤ b2 ∧ b2 ≤ 2 := by omega
  have b40 : 1 ≤ b4 ∧ b4 ≤ 8 := by omega
  have B2 := Lib.hid hb2
  have B4 := Lib.hid hb4
  clear hb2 hb4
  go_wp2_with fail
  rw [← B2.out, ← B4.out]
  have b0 := box3_new w2 (a, b2, b4) 24
  have g3 := World.grownBy_alloc w2 (.cells #[.int .i64 a, .int .i64 b2, .int .i64 b4] 24) none
  have z0 : w2.heap.size < (w2.alloc (.cells #[.int .i64 a, .int .i64 b2, .int .i64 b4] 24)).heap.size := by show _ < (w2.heap.push _).size; rw [Array.size_push]; omega
  obtain ⟨w3, hw3⟩ : ∃ w3, w3 = w2.alloc (.cells #[.int .i64 a, .int .i64 b2, .int .i64 b4] 24) := ⟨_, rfl⟩
  have hw3' := hw3
  rw [← hw3] at b0 g3 z0
  have SV : ∀ V, w3.grownBy V none → Hid (V.cell? ⟨w2.heap.size, 0, none⟩ = some (.int .i64 a) ∧ V.cell? ⟨w2.heap.size, 1, none⟩ = some (.int .i64 b2) ∧ V.cell? ⟨w2.heap.size, 2, none⟩ = some (.int .i64 b4) ∧ w3.grownBy V none) := fun V hV => by
    have q := b0.kept hV z0
    exact ⟨q.1, q.2.1, q.2.2, hV⟩
  have G3 := Lib.hid (grow2 G0.out g3)
  have VV := Lib.hid (VV.out.up g3)
  have hx : ¬ (a < 0 ∨ b2 < 0 ∨ b4 < 1) := by omega
  have HST := Lib.hid (step_any A c l (a, b2, b4) w3 VV.out OK.out.srt (by omega))
  obtain ⟨s1, s2, s3, _⟩ := (SV w3 (only_refl _ _)).out
  rw [← hw3']
  clear hw3 hw3' N0 N1 N2
  cases hv : vhas l (a, b2, b4)
  · have hE : sErr l (a, b2, b4) = 0 := by unfold sErr; rw [if_neg hx, hv]; rfl
    have hR : sRow l (a, b2, b4) = vput l (a, b2, b4) := by unfold sRow; rw [hE]; rfl
    obtain ⟨m, hm⟩ : ∃ m, m = vput l (a, b2, b4) := ⟨_, rfl⟩
    have HM := Lib.hid hm
    rw [hE, hR, ← hm] at HST
    have hml : m.length ≤ 13 := by rw [hm]; have := vput_len l (a, b2, b4); omega
    have SM : Hid (Srt m) := by rw [hm]; exact vput_srt l _ OK.out.srt
    have gm : vget m a b2 = b4 := by rw [hm, vget_put l (a, b2, b4) OK.out.srt]; simp
    have hvm : vhas m (a, b2, b4) = true := by
      unfold vhas
      rw [show vget m (a, b2, b4).1 (a, b2, b4).2.1 = b4 from gm]
      simp; omega
    have hE2 : sErr m (a, b2, b4) = 7 := by unfold sErr; rw [if_neg hx, hvm]; rfl
    have hR2 : sRow m (a, b2, b4) = [] := by unfold sRow; rw [hE2]; rfl
    have les := vput_le l (a, b2, b4) OK.out.srt OK.out.pos b40.1 hv
    rw [← hm] at les
    have LE := Lib.hid les
    have GM := Lib.hid gm
    have HVM := Lib.hid hvm
    have HV := Lib.hid hv
    have HE2 := Lib.hid hE2
    have HR2 := Lib.hid hR2
    clear hE hR hm gm hvm hE2 hR2 les hv hx
    refine HST.out.mono ?_
    rintro _ w4 ⟨v4, rfl, ho, g4⟩
    obtain ⟨A', c', rfl⟩ := own_slice_w ho
    have WW := Lib.hid (Vw.own ho).1
    have C4 := SV w4 g4
    have HH := Lib.hid (has_any A c l (a, b2, b4) w4 (VV.out.up g4).has OK.out.srt (by omega))
    rw [HV.out] at HH
    obtain ⟨t1, t2, t3, _⟩ := C4.out
    clear ho HST s1 s2 s3
    go_wp2_with fail
    refine HH.out.mono ?_
    rintro _ w5 ⟨rfl, g5⟩
    have G5 := Lib.hid (grow2 g4 g5)
    obtain ⟨u1, u2, u3, _⟩ := (SV w5 G5.out).out
    have WW5 := Lib.hid (WW.out.up g5)
    have HS2 := Lib.hid (step_any A' c' m (a, b2, b4) w5 WW5.out SM.out (by omega))
    rw [HE2.out, HR2.out] at HS2
    clear HH t1 t2 t3 g5
    go_wp2_with fail
    refine HS2.out.mono ?_
    rintro _ w6 ⟨v6, rfl, _, g6⟩
    have G6 := Lib.hid (grow2 G5.out g6)
    have WW6 := Lib.hid (WW5.out.up g6)
    clear HS2 g6 u1 u2 u3
    go_wp2_with fail
    go_loopw [11] (fun si wr => ∃ i : Nat, 1 ≤ i ∧ si = .int .i64 i ∧ Hid (w6.grownBy wr none)) (fun si _ => m.length - (intOf si).toNat)
    case atStart => exact ⟨1, by omega, rfl, only_refl _ _⟩
    case round =>
      obtain ⟨i, hi, rfl, hG⟩ := hrel
      by_cases hlt : i < m.length
      · have v1 : (i : Int) < (m.length : Int) := by omega
        have v0 : (0 : Int) ≤ (i : Int) := by omega
        obtain ⟨k, hk⟩ : ∃ k, i = k + 1 := ⟨i - 1, by omega⟩
        have k0 : (0 : Int) ≤ (k : Int) := by omega
        have k1 : (k : Int) < (m.length : Int) := by omega
        have hes : IntKind.i64.wrap ((i : Int) + 1) = (i : Int) + 1 := by rw [IntKind.wrap_i64]; omega
        have hed : IntKind.i64.wrap ((i : Int) - 1) = (k : Int) := by rw [IntKind.wrap_i64]; omega
        obtain ⟨x, hx⟩ : ∃ y, m[k]? = some y := ⟨_, List.getElem?_eq_getElem (by omega)⟩
        obtain ⟨y, hy⟩ : ∃ y, m[i]? = some y := ⟨_, List.getElem?_eq_getElem hlt⟩
        have hxy : klt x y := srt_get SM.out hx hy (by omega)
        obtain ⟨b, off, e0, hb, x1, x2, x3⟩ := (WW6.out.up hG.out).has.dot hx
        obtain ⟨b', off', e0', hb', y1, y2, y3⟩ := (WW6.out.up hG.out).has.dot hy
        subst e0
        obtain ⟨rfl, rfl⟩ : b = b' ∧ off = off' := by injection e0' with e; injection e with e1 e2; exact ⟨e1, e2⟩
        have l1 : ∀ q, (wr.drewN q).cell? ⟨b, off + k * 3, none⟩ = some (.int .i64 x.1) := fun _ => x1
        have l2 : ∀ q, (wr.drewN q).cell? ⟨b, off + k * 3 + 1, none⟩ = some (.int .i64 x.2.1) := fun _ => x2
        have m1 : ∀ q, (wr.drewN q).cell? ⟨b, off + i * 3, none⟩ = some (.int .i64 y.1) := fun _ => y1
        have m2 : ∀ q, (wr.drewN q).cell? ⟨b, off + i * 3 + 1, none⟩ = some (.int .i64 y.2.1) := fun _ => y2
        have HK := Lib.hid hk
        clear hx hy x1 x2 x3 y1 y2 y3 e0' hk
        rcases hxy with hlt1 | ⟨he1, hlt2⟩
        · have d1 : decide (y.1 < x.1) = false := by simp; omega
          have d2 : (x.1 == y.1) = false := by simp; omega
          go_wp2_with fail
          go_quiet (fail)
          go_wp2_with fail
          refine ⟨⟨i + 1, by omega, by go_num, only_drewN hG.out _⟩, ?_⟩
          simp [intOf]; omega
        · have d1 : decide (y.1 < x.1) = false := by simp; omega
          have d2 : (x.1 == y.1) = true := by simp; omega
          have d3 : decide (y.2.1 ≤ x.2.1) = false := by simp; omega
          have HE1 := Lib.hid he1
          clear he1
          go_wp2_with fail
          go_quiet (fail)
          go_wp2_with fail
          refine ⟨⟨i + 1, by omega, by go_num, only_drewN hG.out _⟩, ?_⟩
          simp [intOf]; omega
      · have v1 : ¬ (i : Int) < (m.length : Int) := by omega
        have S6 : ∀ V, w6.grownBy V none → Hid (V.cell? ⟨w2.heap.size, 0, none⟩ = some (.int .i64 a) ∧ V.cell? ⟨w2.heap.size, 1, none⟩ = some (.int .i64 b2) ∧ V.cell? ⟨w2.heap.size, 2, none⟩ = some (.int .i64 b4) ∧ w6.grownBy V none) := fun V hV => by
          obtain ⟨e1, e2, e3, _⟩ := (SV V (grow2 G6.out hV)).out
          exact ⟨e1, e2, e3, hV⟩
        have VV6 : ∀ V, w6.grownBy V none → Hid (Vw V V.heap.size A c l) := fun V hV => Lib.hid (VV.out.up (grow2 G6.out hV))
        have MM6 : ∀ V, w6.grownBy V none → Hid (Vw V V.heap.size A' c' m) := fun V hV => Lib.hid (WW6.out.up hV)
        have L1 : ∀ V, w6.grownBy V none → Hid (Calls Try.prog 21 #[.slice A l.length c, .slice A' m.length c'] V fun e w' => e = .returned (.bool true) ∧ V.grownBy w' none) := fun V hV => Lib.hid (by
          have := le_any A c l A' c' m V (VV6 V hV).out.has (MM6 V hV).out.has SM.out (by omega) (by omega)
          rw [decide_eq_true LE.out.1] at this
          exact this)
        have L2 : ∀ V, w6.grownBy V none → Hid (Calls Try.prog 21 #[.slice A' m.length c', .slice A l.length c] V fun e w' => e = .returned (.bool false) ∧ V.grownBy w' none) := fun V hV => Lib.hid (by
          have := le_any A' c' m A c l V (MM6 V hV).out.has (VV6 V hV).out.has OK.out.srt (by omega) (by omega)
          rw [decide_eq_false LE.out.2] at this
          exact this)
        have L3 : ∀ V, w6.grownBy V none → Hid (Calls Try.prog 17 #[.slice A' m.length c', .agg #[.int .i64 a, .int .i64 b2, .int .i64 b4]] V fun e w' => e = .returned (.bool true) ∧ V.grownBy w' none) := fun V hV => Lib.hid (by
          have := has_any A' c' m (a, b2, b4) V (MM6 V hV).out.has SM.out (by omega)
          rw [HVM.out] at this
          exact this)
        have L4 : ∀ V, w6.grownBy V none → Hid (Calls Try.prog 15 #[.slice A' m.length c', .int .i64 a, .int .i64 b2] V fun e w' => e = .returned (.int .i64 b4) ∧ V.grownBy w' none) := fun V hV => Lib.hid (by
          have := get_any A' c' m a b2 V (MM6 V hV).out.has SM.out (by omega)
          rw [GM.out] at this
          exact this)
        have gd0 := only_drew hG.out
        have tb : (b4 == b4) = true := by simp
        have GW := Lib.hid (grow2 G3.out G6.out)
        clear SV VV6 MM6 VV
        go_wp2_with fail
        go_region_held3 (fun V => V.cell? ⟨w2.heap.size, 0, none⟩ = some (.int .i64 a) ∧ V.cell? ⟨w2.heap.size, 1, none⟩ = some (.int .i64 b2) ∧ V.cell? ⟨w2.heap.size, 2, none⟩ = some (.int .i64 b4) ∧ w6.grownBy V none) (first | exact (S6 _ (by assumption)).out | exact (S6 _ (only_drew (by assumption))).out) ((first
            | (go_at_call 21; with_reducible refine (L1 _ (by assumption)).out.mono ?_; rintro e wa ⟨rfl, ga⟩; have ga := grow2 (by assumption : w6.grownBy _ none) ga)
            | (go_at_call 21; with_reducible refine (L2 _ (by assumption)).out.mono ?_; rintro e wb ⟨rfl, gb⟩; have gb := grow2 (by assumption : w6.grownBy _ none) gb)
            | (go_at_call 17; with_reducible refine (L3 _ (by assumption)).out.mono ?_; rintro e wc ⟨rfl, gc⟩; have gc := grow2 (by assumption : w6.grownBy _ none) gc)
            | (go_at_call 15; with_reducible refine (L4 _ (by assumption)).out.mono ?_; rintro e wd ⟨rfl, gd⟩; have gd := grow2 (by assumption : w6.grownBy _ none) gd)))
        go_wp2_with fail
        go_ret
        exact ⟨rfl, grow2 GW.out (by assumption)⟩
  · have hE : sErr l (a, b2, b4) = 7 := by unfold sErr; rw [if_neg hx, hv]; rfl
    have hR : sRow l (a, b2, b4) = [] := by unfold sRow; rw [hE]; rfl
    rw [hE, hR] at HST
    have HV := Lib.hid hv
    clear hE hR hv hx
    refine HST.out.mono ?_
    rintro _ w4 ⟨v4, rfl, ho, g4⟩
    have h0 : v4 = .slice none 0 0 ∨ ∃ A' c', v4 = .slice A' 0 c' := by
      obtain ⟨A', c', e⟩ := own_slice_w ho
      exact .inr ⟨A', c', by simpa using e⟩
    obtain ⟨A', c', rfl⟩ : ∃ A' c', v4 = .slice A' 0 c' := by
      rcases h0 with h0 | h0
      · exact ⟨none, 0, h0⟩
      · exact h0
    have HH := Lib.hid (has_any A c l (a, b2, b4) w4 (VV.out.up g4).has OK.out.srt (by omega))
    rw [HV.out] at HH
    obtain ⟨t1, t2, t3, _⟩ := (SV w4 g4).out
    clear ho HST s1 s2 s3 SV
    go_wp2_with fail
    refine HH.out.mono ?_
    rintro _ w5 ⟨rfl, g5⟩
    go_wp2_with fail
    go_ret
    exact ⟨rfl, grow2 G3.out (grow2 g4 g5)⟩
end Go.Proofs.Ytlanldjpafkckaa
