/- The walk of VectorHas: it returns true for every input. No condition. -/
import Derived.Test.YtlanldjpafkckaaVo
import Derived.Test.YtlanldjpafkckaaRow
namespace Go.Proofs.Ytlanldjpafkckaa
open Go.RowKit Go.Deep

theorem vget_snoc {l : List E3} (hs : Srt l) {i : Nat} {y : E3} (hy : l[i]? = some y) (d e : Int) : vget (l.take (i + 1)) d e = if y.1 = d ∧ y.2.1 = e then y.2.2 else vget (l.take i) d e := by
  have app : ∀ (m : List E3), (∀ z ∈ m, klt z y) → vget (m ++ [y]) d e = if y.1 = d ∧ y.2.1 = e then y.2.2 else vget m d e := by
    intro m
    induction m with
    | nil => intro _; rfl
    | cons z r ih =>
      intro hm
      rw [List.cons_append, vget, vget, ih fun u hu => hm u (by simp [hu])]
      have hz := hm z (by simp)
      unfold klt at hz
      by_cases h1 : z.1 = d ∧ z.2.1 = e
      · rw [if_pos h1, if_pos h1, if_neg (by omega)]
      · rw [if_neg h1, if_neg h1]
  have e1 : l.take (i + 1) = l.take i ++ [y] := by rw [List.take_add_one, hy]; rfl
  rw [e1]
  refine app _ fun z hz => ?_
  obtain ⟨j, hj⟩ := List.getElem?_of_mem hz
  have hji : j < i := by have := (List.getElem?_eq_some_iff.1 hj).1; rw [List.length_take] at this; omega
  rw [List.getElem?_take, if_pos hji] at hj
  exact srt_get hs hj hy hji
set_option maxRecDepth 100000 in
set_option maxHeartbeats 4000000 in
theorem vectorHas_walk (A0 : Option Addr) (c0 : Nat) (ns : List Int) (w : World) (h : Has w w.heap.size A0 (is_ ns)) (hb : ∀ n ∈ ns, -9223372036854775808 ≤ n ∧ n ≤ 9223372036854775807) :
    Calls Try.prog 6 #[.slice A0 ns.length c0] w fun e w' => e = .returned (.bool true) ∧ w.grownBy w' none := by
  have HA := Lib.hid h
  have HB := Lib.hid hb
  clear h hb
  go_enter Try.func6, Try.ntmps6
  go_wp2_with fail
  refine (known_any _).mono ?_
  rintro _ w1 ⟨rfl, g1⟩
  have OF := Lib.hid (of_any A0 c0 ns w1 (HA.out.up g1) HB.out)
  go_wp2_with fail
  refine OF.out.mono ?_
  rintro _ w2 ⟨v, l, rfl, ho, ok, g2⟩
  obtain ⟨A, c, rfl⟩ := own_slice_w ho
  have VV := Lib.hid (Vw.own ho).1
  have OK := Lib.hid ok
  have hl : l.length ≤ 12 := ok.len
  have G0 := Lib.hid (only_step g1 g2 (fun _ h => by cases h))
  clear OF ho ok g1 g2 HA HB
  go_wp2_with fail
  go_loopw [4] (fun sd wr => ∃ d : Int, 0 ≤ d ∧ d ≤ 4 ∧ sd = .int .i64 d ∧ Hid (w2.grownBy wr none)) (fun sd _ => (4 - intOf sd).toNat)
  case atStart => exact ⟨0, by omega, by omega, rfl, only_refl _ _⟩
  case round =>
    obtain ⟨d, d0, d4, rfl, hG⟩ := hrel
    by_cases hd : d < 4
    · have hesd : IntKind.i64.wrap (d + 1) = d + 1 := by rw [IntKind.wrap_i64]; omega
      go_wp2_with fail
      obtain ⟨wd, hwd⟩ : ∃ wd, wd = wr := ⟨_, rfl⟩
      rw [← hwd] at hG ⊢
      clear hwd
      go_loopw [5] (fun se wr => ∃ e : Int, 0 ≤ e ∧ e ≤ 4 ∧ se = .int .i64 e ∧ Hid (w2.grownBy wr none)) (fun se _ => (4 - intOf se).toNat)
      case atStart => exact ⟨0, by omega, by omega, rfl, hG⟩
      case round =>
        obtain ⟨e, e0, e4, rfl, hG2⟩ := hrel
        by_cases he : e < 4
        · have hese : IntKind.i64.wrap (e + 1) = e + 1 := by rw [IntKind.wrap_i64]; omega
          go_wp2_with fail
          obtain ⟨we, hwe⟩ : ∃ we, we = wr := ⟨_, rfl⟩
          rw [← hwe] at hG2 ⊢
          clear hwe
          go_loopw [6, 7] (fun sn si wr => ∃ (i : Nat) (n : Int), i ≤ l.length ∧ si = .int .i64 i ∧ sn = .int .i64 n ∧ Hid (n = vget (l.take i) d e) ∧ wr = we) (fun _ si _ => l.length - (intOf si).toNat)
          case atStart => exact ⟨0, 0, Nat.zero_le _, rfl, rfl, rfl, rfl⟩
          case round =>
            obtain ⟨i, n, hi, rfl, rfl, HN, rfl⟩ := hrel
            by_cases hlt : i < l.length
            · have u1 : (i : Int) < (l.length : Int) := by omega
              have u0 : (0 : Int) ≤ (i : Int) := by omega
              have hes : IntKind.i64.wrap ((i : Int) + 1) = (i : Int) + 1 := by rw [IntKind.wrap_i64]; omega
              obtain ⟨y, hy⟩ : ∃ y, l[i]? = some y := ⟨_, List.getElem?_eq_getElem hlt⟩
              obtain ⟨b, off, e0, hb, y1, y2, y3⟩ := (VV.out.up hG2.out).has.dot hy
              subst e0
              have HS := Lib.hid (vget_snoc OK.out.srt hy d e)
              clear hy
              by_cases h1 : y.1 = d
              · have t1 : (y.1 == d) = true := by rw [beq_iff_eq]; exact h1
                by_cases h2 : y.2.1 = e
                · have t2 : (y.2.1 == e) = true := by rw [beq_iff_eq]; exact h2
                  have HE : Hid (y.2.2 = vget (l.take (i + 1)) d e) := Lib.hid (by rw [HS.out, if_pos ⟨h1, h2⟩])
                  clear h1 h2
                  go_wp2_with fail
                  refine ⟨⟨i + 1, y.2.2, by omega, by go_num, rfl, HE, ?_⟩, ?_⟩
                  · first | trivial | rfl
                  · simp [intOf]; omega
                · have t2 : (y.2.1 == e) = false := by rw [beq_eq_false_iff_ne]; exact h2
                  have HE : Hid (n = vget (l.take (i + 1)) d e) := Lib.hid (by rw [HS.out, if_neg (fun h => h2 h.2)]; exact HN.out)
                  clear h1 h2
                  go_wp2_with fail
                  refine ⟨⟨i + 1, n, by omega, by go_num, rfl, HE, ?_⟩, ?_⟩
                  · first | trivial | rfl
                  · simp [intOf]; omega
              · have t1 : (y.1 == d) = false := by rw [beq_eq_false_iff_ne]; exact h1
                have HE : Hid (n = vget (l.take (i + 1)) d e) := Lib.hid (by rw [HS.out, if_neg (fun h => h1 h.1)]; exact HN.out)
                clear h1
                go_wp2_with fail
                refine ⟨⟨i + 1, n, by omega, by go_num, rfl, HE, ?_⟩, ?_⟩
                · first | trivial | rfl
                · simp [intOf]; omega
            · have u1 : ¬ (i : Int) < (l.length : Int) := by omega
              have HV : Hid (vget l d e = n) := Lib.hid (by rw [HN.out, List.take_of_length_le (by omega)])
              have GT := Lib.hid (get_any A c l d e _ (VV.out.up hG2.out).has OK.out.srt (by omega))
              rw [HV.out] at GT
              have t1 : (n != n) = false := by simp
              clear HN
              go_wp2_with fail
              refine GT.out.mono ?_
              rintro _ w3 ⟨rfl, g3⟩
              have G3 := Lib.hid (only_step hG2.out g3 (fun _ h => by cases h))
              clear g3 GT
              go_wp2_with fail
              go_loopw [8] (fun ss wr => ∃ s : Int, -1 ≤ s ∧ s ≤ 8 ∧ ss = .int .i64 s ∧ Hid (w2.grownBy wr none)) (fun ss _ => (8 - intOf ss).toNat)
              case atStart => exact ⟨-1, by omega, by omega, rfl, G3⟩
              case round =>
                obtain ⟨s, s0, s8, rfl, hG4⟩ := hrel
                by_cases hs : s < 8
                · have hess : IntKind.i64.wrap (s + 1) = s + 1 := by rw [IntKind.wrap_i64]; omega
                  have HS := Lib.hid (has_any A c l (d, e, s) wr (VV.out.up hG4.out).has OK.out.srt (by omega))
                  unfold vhas at HS
                  rw [show vget l (d, e, s).1 (d, e, s).2.1 = n from HV.out] at HS
                  by_cases h1 : 1 ≤ s
                  · by_cases h2 : s ≤ n
                    · rw [show (decide (1 ≤ (d, e, s).2.2) && decide ((d, e, s).2.2 ≤ n)) = true by simp [h1, h2]] at HS
                      go_wp2_with fail
                      refine HS.out.mono ?_
                      rintro _ w5 ⟨rfl, g5⟩
                      go_wp2_with fail
                      refine ⟨⟨s + 1, by omega, by omega, rfl, only_step hG4.out g5 (fun _ h => by cases h)⟩, ?_⟩
                      simp [intOf]; omega
                    · rw [show (decide (1 ≤ (d, e, s).2.2) && decide ((d, e, s).2.2 ≤ n)) = false by simp [h2]] at HS
                      go_wp2_with fail
                      refine HS.out.mono ?_
                      rintro _ w5 ⟨rfl, g5⟩
                      go_wp2_with fail
                      refine ⟨⟨s + 1, by omega, by omega, rfl, only_step hG4.out g5 (fun _ h => by cases h)⟩, ?_⟩
                      simp [intOf]; omega
                  · rw [show (decide (1 ≤ (d, e, s).2.2) && decide ((d, e, s).2.2 ≤ n)) = false by simp [h1]] at HS
                    go_wp2_with fail
                    refine HS.out.mono ?_
                    rintro _ w5 ⟨rfl, g5⟩
                    go_wp2_with fail
                    refine ⟨⟨s + 1, by omega, by omega, rfl, only_step hG4.out g5 (fun _ h => by cases h)⟩, ?_⟩
                    simp [intOf]; omega
                · go_wp2_with fail
                  refine ⟨⟨e + 1, by omega, by omega, rfl, hG4⟩, ?_⟩
                  simp [intOf]; omega
        · go_wp2_with fail
          refine ⟨⟨d + 1, by omega, by omega, rfl, hG2⟩, ?_⟩
          simp [intOf]; omega
    · go_wp2_with fail
      go_ret
      exact ⟨rfl, only_step G0.out hG.out (fun _ h => by cases h)⟩
end Go.Proofs.Ytlanldjpafkckaa
