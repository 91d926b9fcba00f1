/- container/heap.down, of a queue. No condition of the program's own. -/
import Derived.Test.YtgfpogmipennaaaUq
namespace Go.Proofs.Ytgfpogmipennaaa
open Go.RowKit Go.Deep
/-- What down answers, and leaves. -/
def DownPost (w : World) (B : Nat) (F : Nat → Prop) (n i0 : Nat) (l : List It) (e : Ending) (w' : World) : Prop :=
  ∃ b l', e = .returned (.bool b) ∧ Sift w w' B F n l l' ∧ (b = true → Hp n (itm l')) ∧ (b = false → l' = l ∧ HU n (itm l) i0)
theorem down_out {w w' : World} {B n i0 i : Nat} {F : Nat → Prop} {l l' : List It} (S : Sift w w' B F n l l') (hii : i0 ≤ i) (H : HX n (itm l') i ∧ (i = i0 → l' = l) ∧ (i0 < i → HD n (itm l') i)) (hk : ∀ c, 0 < c → c < n → (c - 1) / 2 = i → ile (itm l' i) (itm l' c)) :
    DownPost w B F n i0 l (.returned (.bool (decide (i0 < i)))) w' := by
  refine ⟨_, l', rfl, S, fun hb => ?_, fun hb => ?_⟩
  · have h : i0 < i := of_decide_eq_true hb
    exact (H.2.2 h).done (fun hc => hk _ (by omega) hc (by omega)) (fun hc => hk _ (by omega) hc (by omega))
  · have h : i = i0 := by have := of_decide_eq_false hb; omega
    have hl := H.2.1 h
    subst hl
    subst h
    exact ⟨rfl, H.1.hu (fun hc => hk _ (by omega) hc (by omega)) (fun hc => hk _ (by omega) hc (by omega))⟩
def DnR (n i0 i : Nat) (l l' : List It) : Prop := HX n (itm l') i ∧ (i = i0 → l' = l) ∧ (i0 < i → HD n (itm l') i)
set_option maxRecDepth 100000 in
set_option maxHeartbeats 400000 in
theorem down_q (B i0 n : Nat) (l : List It) (F : Nat → Prop) (w : World) (h : QS w B l F) (hn : n ≤ l.length) (hl : l.length ≤ 1099511627776) (hi : i0 ≤ n) (hu : HX n (itm l) i0) :
    Calls Try.prog 31 #[.iface 58 (.pointer (some ⟨B, 0, none⟩)), .int .i64 i0, .int .i64 n] w (DownPost w B F n i0 l) := by
  have e1 := m_less
  have e2 := m_swap
  have HU0 : DnR n i0 i0 l l := ⟨hu, fun _ => rfl, fun h => by omega⟩
  have Q0 := Sift.refl h n
  clear hu h
  go_enter Try.func31, Try.ntmps31
  go_wp2_with fail
  go_loopw [7] (fun sj wr => ∃ (i : Nat) (l' : List It), sj = .int .i64 i ∧ i0 ≤ i ∧ i ≤ n ∧ Sift w wr B F n l l' ∧ DnR n i0 i l l') (fun sj _ => n - (intOf sj).toNat)
  case atStart => exact ⟨i0, l, rfl, Nat.le_refl _, hi, Q0, HU0⟩
  case round =>
    clear HU0 Q0
    obtain ⟨i, l', rfl, hii, hin, S, H⟩ := hrel
    have hlen := Lib.hid S.len
    by_cases hin2 : i ≤ 1099511627776
    · obtain ⟨j1, hj1⟩ : ∃ j1 : Nat, j1 = 2 * i + 1 := ⟨_, rfl⟩
      obtain ⟨j2, hj2⟩ : ∃ j2 : Nat, j2 = j1 + 1 := ⟨_, rfl⟩
      have y1 : IntKind.i64.wrap (2 * (i : Int)) = 2 * (i : Int) := by rw [IntKind.wrap_i64]; omega
      have y2 : IntKind.i64.wrap (2 * (i : Int) + 1) = (j1 : Int) := by rw [IntKind.wrap_i64]; omega
      have y3 : IntKind.i64.wrap ((j1 : Int) + 1) = (j2 : Int) := by rw [IntKind.wrap_i64]; omega
      have HJ1 := Lib.hid hj1
      have HJ2 := Lib.hid hj2
      have HI := Lib.hid hin
      have y4 : decide ((j1 : Int) < 0) = false := by rw [decide_eq_false_iff_not]; omega
      have HN := Lib.hid hn
      have HL := Lib.hid hl
      by_cases h1 : j1 < n
      · have t1 : decide ((n : Int) ≤ (j1 : Int)) = false := by rw [decide_eq_false_iff_not]; omega
        have hi' : i < l'.length := by rw [hlen.out]; omega
        have hj1' : j1 < l'.length := by rw [hlen.out]; omega
        clear hl hin hin2
        by_cases h2 : j2 < n
        · have t2 : decide ((j2 : Int) < (n : Int)) = true := by rw [decide_eq_true_iff]; omega
          have hj2' : j2 < l'.length := by rw [hlen.out]; omega
          clear hn hj1 hj2
          go_wp2_with fail
          refine (lessq B j2 j1 l' F _ S.q hj2' hj1').mono ?_
          rintro e w1 ⟨rfl, g1⟩
          have S1 := S.less g1
          clear S
          obtain ⟨t, ht⟩ : ∃ t, t = decide (ilt (itm l' j2) (itm l' j1)) := ⟨_, rfl⟩
          rw [← ht]
          cases t with
          | false =>
            have nl : Hid (¬ ilt (itm l' j2) (itm l' j1)) := Lib.hid (by simpa using ht.symm)
            clear ht g1
            go_wp2_with fail
            refine (lessq B j1 i l' F _ S1.q hj1' hi').mono ?_
            rintro e w2 ⟨rfl, g2⟩
            have S2 := S1.less g2
            have KM : Hid (∀ c, 0 < c → c < n → (c - 1) / 2 = i → ile (itm l' j1) (itm l' c)) := Lib.hid (fun c c0 cn hc => by
                          by_cases ec : c = j1
                          · rw [ec]; exact ile_refl _
                          · obtain rfl : c = j2 := by have := HJ1.out; have := HJ2.out; omega
                            exact nl.out)
            clear S1
            obtain ⟨s, hs⟩ : ∃ s, s = decide (ilt (itm l' j1) (itm l' i)) := ⟨_, rfl⟩
            rw [← hs]
            cases s with
            | false =>
              have ns : Hid (¬ ilt (itm l' j1) (itm l' i)) := Lib.hid (by simpa using hs.symm)
              clear hs g2
              go_wp2_with fail
              go_ret
              exact down_out S2 hii H (fun c c0 cn hc => ile_trans ns.out (KM.out c c0 cn hc))
            | true =>
              have ns : Hid (ilt (itm l' j1) (itm l' i)) := Lib.hid (by simpa using hs.symm)
              clear hs g2
              go_wp2_with fail
              refine (swap_q B i j1 l' F _ S2.q hi' hj1').mono ?_
              rintro e w3 ⟨rfl, q3, o3⟩
              have S3 := S2.swap q3 o3 (by have := HJ1.out; omega) (by omega) HN.out
              clear q3 o3 S2
              go_wp2_with fail
              go_roundw
              case rel =>
                have K := H.1.step (j := j1) (by have := HJ1.out; have := HJ2.out; omega) (by have := HJ1.out; have := HJ2.out; omega) (by omega) ns.out KM.out
                rw [← lswap_itm l' i j1 hi' hj1'] at K
                exact ⟨j1, lswap l' i j1, rfl, by have := HJ1.out; have := HJ2.out; omega, by omega, S3, ⟨K.hx, fun e => absurd e (by have := HJ1.out; have := HJ2.out; omega), fun _ => K⟩⟩
              case measure => have := HJ1.out; have := HJ2.out; simp [intOf]; omega
          | true =>
            have nl : Hid (ilt (itm l' j2) (itm l' j1)) := Lib.hid (by simpa using ht.symm)
            clear ht g1
            go_wp2_with fail
            refine (lessq B j2 i l' F _ S1.q hj2' hi').mono ?_
            rintro e w2 ⟨rfl, g2⟩
            have S2 := S1.less g2
            have KM : Hid (∀ c, 0 < c → c < n → (c - 1) / 2 = i → ile (itm l' j2) (itm l' c)) := Lib.hid (fun c c0 cn hc => by
                          by_cases ec : c = j2
                          · rw [ec]; exact ile_refl _
                          · obtain rfl : c = j1 := by have := HJ1.out; have := HJ2.out; omega
                            exact ile_of_lt nl.out)
            clear S1
            obtain ⟨s, hs⟩ : ∃ s, s = decide (ilt (itm l' j2) (itm l' i)) := ⟨_, rfl⟩
            rw [← hs]
            cases s with
            | false =>
              have ns : Hid (¬ ilt (itm l' j2) (itm l' i)) := Lib.hid (by simpa using hs.symm)
              clear hs g2
              go_wp2_with fail
              go_ret
              exact down_out S2 hii H (fun c c0 cn hc => ile_trans ns.out (KM.out c c0 cn hc))
            | true =>
              have ns : Hid (ilt (itm l' j2) (itm l' i)) := Lib.hid (by simpa using hs.symm)
              clear hs g2
              go_wp2_with fail
              refine (swap_q B i j2 l' F _ S2.q hi' hj2').mono ?_
              rintro e w3 ⟨rfl, q3, o3⟩
              have S3 := S2.swap q3 o3 (by have := HJ1.out; omega) (by omega) HN.out
              clear q3 o3 S2
              go_wp2_with fail
              go_roundw
              case rel =>
                have K := H.1.step (j := j2) (by have := HJ1.out; have := HJ2.out; omega) (by have := HJ1.out; have := HJ2.out; omega) (by omega) ns.out KM.out
                rw [← lswap_itm l' i j2 hi' hj2'] at K
                exact ⟨j2, lswap l' i j2, rfl, by have := HJ1.out; have := HJ2.out; omega, by omega, S3, ⟨K.hx, fun e => absurd e (by have := HJ1.out; have := HJ2.out; omega), fun _ => K⟩⟩
              case measure => have := HJ1.out; have := HJ2.out; simp [intOf]; omega
        · have t2 : decide ((j2 : Int) < (n : Int)) = false := by rw [decide_eq_false_iff_not]; omega
          have S1 := S
          clear S hn hj1 hj2
          go_wp2_with fail
          refine (lessq B j1 i l' F _ S1.q hj1' hi').mono ?_
          rintro e w2 ⟨rfl, g2⟩
          have S2 := S1.less g2
          have KM : Hid (∀ c, 0 < c → c < n → (c - 1) / 2 = i → ile (itm l' j1) (itm l' c)) := Lib.hid (fun c c0 cn hc => by
                      obtain rfl : c = j1 := by have := HJ1.out; have := HJ2.out; omega
                      exact ile_refl _)
          clear S1
          obtain ⟨s, hs⟩ : ∃ s, s = decide (ilt (itm l' j1) (itm l' i)) := ⟨_, rfl⟩
          rw [← hs]
          cases s with
          | false =>
            have ns : Hid (¬ ilt (itm l' j1) (itm l' i)) := Lib.hid (by simpa using hs.symm)
            clear hs g2
            go_wp2_with fail
            go_ret
            exact down_out S2 hii H (fun c c0 cn hc => ile_trans ns.out (KM.out c c0 cn hc))
          | true =>
            have ns : Hid (ilt (itm l' j1) (itm l' i)) := Lib.hid (by simpa using hs.symm)
            clear hs g2
            go_wp2_with fail
            refine (swap_q B i j1 l' F _ S2.q hi' hj1').mono ?_
            rintro e w3 ⟨rfl, q3, o3⟩
            have S3 := S2.swap q3 o3 (by have := HJ1.out; omega) (by omega) HN.out
            clear q3 o3 S2
            go_wp2_with fail
            go_roundw
            case rel =>
              have K := H.1.step (j := j1) (by have := HJ1.out; have := HJ2.out; omega) (by have := HJ1.out; have := HJ2.out; omega) (by omega) ns.out KM.out
              rw [← lswap_itm l' i j1 hi' hj1'] at K
              exact ⟨j1, lswap l' i j1, rfl, by have := HJ1.out; have := HJ2.out; omega, by omega, S3, ⟨K.hx, fun e => absurd e (by have := HJ1.out; have := HJ2.out; omega), fun _ => K⟩⟩
            case measure => have := HJ1.out; have := HJ2.out; simp [intOf]; omega
      · have t1 : decide ((n : Int) ≤ (j1 : Int)) = true := by rw [decide_eq_true_iff]; omega
        clear hj1 hj2 hin hin2 hl hn
        go_wp2_with fail
        go_ret
        exact down_out S hii H (fun c c0 cn hc => by have := HJ1.out; omega)
    · exact absurd (show i ≤ 1099511627776 by omega) hin2
end Go.Proofs.Ytgfpogmipennaaa
