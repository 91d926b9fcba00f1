/- TimerFar: times below nought, and at the ends of all numbers, stand in order. No condition of the program's own. -/
import Derived.Test.YtgfpogmipennaaaTk
namespace Go.Proofs.Ytgfpogmipennaaa
open Go.RowKit Go.Deep
/-- Of the first i times each is set once. -/
def Far (z : List Int) (i : Nat) (S : List It) : Prop := S.length = i ∧ ∀ y ∈ S, ∃ k : Nat, k < i ∧ y.1 = (k : Int) ∧ z[k]? = some y.2
theorem Far.fresh {z : List Int} {i : Nat} {S : List It} (h : Far z i S) : isIn (i : Int) S = false := isIn_false.2 (fun y hy e => by
  obtain ⟨k, h1, h2, _⟩ := h.2 y hy
  omega)
theorem Far.set {z : List Int} {i : Nat} {S : List It} (h : Far z i S) (hi : i < 20) {t : Int} (ht : z[i]? = some t) : setR (i : Int) S = 0 ∧ Far z (i + 1) (setT (i : Int) t S) := by
  have hr : setR (i : Int) S = 0 := by unfold setR; rw [if_neg (by omega), if_pos (.inr (by rw [h.1]; omega))]
  refine ⟨hr, ?_⟩
  have e : setT (i : Int) t S = ins ((i : Int), t) S := by unfold setT setS; rw [if_pos hr, del_none h.fresh]
  rw [e]
  refine ⟨by rw [(ins_perm _ S).length_eq, List.length_cons, h.1], fun y hy => ?_⟩
  rcases mem_ins.1 hy with rfl | hy
  · exact ⟨i, by omega, rfl, ht⟩
  · obtain ⟨k, h1, h2, h3⟩ := h.2 y hy
    exact ⟨k, by omega, h2, h3⟩
theorem Far.all {z : List Int} {i : Nat} {S : List It} (h : Far z i S) (hz : ∀ x ∈ z, x ≤ 9223372036854775807) : S.takeWhile (isDue 9223372036854775807) = S := by
  have := tw_split (p := isDue 9223372036854775807) (A := S) (C := []) (fun y hy => by
    obtain ⟨k, _, _, h3⟩ := h.2 y hy
    unfold isDue
    rw [decide_eq_true_iff]
    exact hz _ (List.mem_of_getElem? h3)) (fun z r e => by cases e)
  rw [List.append_nil] at this
  exact this.1
theorem Has.int {w : World} {lim : Nat} {A : Option Addr} {l : List Int} (h : Has w lim A (ns l)) {i : Nat} {x : Int} (hx : l[i]? = some x) : ∃ b off, A = some ⟨b, off, none⟩ ∧ b < lim ∧ w.cell? ⟨b, off + i, none⟩ = some (.int .i64 x) := by
  rcases h with h0 | ⟨b, off, hA, hb, hc⟩
  · have := congrArg List.length h0
    rw [ns_len, List.length_nil] at this
    have := (List.getElem?_eq_some_iff.1 hx).1
    omega
  · exact ⟨b, off, hA, hb, hc i _ (by simp [ns, hx])⟩
set_option maxRecDepth 100000 in
set_option maxHeartbeats 1000000 in
theorem timerFar_walk (A : Option Addr) (c : Nat) (z : List Int) (w : World) (h : Has w w.heap.size A (ns z)) (hz : ∀ x ∈ z, -9223372036854775808 ≤ x ∧ x ≤ 9223372036854775807) :
    Calls Try.prog 8 #[.slice A z.length c] w fun e w' => e = .returned (.bool true) ∧ w.grownBy w' none := by
  have HH := Lib.hid h
  have HZ := Lib.hid hz
  clear h hz
  go_enter Try.func8, Try.ntmps8
  go_wp2_with fail
  refine (known_any w).mono ?_
  rintro e w1 ⟨rfl, o1⟩
  go_wp2_with fail
  refine (tnew w1).mono ?_
  rintro e w2 ⟨B, rfl, hB, t2, g2⟩
  have o2 : OnlyF (Mine w) w w2 := o1.trans (OnlyF.still g2)
  have T2 := Lib.hid (t2.wide (G := Mine w) (fun k hk => by rw [hk]; exact Nat.le_trans o1.size hB))
  have O2 := Lib.hid o2
  clear t2 g2 o1 o2 hB
  go_wp2_with fail
  go_loopw [4, 5] (fun sn si wr => ∃ (i : Nat) (S : List It), sn = .int .i64 i ∧ si = .int .i64 i ∧ i ≤ z.length ∧ i ≤ 20 ∧ Hid (Far z i S) ∧ Hid (TS wr B S (Mine w)) ∧ Hid (OnlyF (Mine w) w wr)) (fun _ si _ => 20 - (intOf si).toNat)
  case atStart => exact ⟨0, [], rfl, rfl, Nat.zero_le _, by omega, Lib.hid ⟨rfl, by simp⟩, T2, O2⟩
  case round =>
    clear T2 O2
    obtain ⟨i, S, rfl, rfl, hi, hi20, FS, T, O⟩ := hrel
    by_cases h1 : i < z.length
    · by_cases h2 : i < 20
      · have t1 : (i : Int) < (z.length : Int) := by omega
        have t2 : (i : Int) < 20 := by omega
        have t0 : (0 : Int) ≤ (i : Int) := by omega
        have hes : IntKind.i64.wrap ((i : Int) + 1) = (i : Int) + 1 := by rw [IntKind.wrap_i64]; omega
        obtain ⟨x, hx⟩ : ∃ x, z[i]? = some x := ⟨z[i], by simp [h1]⟩
        obtain ⟨b, off, rfl, hb, cx⟩ := (HH.out.mine O.out).int hx
        obtain ⟨r1, r2⟩ := FS.out.set h2 hx
        have R1 := Lib.hid r1
        have R2 := Lib.hid r2
        clear hx r1 r2
        go_wp2_with fail
        refine (tset B i x S (Mine w) _ T.out (by rw [FS.out.1]; omega) (Mine.new O.out)).mono ?_
        rintro e w3 ⟨rfl, t3, o3⟩
        rw [R1.out]
        have T3 := Lib.hid t3
        have O3 := Lib.hid (O.out.trans o3)
        clear t3 o3
        go_wp2_with fail
        go_roundw
        case rel => exact ⟨i + 1, _, by go_num, by go_num, by omega, by omega, R2, T3, O3⟩
        case measure => simp [intOf]; omega
      · have t1 : (i : Int) < (z.length : Int) := by omega
        have t2 : ¬ (i : Int) < 20 := by omega
        have hlen : S.length = i := FS.out.1
        go_wp2_with fail
        refine (tdue B 9223372036854775807 S (Mine w) _ T.out (by omega)).mono ?_
        rintro e w3 ⟨v, rfl, r, t3, o3⟩
        rw [FS.out.all (fun x hx => (HZ.out x hx).2)] at r
        have O3 := Lib.hid (O.out.trans o3)
        have hn : (ns (ids S)).length = i := by rw [ns_len]; simp [ids]; exact hlen
        rw [hn] at r
        have SR := Lib.hid T.out.srt
        obtain ⟨X, cX, rfl⟩ := row_slice r
        have RR := Lib.hid r
        clear t3 o3 r hn hlen
        have b1 : (i : Int) ≤ 20 := by omega
        have l0 : Hid (1 ≤ 1 ∧ (1 ≤ i ∨ i = 0)) := Lib.hid ⟨Nat.le_refl _, by omega⟩
        go_wp2_with fail
        go_loopw [7] (fun sk wr => ∃ (k n : Nat), sk = .int .i64 k ∧ 1 ≤ k ∧ (k ≤ i ∨ k = 1) ∧ wr = w3.drewN n) (fun sk _ => i - (intOf sk).toNat)
        case atStart => exact ⟨1, 0, rfl, Nat.le_refl _, .inr rfl, rfl⟩
        case round =>
          obtain ⟨k, n, rfl, k1, ki, rfl⟩ := hrel
          have kes : IntKind.i64.wrap ((k : Int) + 1) = (k : Int) + 1 := by rw [IntKind.wrap_i64]; omega
          by_cases hk : k < i
          · have s1 : (k : Int) < (i : Int) := by omega
            have s0 : (0 : Int) ≤ (k : Int) := by omega
            obtain ⟨q, hq⟩ : ∃ q : Nat, q + 1 = k := ⟨k - 1, by omega⟩
            have kw : IntKind.i64.wrap ((k : Int) - 1) = (q : Int) := by rw [IntKind.wrap_i64]; omega
            have q0 : (0 : Int) ≤ (q : Int) := by omega
            have q1 : (q : Int) < (i : Int) := by omega
            have hSl : S.length = i := FS.out.1
            obtain ⟨x, hx⟩ : ∃ x, S[q]? = some x := ⟨S[q]'(by omega), by simp⟩
            obtain ⟨y, hy⟩ : ∃ y, S[k]? = some y := ⟨S[k]'(by omega), by simp⟩
            obtain ⟨k2, x1, x2, x3⟩ := FS.out.2 x (List.mem_of_getElem? hx)
            obtain ⟨k3, y1, y2, y3⟩ := FS.out.2 y (List.mem_of_getElem? hy)
            have hlt : ilt x y := by
              obtain ⟨ha, e1⟩ := List.getElem?_eq_some_iff.1 hx
              obtain ⟨hb, e2⟩ := List.getElem?_eq_some_iff.1 hy
              rw [← e1, ← e2]
              exact List.pairwise_iff_getElem.1 SR.out q k ha hb (by omega)
            obtain ⟨g, cc, hX, _, _, hc⟩ := row_form RR.out (show 0 < i by omega)
            injection hX with hX1 hX2 hX3
            subst hX1; subst hX3
            have d1 : w3.cell? ⟨g, q, none⟩ = some (.int .i64 k2) := hc q _ (by rw [← x2]; simp [ids, hx])
            have d2 : w3.cell? ⟨g, k, none⟩ = some (.int .i64 k3) := hc k _ (by rw [← y2]; simp [ids, hy])
            obtain ⟨b, off, hA, hb, d3⟩ := (HH.out.mine O3.out).int x3
            subst hA
            obtain ⟨b', off', hA, hb', d4⟩ := (HH.out.mine O3.out).int y3
            injection hA with hA
            injection hA with hA1 hA2
            subst hA1; subst hA2
            have e1 : ∀ n, (w3.drewN n).cell? ⟨g, q, none⟩ = some (.int .i64 k2) := fun _ => d1
            have e2 : ∀ n, (w3.drewN n).cell? ⟨g, k, none⟩ = some (.int .i64 k3) := fun _ => d2
            have e3 : ∀ n, (w3.drewN n).cell? ⟨b, off + k2, none⟩ = some (.int .i64 x.2) := fun _ => d3
            have e4 : ∀ n, (w3.drewN n).cell? ⟨b, off + k3, none⟩ = some (.int .i64 y.2) := fun _ => d4
            have k20 : (0 : Int) ≤ (k2 : Int) := by omega
            have k30 : (0 : Int) ≤ (k3 : Int) := by omega
            have k2z : (k2 : Int) < (z.length : Int) := by have := (List.getElem?_eq_some_iff.1 x3).1; omega
            have k3z : (k3 : Int) < (z.length : Int) := by have := (List.getElem?_eq_some_iff.1 y3).1; omega
            have u1 : decide (y.2 < x.2) = false := by rw [decide_eq_false_iff_not]; unfold ilt at hlt; omega
            obtain ⟨xa, hxa⟩ : ∃ xa, xa = x.2 := ⟨_, rfl⟩
            obtain ⟨ya, hya⟩ : ∃ ya, ya = y.2 := ⟨_, rfl⟩
            rw [← hxa] at e3 u1
            rw [← hya] at e4 u1
            have HK := Lib.hid hk
            have HQ := Lib.hid hq
            by_cases eq : xa = ya
            · have u2 : (xa == ya) = true := by rw [beq_iff_eq]; exact eq
              have u3 : decide (k3 < k2) = false := by rw [decide_eq_false_iff_not]; unfold ilt at hlt; omega
              have u4 : decide ((k3 : Int) < (k2 : Int)) = false := by rw [decide_eq_false_iff_not]; unfold ilt at hlt; omega
              clear x1 x2 x3 y1 y2 y3 hx hy hc hlt d1 d2 d3 d4 eq hxa hya hq
              go_wp2_with fail
              go_quiet (fail)
              go_wp2_with fail
              go_quiet (fail)
              go_wp2_with fail
              go_roundw
              case rel => exact ⟨k + 1, _, by go_num, by omega, .inl (by have := HK.out; omega), rfl⟩
              case measure => simp [intOf]; omega
            · have u2 : (xa == ya) = false := by rw [beq_eq_false_iff_ne]; exact eq
              clear x1 x2 x3 y1 y2 y3 hx hy hc hlt d1 d2 d3 d4 eq hxa hya hq
              go_wp2_with fail
              go_quiet (fail)
              go_wp2_with fail
              go_quiet (fail)
              go_wp2_with fail
              go_roundw
              case rel => exact ⟨k + 1, _, by go_num, by omega, .inl (by have := HK.out; omega), rfl⟩
              case measure => simp [intOf]; omega
          · have s1 : ¬ (k : Int) < (i : Int) := by omega
            have GE := Lib.hid (Mine.end O3.out)
            go_wp2_with fail
            go_ret
            exact ⟨by simp, only_drewN GE.out _⟩
    · have t1 : ¬ (i : Int) < (z.length : Int) := by omega
      have hlen : S.length = i := FS.out.1
      go_wp2_with fail
      refine (tdue B 9223372036854775807 S (Mine w) _ T.out (by omega)).mono ?_
      rintro e w3 ⟨v, rfl, r, t3, o3⟩
      rw [FS.out.all (fun x hx => (HZ.out x hx).2)] at r
      have O3 := Lib.hid (O.out.trans o3)
      have hn : (ns (ids S)).length = i := by rw [ns_len]; simp [ids]; exact hlen
      rw [hn] at r
      have SR := Lib.hid T.out.srt
      obtain ⟨X, cX, rfl⟩ := row_slice r
      have RR := Lib.hid r
      clear t3 o3 r hn hlen
      have b1 : (i : Int) ≤ 20 := by omega
      have l0 : Hid (1 ≤ 1 ∧ (1 ≤ i ∨ i = 0)) := Lib.hid ⟨Nat.le_refl _, by omega⟩
      go_wp2_with fail
      go_loopw [7] (fun sk wr => ∃ (k n : Nat), sk = .int .i64 k ∧ 1 ≤ k ∧ (k ≤ i ∨ k = 1) ∧ wr = w3.drewN n) (fun sk _ => i - (intOf sk).toNat)
      case atStart => exact ⟨1, 0, rfl, Nat.le_refl _, .inr rfl, rfl⟩
      case round =>
        obtain ⟨k, n, rfl, k1, ki, rfl⟩ := hrel
        have kes : IntKind.i64.wrap ((k : Int) + 1) = (k : Int) + 1 := by rw [IntKind.wrap_i64]; omega
        by_cases hk : k < i
        · have s1 : (k : Int) < (i : Int) := by omega
          have s0 : (0 : Int) ≤ (k : Int) := by omega
          obtain ⟨q, hq⟩ : ∃ q : Nat, q + 1 = k := ⟨k - 1, by omega⟩
          have kw : IntKind.i64.wrap ((k : Int) - 1) = (q : Int) := by rw [IntKind.wrap_i64]; omega
          have q0 : (0 : Int) ≤ (q : Int) := by omega
          have q1 : (q : Int) < (i : Int) := by omega
          have hSl : S.length = i := FS.out.1
          obtain ⟨x, hx⟩ : ∃ x, S[q]? = some x := ⟨S[q]'(by omega), by simp⟩
          obtain ⟨y, hy⟩ : ∃ y, S[k]? = some y := ⟨S[k]'(by omega), by simp⟩
          obtain ⟨k2, x1, x2, x3⟩ := FS.out.2 x (List.mem_of_getElem? hx)
          obtain ⟨k3, y1, y2, y3⟩ := FS.out.2 y (List.mem_of_getElem? hy)
          have hlt : ilt x y := by
            obtain ⟨ha, e1⟩ := List.getElem?_eq_some_iff.1 hx
            obtain ⟨hb, e2⟩ := List.getElem?_eq_some_iff.1 hy
            rw [← e1, ← e2]
            exact List.pairwise_iff_getElem.1 SR.out q k ha hb (by omega)
          obtain ⟨g, cc, hX, _, _, hc⟩ := row_form RR.out (show 0 < i by omega)
          injection hX with hX1 hX2 hX3
          subst hX1; subst hX3
          have d1 : w3.cell? ⟨g, q, none⟩ = some (.int .i64 k2) := hc q _ (by rw [← x2]; simp [ids, hx])
          have d2 : w3.cell? ⟨g, k, none⟩ = some (.int .i64 k3) := hc k _ (by rw [← y2]; simp [ids, hy])
          obtain ⟨b, off, hA, hb, d3⟩ := (HH.out.mine O3.out).int x3
          subst hA
          obtain ⟨b', off', hA, hb', d4⟩ := (HH.out.mine O3.out).int y3
          injection hA with hA
          injection hA with hA1 hA2
          subst hA1; subst hA2
          have e1 : ∀ n, (w3.drewN n).cell? ⟨g, q, none⟩ = some (.int .i64 k2) := fun _ => d1
          have e2 : ∀ n, (w3.drewN n).cell? ⟨g, k, none⟩ = some (.int .i64 k3) := fun _ => d2
          have e3 : ∀ n, (w3.drewN n).cell? ⟨b, off + k2, none⟩ = some (.int .i64 x.2) := fun _ => d3
          have e4 : ∀ n, (w3.drewN n).cell? ⟨b, off + k3, none⟩ = some (.int .i64 y.2) := fun _ => d4
          have k20 : (0 : Int) ≤ (k2 : Int) := by omega
          have k30 : (0 : Int) ≤ (k3 : Int) := by omega
          have k2z : (k2 : Int) < (z.length : Int) := by have := (List.getElem?_eq_some_iff.1 x3).1; omega
          have k3z : (k3 : Int) < (z.length : Int) := by have := (List.getElem?_eq_some_iff.1 y3).1; omega
          have u1 : decide (y.2 < x.2) = false := by rw [decide_eq_false_iff_not]; unfold ilt at hlt; omega
          obtain ⟨xa, hxa⟩ : ∃ xa, xa = x.2 := ⟨_, rfl⟩
          obtain ⟨ya, hya⟩ : ∃ ya, ya = y.2 := ⟨_, rfl⟩
          rw [← hxa] at e3 u1
          rw [← hya] at e4 u1
          have HK := Lib.hid hk
          have HQ := Lib.hid hq
          by_cases eq : xa = ya
          · have u2 : (xa == ya) = true := by rw [beq_iff_eq]; exact eq
            have u3 : decide (k3 < k2) = false := by rw [decide_eq_false_iff_not]; unfold ilt at hlt; omega
            have u4 : decide ((k3 : Int) < (k2 : Int)) = false := by rw [decide_eq_false_iff_not]; unfold ilt at hlt; omega
            clear x1 x2 x3 y1 y2 y3 hx hy hc hlt d1 d2 d3 d4 eq hxa hya hq
            go_wp2_with fail
            go_quiet (fail)
            go_wp2_with fail
            go_quiet (fail)
            go_wp2_with fail
            go_roundw
            case rel => exact ⟨k + 1, _, by go_num, by omega, .inl (by have := HK.out; omega), rfl⟩
            case measure => simp [intOf]; omega
          · have u2 : (xa == ya) = false := by rw [beq_eq_false_iff_ne]; exact eq
            clear x1 x2 x3 y1 y2 y3 hx hy hc hlt d1 d2 d3 d4 eq hxa hya hq
            go_wp2_with fail
            go_quiet (fail)
            go_wp2_with fail
            go_quiet (fail)
            go_wp2_with fail
            go_roundw
            case rel => exact ⟨k + 1, _, by go_num, by omega, .inl (by have := HK.out; omega), rfl⟩
            case measure => simp [intOf]; omega
        · have s1 : ¬ (k : Int) < (i : Int) := by omega
          have GE := Lib.hid (Mine.end O3.out)
          go_wp2_with fail
          go_ret
          exact ⟨by simp, only_drewN GE.out _⟩
end Go.Proofs.Ytgfpogmipennaaa
