/- The walk of DiskStops: it returns true for every input. No condition. -/
import Derived.Test.YtmjfemnjkgfgfaaStops
namespace Go.Proofs.Ytmjfemnjkgfgfaa
open Go.RowKit Go.Deep

set_option maxRecDepth 100000 in
set_option maxHeartbeats 4000000 in
theorem diskStops_walk (n : Int) (A : Option Addr) (cap : Nat) (kinds : List Int) (w : World) (n1 : -9223372036854775808 ≤ n) (n2 : n ≤ 9223372036854775807) (hA : Has w w.heap.size A (kinds.map (Value.int .i64))) (_ : kinds.length ≤ maxLen)
    (hkb : ∀ x ∈ kinds, -9223372036854775808 ≤ x ∧ x ≤ 9223372036854775807) :
    Calls Try.prog 6 #[.int .i64 n, .slice A kinds.length cap] w fun e w' => e = .returned (.bool true) ∧ Below w.heap.size w w' := by

  have KN := fun W => Lib.hid (known_any W)
  have WN := fun W => Lib.hid (within_any n 12 n1 n2 (by omega) (by omega) W)
  have pn1 := Int.emod_nonneg n (show (12 : Int) ≠ 0 by decide)
  have pn2 := Int.emod_lt_of_pos n (show (0 : Int) < 12 by decide)
  obtain ⟨q, hq⟩ : ∃ q, q = n % 12 := ⟨_, rfl⟩
  rw [← hq] at WN pn1 pn2
  have hw0 : IntKind.i64.wrap (1 + q) = 1 + q := by rw [IntKind.wrap_i64]; omega
  have HA := Lib.hid hA
  have HKB := Lib.hid hkb
  clear hq hA hkb
  go_enter Try.func6, Try.ntmps6
  go_wp2_with fail
  refine (KN _).out.mono ?_
  rintro _ w1 ⟨rfl, b1⟩
  have z1 := b1.size
  have NW := Lib.hid (new_any w.heap.size 60 w1 (by decide) (by decide) z1)
  go_wp2_with fail
  refine NW.out.mono ?_
  rintro _ w2 ⟨g, rfl, D2, g2⟩
  have hgB := D2.lt
  have b2 : Below w.heap.size w w2 := b1.trans (bel g2 (fun _ h => by cases h) z1)
  go_wp2_with fail
  refine (WN _).out.mono ?_
  rintro _ w3 ⟨rfl, rfl⟩
  have ST := Lib.hid (stop_any w.heap.size g (newS 60) (1 + q) w2 D2)
  clear D2
  go_wp2_with fail
  refine ST.out.mono ?_
  rintro _ w3 ⟨rfl, D3, g3⟩
  have b3 : Below w.heap.size w w3 := b2.trans (bel g3 (fun k hk => by cases hk; exact hgB.1) (by have := hgB; omega))
  have SV0 : Hid (Sv (1 + q) 0 0 (stopS (newS 60) (1 + q))) := ⟨rfl, rfl, Nat.le_refl _, Nat.zero_le _, ⟨Int.le_refl _, Int.le_refl _⟩, by omega, Int.le_refl _, by omega, .inl ⟨rfl, rfl, rfl, by omega⟩⟩
  obtain ⟨nn, hnn⟩ : ∃ nn, nn = 1 + q := ⟨_, rfl⟩
  rw [← hnn] at SV0 D3 ⊢
  have D3 := Lib.hid D3
  have hnb : 1 ≤ nn ∧ nn ≤ 12 := by omega
  clear hnn WN hw0 ST g3 b2 b1 NW g2 pn1 pn2
  go_wp2_with fail
  go_loopw [7, 8] (fun so si wr => ∃ (o : Int) (i : Nat) (d : DS), i ≤ kinds.length ∧ so = .int .i64 o ∧ si = .int .i64 i ∧ Hid (Dk wr w.heap.size g d) ∧ Hid (Sv nn o i d) ∧ Below w.heap.size w wr)
    (fun _ si _ => 30 - (intOf si).toNat)
  case atStart => exact ⟨0, 0, _, Nat.zero_le _, rfl, rfl, D3, SV0, b3⟩
  case round =>
    clear D3 SV0 b3
    obtain ⟨o, i, d, hi, rfl, rfl, HD, HS, hB⟩ := hrel
    have hzr := hB.size
    have hso := HS.out.o0
    have hal := HS.out.al
    have hon : o ≤ nn := by rcases hal with h | h <;> omega
    by_cases hlt : i < kinds.length ∧ i < 30
    · obtain ⟨hl1, hl2⟩ := hlt
      have t1 : (i : Int) < (kinds.length : Int) := by omega
      have t2 : (i : Int) < 30 := by omega
      have t0 : (0 : Int) ≤ (i : Int) := by omega
      have hes : IntKind.i64.wrap ((i : Int) + 1) = (i : Int) + 1 := by rw [IntKind.wrap_i64]; omega
      have hos : IntKind.i64.wrap (o + 1) = o + 1 := by rw [IntKind.wrap_i64]; omega
      have hns : IntKind.i64.wrap (nn - 1) = nn - 1 := by rw [IntKind.wrap_i64]; omega
      obtain ⟨bb, off, x, rfl, hxb, hbl, hcell⟩ : ∃ bb off x, A = some ⟨bb, off, none⟩ ∧ (-9223372036854775808 ≤ x ∧ x ≤ 9223372036854775807) ∧ bb < w.heap.size ∧ wr.cell? ⟨bb, off + i, none⟩ = some (.int .i64 x) := by
        have hx : (kinds.map (Value.int .i64))[i]? = some (.int .i64 kinds[i]) := by simp [hl1]
        rcases HA.out with h0 | ⟨bb, off, hA, hb, hc⟩
        · rw [h0] at hx; cases hx
        · exact ⟨bb, off, kinds[i], hA, HKB.out _ (List.getElem_mem hl1), hb, (hB.cell (p := ⟨bb, off + i, none⟩) hb).trans (hc i _ hx)⟩
      have hWm : ∀ (m : Int), x % 6 = m → ∀ W, Hid (Calls Try.prog 12 #[.int .i64 x, .int .i64 6] W fun e w' => e = .returned (.int .i64 m) ∧ W = w') := fun m hm W => by
        rw [← hm]; exact within_any x 6 hxb.1 hxb.2 (by omega) (by omega) W
      have h6 : x % 6 = 0 ∨ x % 6 = 1 ∨ x % 6 = 2 ∨ x % 6 = 3 ∨ x % 6 = 4 ∨ x % 6 = 5 := by omega
      have DD := fun W (H : Dk W w.heap.size g d) => Lib.hid (dead_any w.heap.size g d W H)
      have HW := Lib.hid (HS.out.wait hl2)
      have HK := Lib.hid HS.out.ok
      rcases hal with ⟨ha1, ha2, ha3, ha4⟩ | ⟨ha1, ha2, ha3, ha4⟩
      · have SP1 := Lib.hid (HS.out.append ha1 hl2)
        have SP2 := Lib.hid (HS.out.sync ha1 hl2)
        have SP3 := Lib.hid (HS.out.swap ha1 hl2)
        have SP4 := Lib.hid (HS.out.cut ha1 hl2)
        have HA1 := Lib.hid ha1
        have HRM := Lib.hid HS.out.rm
        have HLL := Lib.hid HS.out.l
        have HSL := Lib.hid HS.out.s
        rw [ha1] at DD
        clear ha1 ha2 ha3
        rcases h6 with h6 | h6 | h6 | h6 | h6 | h6
        · by_cases hn : o + 1 = nn
          · as_aux_lemma =>
              have EQE : appendE d [1] = 18 := by rw [SP1.out.2, opR, if_pos hn]
              have EQD : appendS d [1] = appendS d [1] := rfl
              have HL1 : Hid (Has (wr.alloc (.cells #[.int .u8 1] 5)) (wr.alloc (.cells #[.int .u8 1] 5)).heap.size (some ⟨wr.heap.size, 0, none⟩) (bs [1])) := has_new wr #[.int .u8 1] [1] rfl
              have HDa : Hid (Dk (wr.alloc (.cells #[.int .u8 1] 5)) w.heap.size g d) := HD.out.below (World.grownBy_alloc wr _ none)
              have CT : Hid (Calls Try.prog 13 #[.pointer (some ⟨g, 0, none⟩), .slice (some ⟨wr.heap.size, 0, none⟩) 1 1] (wr.alloc (.cells #[.int .u8 1] 5)) fun e w' => e = .returned (.int .i64 (18)) ∧ Dk w' w.heap.size g (appendS d [1]) ∧ Below w.heap.size w w') := by
                have h := append_any w.heap.size g d (some ⟨wr.heap.size, 0, none⟩) 1 [1] _ HDa.out HK.out HL1.out (by decide)
                rw [EQE] at h
                exact h.mono fun _ _ ⟨h1, h2, h3⟩ => ⟨h1, h2, (hB.trans (bel (World.grownBy_alloc wr (.cells #[.int .u8 1] 5) none) (fun _ h => by cases h) hzr)).trans h3⟩
              clear HL1 HDa
              clear EQD
              have SVn := Lib.hid SP1.out.1
              have hdd : Hid ((appendS d [1]).dd = true ∧ (appendS d [1]).op = nn - 1) := by
                rcases SVn.out.al with h | h
                · exfalso; omega
                · exact ⟨h.1, h.2.2.2⟩
              obtain ⟨d2, hd2⟩ : ∃ d2, d2 = appendS d [1] := ⟨_, rfl⟩
              rw [← hd2] at CT SVn hdd
              have DD2 := fun W (H : Dk W w.heap.size g d2) => Lib.hid (dead_any w.heap.size g d2 W H)
              have OP2 := fun W (H : Dk W w.heap.size g d2) => Lib.hid (ops_any w.heap.size g d2 W H)
              rw [hdd.out.1] at DD2
              rw [hdd.out.2] at OP2
              have hnb2 : (o + 1 == nn) = true := by rw [beq_iff_eq]; exact hn
              have hmn : ¬ o + 1 ≤ nn - 1 := by omega
              have hmn2 : min (o + 1) (nn - 1) = nn - 1 := by omega
              clear EQE hd2 hdd SP1 SP2 SP3 SP4
              have hW := hWm _ h6
              clear hWm h6
              go_wp2_with fail
              refine (DD _ HD.out).out.mono ?_
              rintro _ w5 ⟨rfl, rfl⟩
              go_wp2_with fail
              refine (hW _).out.mono ?_
              rintro _ w5 ⟨rfl, rfl⟩

              go_wp2_with fail
              refine CT.out.mono ?_
              rintro _ w6 ⟨rfl, D6, b6⟩
              go_wp2_with fail
              refine (DD2 _ D6).out.mono ?_
              rintro _ w7 ⟨rfl, rfl⟩
              go_wp2_with fail
              refine (OP2 _ D6).out.mono ?_
              rintro _ w7 ⟨rfl, rfl⟩
              go_wp2_with fail
              go_roundw
              case rel => exact ⟨o + 1, i + 1, d2, by omega, by first | rfl | rw [hn], by go_num, D6, SVn, b6⟩
              case measure => simp [intOf]; omega
          · as_aux_lemma =>
              have EQE : appendE d [1] = 0 := by rw [SP1.out.2, opR, if_neg hn]
              have EQD : appendS d [1] = appendS d [1] := rfl
              have HL1 : Hid (Has (wr.alloc (.cells #[.int .u8 1] 5)) (wr.alloc (.cells #[.int .u8 1] 5)).heap.size (some ⟨wr.heap.size, 0, none⟩) (bs [1])) := has_new wr #[.int .u8 1] [1] rfl
              have HDa : Hid (Dk (wr.alloc (.cells #[.int .u8 1] 5)) w.heap.size g d) := HD.out.below (World.grownBy_alloc wr _ none)
              have CT : Hid (Calls Try.prog 13 #[.pointer (some ⟨g, 0, none⟩), .slice (some ⟨wr.heap.size, 0, none⟩) 1 1] (wr.alloc (.cells #[.int .u8 1] 5)) fun e w' => e = .returned (.int .i64 (0)) ∧ Dk w' w.heap.size g (appendS d [1]) ∧ Below w.heap.size w w') := by
                have h := append_any w.heap.size g d (some ⟨wr.heap.size, 0, none⟩) 1 [1] _ HDa.out HK.out HL1.out (by decide)
                rw [EQE] at h
                exact h.mono fun _ _ ⟨h1, h2, h3⟩ => ⟨h1, h2, (hB.trans (bel (World.grownBy_alloc wr (.cells #[.int .u8 1] 5) none) (fun _ h => by cases h) hzr)).trans h3⟩
              clear HL1 HDa
              clear EQD
              have SVn := Lib.hid SP1.out.1
              have hdd : Hid ((appendS d [1]).dd = false ∧ (appendS d [1]).op = o + 1) := by
                rcases SVn.out.al with h | h
                · exact ⟨h.1, h.2.2.1⟩
                · exfalso; omega
              obtain ⟨d2, hd2⟩ : ∃ d2, d2 = appendS d [1] := ⟨_, rfl⟩
              rw [← hd2] at CT SVn hdd
              have DD2 := fun W (H : Dk W w.heap.size g d2) => Lib.hid (dead_any w.heap.size g d2 W H)
              have OP2 := fun W (H : Dk W w.heap.size g d2) => Lib.hid (ops_any w.heap.size g d2 W H)
              rw [hdd.out.1] at DD2
              rw [hdd.out.2] at OP2
              have hnb2 : (o + 1 == nn) = false := by rw [beq_eq_false_iff_ne]; exact hn
              have hmn : o + 1 ≤ nn - 1 := by omega
              have hmn2 : min (o + 1) (nn - 1) = o + 1 := by omega
              clear EQE hd2 hdd SP1 SP2 SP3 SP4
              have hW := hWm _ h6
              clear hWm h6
              go_wp2_with fail
              refine (DD _ HD.out).out.mono ?_
              rintro _ w5 ⟨rfl, rfl⟩
              go_wp2_with fail
              refine (hW _).out.mono ?_
              rintro _ w5 ⟨rfl, rfl⟩

              go_wp2_with fail
              refine CT.out.mono ?_
              rintro _ w6 ⟨rfl, D6, b6⟩
              go_wp2_with fail
              refine (DD2 _ D6).out.mono ?_
              rintro _ w7 ⟨rfl, rfl⟩
              go_wp2_with fail
              refine (OP2 _ D6).out.mono ?_
              rintro _ w7 ⟨rfl, rfl⟩
              go_wp2_with fail
              go_roundw
              case rel => exact ⟨o + 1, i + 1, d2, by omega, by first | rfl | rw [hn], by go_num, D6, SVn, b6⟩
              case measure => simp [intOf]; omega
        · by_cases hn : o + 1 = nn
          · as_aux_lemma =>
              have EQE : syncE d = 18 := by rw [SP2.out.2, opR, if_pos hn]
              have EQD : syncS d = syncS d := rfl
              have CT : Hid (Calls Try.prog 15 #[.pointer (some ⟨g, 0, none⟩)] wr fun e w' => e = .returned (.int .i64 (18)) ∧ Dk w' w.heap.size g (syncS d) ∧ Below w.heap.size w w') := by
                have h := sync_any w.heap.size g d wr HD.out HK.out
                rw [EQE] at h
                exact h.mono fun _ _ ⟨h1, h2, h3⟩ => ⟨h1, h2, hB.trans (bel h3 (fun k hk => by cases hk; exact hgB.1) hzr)⟩
              clear EQD
              have SVn := Lib.hid SP2.out.1
              have hdd : Hid ((syncS d).dd = true ∧ (syncS d).op = nn - 1) := by
                rcases SVn.out.al with h | h
                · exfalso; omega
                · exact ⟨h.1, h.2.2.2⟩
              obtain ⟨d2, hd2⟩ : ∃ d2, d2 = syncS d := ⟨_, rfl⟩
              rw [← hd2] at CT SVn hdd
              have DD2 := fun W (H : Dk W w.heap.size g d2) => Lib.hid (dead_any w.heap.size g d2 W H)
              have OP2 := fun W (H : Dk W w.heap.size g d2) => Lib.hid (ops_any w.heap.size g d2 W H)
              rw [hdd.out.1] at DD2
              rw [hdd.out.2] at OP2
              have hnb2 : (o + 1 == nn) = true := by rw [beq_iff_eq]; exact hn
              have hmn : ¬ o + 1 ≤ nn - 1 := by omega
              have hmn2 : min (o + 1) (nn - 1) = nn - 1 := by omega
              clear EQE hd2 hdd SP1 SP2 SP3 SP4
              have hW := hWm _ h6
              clear hWm h6
              go_wp2_with fail
              refine (DD _ HD.out).out.mono ?_
              rintro _ w5 ⟨rfl, rfl⟩
              go_wp2_with fail
              refine (hW _).out.mono ?_
              rintro _ w5 ⟨rfl, rfl⟩

              go_wp2_with fail
              refine CT.out.mono ?_
              rintro _ w6 ⟨rfl, D6, b6⟩
              go_wp2_with fail
              refine (DD2 _ D6).out.mono ?_
              rintro _ w7 ⟨rfl, rfl⟩
              go_wp2_with fail
              refine (OP2 _ D6).out.mono ?_
              rintro _ w7 ⟨rfl, rfl⟩
              go_wp2_with fail
              go_roundw
              case rel => exact ⟨o + 1, i + 1, d2, by omega, by first | rfl | rw [hn], by go_num, D6, SVn, b6⟩
              case measure => simp [intOf]; omega
          · as_aux_lemma =>
              have EQE : syncE d = 0 := by rw [SP2.out.2, opR, if_neg hn]
              have EQD : syncS d = syncS d := rfl
              have CT : Hid (Calls Try.prog 15 #[.pointer (some ⟨g, 0, none⟩)] wr fun e w' => e = .returned (.int .i64 (0)) ∧ Dk w' w.heap.size g (syncS d) ∧ Below w.heap.size w w') := by
                have h := sync_any w.heap.size g d wr HD.out HK.out
                rw [EQE] at h
                exact h.mono fun _ _ ⟨h1, h2, h3⟩ => ⟨h1, h2, hB.trans (bel h3 (fun k hk => by cases hk; exact hgB.1) hzr)⟩
              clear EQD
              have SVn := Lib.hid SP2.out.1
              have hdd : Hid ((syncS d).dd = false ∧ (syncS d).op = o + 1) := by
                rcases SVn.out.al with h | h
                · exact ⟨h.1, h.2.2.1⟩
                · exfalso; omega
              obtain ⟨d2, hd2⟩ : ∃ d2, d2 = syncS d := ⟨_, rfl⟩
              rw [← hd2] at CT SVn hdd
              have DD2 := fun W (H : Dk W w.heap.size g d2) => Lib.hid (dead_any w.heap.size g d2 W H)
              have OP2 := fun W (H : Dk W w.heap.size g d2) => Lib.hid (ops_any w.heap.size g d2 W H)
              rw [hdd.out.1] at DD2
              rw [hdd.out.2] at OP2
              have hnb2 : (o + 1 == nn) = false := by rw [beq_eq_false_iff_ne]; exact hn
              have hmn : o + 1 ≤ nn - 1 := by omega
              have hmn2 : min (o + 1) (nn - 1) = o + 1 := by omega
              clear EQE hd2 hdd SP1 SP2 SP3 SP4
              have hW := hWm _ h6
              clear hWm h6
              go_wp2_with fail
              refine (DD _ HD.out).out.mono ?_
              rintro _ w5 ⟨rfl, rfl⟩
              go_wp2_with fail
              refine (hW _).out.mono ?_
              rintro _ w5 ⟨rfl, rfl⟩

              go_wp2_with fail
              refine CT.out.mono ?_
              rintro _ w6 ⟨rfl, D6, b6⟩
              go_wp2_with fail
              refine (DD2 _ D6).out.mono ?_
              rintro _ w7 ⟨rfl, rfl⟩
              go_wp2_with fail
              refine (OP2 _ D6).out.mono ?_
              rintro _ w7 ⟨rfl, rfl⟩
              go_wp2_with fail
              go_roundw
              case rel => exact ⟨o + 1, i + 1, d2, by omega, by first | rfl | rw [hn], by go_num, D6, SVn, b6⟩
              case measure => simp [intOf]; omega
        · by_cases hn : o + 1 = nn
          · as_aux_lemma =>
              have EQE : swapE d [2, 3] = 18 := by rw [SP3.out.2, opR, if_pos hn]
              have EQD : swapS d [2, 3] = swapS d [2, 3] := rfl
              have HDa : Hid (Dk (wr.alloc (.cells #[.int .u8 2, .int .u8 3] 5)) w.heap.size g d) := HD.out.below (World.grownBy_alloc wr _ none)
              have CT : Hid (Calls Try.prog 21 #[.pointer (some ⟨g, 0, none⟩), .slice (some ⟨wr.heap.size, 0, none⟩) 2 2] (wr.alloc (.cells #[.int .u8 2, .int .u8 3] 5)) fun e w' => e = .returned (.int .i64 (18)) ∧ Dk w' w.heap.size g (swapS d [2, 3]) ∧ Below w.heap.size w w') := by
                have hgr := HD.out.lt
                have hl1 : Has (wr.alloc (.cells #[.int .u8 2, .int .u8 3] 5)) (wr.alloc (.cells #[.int .u8 2, .int .u8 3] 5)).heap.size (some ⟨wr.heap.size, 0, none⟩) (bs [2, 3]) := has_new wr #[.int .u8 2, .int .u8 3] [2, 3] rfl
                have h := swap_any w.heap.size g d (some ⟨wr.heap.size, 0, none⟩) 2 [2, 3] _ HDa.out HK.out (fun W hW => has_apart hl1 hW (fun o e => by injection e with e; injection e with e; omega)) (by decide)
                rw [EQE] at h
                exact h.mono fun _ _ ⟨h1, h2, h3⟩ => ⟨h1, h2, (hB.trans (bel (World.grownBy_alloc wr (.cells #[.int .u8 2, .int .u8 3] 5) none) (fun _ h => by cases h) hzr)).trans (bel h3 (fun k hk => by cases hk; exact hgB.1) (by simp; omega))⟩
              clear HDa
              clear EQD
              have SVn := Lib.hid SP3.out.1
              have hdd : Hid ((swapS d [2, 3]).dd = true ∧ (swapS d [2, 3]).op = nn - 1) := by
                rcases SVn.out.al with h | h
                · exfalso; omega
                · exact ⟨h.1, h.2.2.2⟩
              obtain ⟨d2, hd2⟩ : ∃ d2, d2 = swapS d [2, 3] := ⟨_, rfl⟩
              rw [← hd2] at CT SVn hdd
              have DD2 := fun W (H : Dk W w.heap.size g d2) => Lib.hid (dead_any w.heap.size g d2 W H)
              have OP2 := fun W (H : Dk W w.heap.size g d2) => Lib.hid (ops_any w.heap.size g d2 W H)
              rw [hdd.out.1] at DD2
              rw [hdd.out.2] at OP2
              have hnb2 : (o + 1 == nn) = true := by rw [beq_iff_eq]; exact hn
              have hmn : ¬ o + 1 ≤ nn - 1 := by omega
              have hmn2 : min (o + 1) (nn - 1) = nn - 1 := by omega
              clear EQE hd2 hdd SP1 SP2 SP3 SP4
              have hW := hWm _ h6
              clear hWm h6
              go_wp2_with fail
              refine (DD _ HD.out).out.mono ?_
              rintro _ w5 ⟨rfl, rfl⟩
              go_wp2_with fail
              refine (hW _).out.mono ?_
              rintro _ w5 ⟨rfl, rfl⟩

              go_wp2_with fail
              refine CT.out.mono ?_
              rintro _ w6 ⟨rfl, D6, b6⟩
              go_wp2_with fail
              refine (DD2 _ D6).out.mono ?_
              rintro _ w7 ⟨rfl, rfl⟩
              go_wp2_with fail
              refine (OP2 _ D6).out.mono ?_
              rintro _ w7 ⟨rfl, rfl⟩
              go_wp2_with fail
              go_roundw
              case rel => exact ⟨o + 1, i + 1, d2, by omega, by first | rfl | rw [hn], by go_num, D6, SVn, b6⟩
              case measure => simp [intOf]; omega
          · as_aux_lemma =>
              have EQE : swapE d [2, 3] = 0 := by rw [SP3.out.2, opR, if_neg hn]
              have EQD : swapS d [2, 3] = swapS d [2, 3] := rfl
              have HDa : Hid (Dk (wr.alloc (.cells #[.int .u8 2, .int .u8 3] 5)) w.heap.size g d) := HD.out.below (World.grownBy_alloc wr _ none)
              have CT : Hid (Calls Try.prog 21 #[.pointer (some ⟨g, 0, none⟩), .slice (some ⟨wr.heap.size, 0, none⟩) 2 2] (wr.alloc (.cells #[.int .u8 2, .int .u8 3] 5)) fun e w' => e = .returned (.int .i64 (0)) ∧ Dk w' w.heap.size g (swapS d [2, 3]) ∧ Below w.heap.size w w') := by
                have hgr := HD.out.lt
                have hl1 : Has (wr.alloc (.cells #[.int .u8 2, .int .u8 3] 5)) (wr.alloc (.cells #[.int .u8 2, .int .u8 3] 5)).heap.size (some ⟨wr.heap.size, 0, none⟩) (bs [2, 3]) := has_new wr #[.int .u8 2, .int .u8 3] [2, 3] rfl
                have h := swap_any w.heap.size g d (some ⟨wr.heap.size, 0, none⟩) 2 [2, 3] _ HDa.out HK.out (fun W hW => has_apart hl1 hW (fun o e => by injection e with e; injection e with e; omega)) (by decide)
                rw [EQE] at h
                exact h.mono fun _ _ ⟨h1, h2, h3⟩ => ⟨h1, h2, (hB.trans (bel (World.grownBy_alloc wr (.cells #[.int .u8 2, .int .u8 3] 5) none) (fun _ h => by cases h) hzr)).trans (bel h3 (fun k hk => by cases hk; exact hgB.1) (by simp; omega))⟩
              clear HDa
              clear EQD
              have SVn := Lib.hid SP3.out.1
              have hdd : Hid ((swapS d [2, 3]).dd = false ∧ (swapS d [2, 3]).op = o + 1) := by
                rcases SVn.out.al with h | h
                · exact ⟨h.1, h.2.2.1⟩
                · exfalso; omega
              obtain ⟨d2, hd2⟩ : ∃ d2, d2 = swapS d [2, 3] := ⟨_, rfl⟩
              rw [← hd2] at CT SVn hdd
              have DD2 := fun W (H : Dk W w.heap.size g d2) => Lib.hid (dead_any w.heap.size g d2 W H)
              have OP2 := fun W (H : Dk W w.heap.size g d2) => Lib.hid (ops_any w.heap.size g d2 W H)
              rw [hdd.out.1] at DD2
              rw [hdd.out.2] at OP2
              have hnb2 : (o + 1 == nn) = false := by rw [beq_eq_false_iff_ne]; exact hn
              have hmn : o + 1 ≤ nn - 1 := by omega
              have hmn2 : min (o + 1) (nn - 1) = o + 1 := by omega
              clear EQE hd2 hdd SP1 SP2 SP3 SP4
              have hW := hWm _ h6
              clear hWm h6
              go_wp2_with fail
              refine (DD _ HD.out).out.mono ?_
              rintro _ w5 ⟨rfl, rfl⟩
              go_wp2_with fail
              refine (hW _).out.mono ?_
              rintro _ w5 ⟨rfl, rfl⟩

              go_wp2_with fail
              refine CT.out.mono ?_
              rintro _ w6 ⟨rfl, D6, b6⟩
              go_wp2_with fail
              refine (DD2 _ D6).out.mono ?_
              rintro _ w7 ⟨rfl, rfl⟩
              go_wp2_with fail
              refine (OP2 _ D6).out.mono ?_
              rintro _ w7 ⟨rfl, rfl⟩
              go_wp2_with fail
              go_roundw
              case rel => exact ⟨o + 1, i + 1, d2, by omega, by first | rfl | rw [hn], by go_num, D6, SVn, b6⟩
              case measure => simp [intOf]; omega
        · by_cases hn : o + 1 = nn
          · as_aux_lemma =>
              have EQE : cutE d 0 = 18 := by rw [SP4.out.2, opR, if_pos hn]
              have EQD : cutS d 0 = cutS d 0 := rfl
              have CT : Hid (Calls Try.prog 23 #[.pointer (some ⟨g, 0, none⟩), .int .i64 0] wr fun e w' => e = .returned (.int .i64 (18)) ∧ Dk w' w.heap.size g (cutS d 0) ∧ Below w.heap.size w w') := by
                have h := cut_any w.heap.size g d 0 wr HD.out HK.out
                rw [EQE] at h
                exact h.mono fun _ _ ⟨h1, h2, h3⟩ => ⟨h1, h2, hB.trans (bel h3 (fun k hk => by cases hk; exact hgB.1) hzr)⟩
              clear EQD
              have SVn := Lib.hid SP4.out.1
              have hdd : Hid ((cutS d 0).dd = true ∧ (cutS d 0).op = nn - 1) := by
                rcases SVn.out.al with h | h
                · exfalso; omega
                · exact ⟨h.1, h.2.2.2⟩
              obtain ⟨d2, hd2⟩ : ∃ d2, d2 = cutS d 0 := ⟨_, rfl⟩
              rw [← hd2] at CT SVn hdd
              have DD2 := fun W (H : Dk W w.heap.size g d2) => Lib.hid (dead_any w.heap.size g d2 W H)
              have OP2 := fun W (H : Dk W w.heap.size g d2) => Lib.hid (ops_any w.heap.size g d2 W H)
              rw [hdd.out.1] at DD2
              rw [hdd.out.2] at OP2
              have hnb2 : (o + 1 == nn) = true := by rw [beq_iff_eq]; exact hn
              have hmn : ¬ o + 1 ≤ nn - 1 := by omega
              have hmn2 : min (o + 1) (nn - 1) = nn - 1 := by omega
              clear EQE hd2 hdd SP1 SP2 SP3 SP4
              have hW := hWm _ h6
              clear hWm h6
              go_wp2_with fail
              refine (DD _ HD.out).out.mono ?_
              rintro _ w5 ⟨rfl, rfl⟩
              go_wp2_with fail
              refine (hW _).out.mono ?_
              rintro _ w5 ⟨rfl, rfl⟩

              go_wp2_with fail
              refine CT.out.mono ?_
              rintro _ w6 ⟨rfl, D6, b6⟩
              go_wp2_with fail
              refine (DD2 _ D6).out.mono ?_
              rintro _ w7 ⟨rfl, rfl⟩
              go_wp2_with fail
              refine (OP2 _ D6).out.mono ?_
              rintro _ w7 ⟨rfl, rfl⟩
              go_wp2_with fail
              go_roundw
              case rel => exact ⟨o + 1, i + 1, d2, by omega, by first | rfl | rw [hn], by go_num, D6, SVn, b6⟩
              case measure => simp [intOf]; omega
          · as_aux_lemma =>
              have EQE : cutE d 0 = 0 := by rw [SP4.out.2, opR, if_neg hn]
              have EQD : cutS d 0 = cutS d 0 := rfl
              have CT : Hid (Calls Try.prog 23 #[.pointer (some ⟨g, 0, none⟩), .int .i64 0] wr fun e w' => e = .returned (.int .i64 (0)) ∧ Dk w' w.heap.size g (cutS d 0) ∧ Below w.heap.size w w') := by
                have h := cut_any w.heap.size g d 0 wr HD.out HK.out
                rw [EQE] at h
                exact h.mono fun _ _ ⟨h1, h2, h3⟩ => ⟨h1, h2, hB.trans (bel h3 (fun k hk => by cases hk; exact hgB.1) hzr)⟩
              clear EQD
              have SVn := Lib.hid SP4.out.1
              have hdd : Hid ((cutS d 0).dd = false ∧ (cutS d 0).op = o + 1) := by
                rcases SVn.out.al with h | h
                · exact ⟨h.1, h.2.2.1⟩
                · exfalso; omega
              obtain ⟨d2, hd2⟩ : ∃ d2, d2 = cutS d 0 := ⟨_, rfl⟩
              rw [← hd2] at CT SVn hdd
              have DD2 := fun W (H : Dk W w.heap.size g d2) => Lib.hid (dead_any w.heap.size g d2 W H)
              have OP2 := fun W (H : Dk W w.heap.size g d2) => Lib.hid (ops_any w.heap.size g d2 W H)
              rw [hdd.out.1] at DD2
              rw [hdd.out.2] at OP2
              have hnb2 : (o + 1 == nn) = false := by rw [beq_eq_false_iff_ne]; exact hn
              have hmn : o + 1 ≤ nn - 1 := by omega
              have hmn2 : min (o + 1) (nn - 1) = o + 1 := by omega
              clear EQE hd2 hdd SP1 SP2 SP3 SP4
              have hW := hWm _ h6
              clear hWm h6
              go_wp2_with fail
              refine (DD _ HD.out).out.mono ?_
              rintro _ w5 ⟨rfl, rfl⟩
              go_wp2_with fail
              refine (hW _).out.mono ?_
              rintro _ w5 ⟨rfl, rfl⟩

              go_wp2_with fail
              refine CT.out.mono ?_
              rintro _ w6 ⟨rfl, D6, b6⟩
              go_wp2_with fail
              refine (DD2 _ D6).out.mono ?_
              rintro _ w7 ⟨rfl, rfl⟩
              go_wp2_with fail
              refine (OP2 _ D6).out.mono ?_
              rintro _ w7 ⟨rfl, rfl⟩
              go_wp2_with fail
              go_roundw
              case rel => exact ⟨o + 1, i + 1, d2, by omega, by first | rfl | rw [hn], by go_num, D6, SVn, b6⟩
              case measure => simp [intOf]; omega
        · as_aux_lemma =>
            have EQE : appendE d (List.replicate 70 0) = 17 := by
              have h1 := HRM.out; have h3 := HLL.out; have h4 := HSL.out
              unfold appendE
              rw [if_neg (by rw [HA1.out]; decide), if_pos (by rw [List.length_replicate]; omega)]
            have EQD : appendS d (List.replicate 70 0) = d := by
              have h1 := HRM.out; have h3 := HLL.out; have h4 := HSL.out
              unfold appendS
              rw [if_pos (.inr (by rw [List.length_replicate]; omega))]
            have hmk := run_make_row' (P := Try.prog) 31 5 (.int .u8 0) 1 Try.underlying31 Try.info_u8 rfl .i64 .i64 70 (by decide) (by decide) wr
            have hmk : (Instr.makeSlice 31 (.int .i64 70) (.int .i64 70)).run Try.prog wr = .ok (.slice (some ⟨wr.heap.size, 0, none⟩) 70 70) (wr.alloc (.cells (madeCells #[Value.int .u8 0] 70) 5)) := hmk
            obtain ⟨row, hrow⟩ : ∃ row, row = madeCells #[Value.int .u8 0] 70 := ⟨_, rfl⟩
            have hrl : Hid (row.toList = bs (List.replicate 70 0)) := by unfold Hid; rw [hrow]; exact made_list 70
            rw [← hrow] at hmk
            clear hrow
            have HDa : Hid (Dk (wr.alloc (.cells row 5)) w.heap.size g d) := HD.out.below (World.grownBy_alloc wr _ none)
            have CT : Hid (Calls Try.prog 13 #[.pointer (some ⟨g, 0, none⟩), .slice (some ⟨wr.heap.size, 0, none⟩) 70 70] (wr.alloc (.cells row 5)) fun e w' => e = .returned (.int .i64 (17)) ∧ Dk w' w.heap.size g (d) ∧ Below w.heap.size w w') := by
              have hln : (List.replicate 70 (0 : Int)).length = 70 := List.length_replicate
              have h := append_any w.heap.size g d (some ⟨wr.heap.size, 0, none⟩) 70 (List.replicate 70 0) _ HDa.out HK.out (has_new wr row _ hrl.out) (by rw [hln]; decide)
              rw [hln, EQE, EQD] at h
              exact h.mono fun _ _ ⟨h1, h2, h3⟩ => ⟨h1, h2, (hB.trans (bel (World.grownBy_alloc wr (.cells row 5) none) (fun _ h => by cases h) hzr)).trans h3⟩
            have hcl : ∀ i, (wr.alloc (.cells row 5)).cell? ⟨bb, off + i, none⟩ = wr.cell? ⟨bb, off + i, none⟩ := fun i => World.cell?_alloc_lt _ _ _ (by show bb < wr.heap.size; omega)
            clear HDa
            clear EQE EQD SP1 SP2 SP3 SP4
            have hW := hWm _ h6
            clear hWm h6
            go_wp2_with fail
            refine (DD _ HD.out).out.mono ?_
            rintro _ w5 ⟨rfl, rfl⟩
            go_wp2_with fail
            refine (hW _).out.mono ?_
            rintro _ w5 ⟨rfl, rfl⟩

            go_wp2_with fail
            refine (hW _).out.mono ?_
            rintro _ w5 ⟨rfl, rfl⟩
            go_wp2_with fail
            refine CT.out.mono ?_
            rintro _ w6 ⟨rfl, D6, b6⟩
            go_wp2_with fail
            refine (DD _ D6).out.mono ?_
            rintro _ w7 ⟨rfl, rfl⟩
            go_wp2_with fail
            go_roundw
            case rel => exact ⟨o, i + 1, d, by omega, rfl, by go_num, D6, HW, b6⟩
            case measure => simp [intOf]; omega
        · as_aux_lemma =>
            have EQE : cutE d 99 = 1 := by
              have h3 := HLL.out
              unfold cutE
              rw [if_neg (by rw [HA1.out]; decide), if_pos (by omega)]
            have EQD : cutS d 99 = d := by
              have h3 := HLL.out
              unfold cutS
              rw [if_pos (.inr (by omega))]
            have CT : Hid (Calls Try.prog 23 #[.pointer (some ⟨g, 0, none⟩), .int .i64 99] wr fun e w' => e = .returned (.int .i64 (1)) ∧ Dk w' w.heap.size g (d) ∧ Below w.heap.size w w') := by
              have h := cut_any w.heap.size g d 99 wr HD.out HK.out
              rw [EQE, EQD] at h
              exact h.mono fun _ _ ⟨h1, h2, h3⟩ => ⟨h1, h2, hB.trans (bel h3 (fun k hk => by cases hk; exact hgB.1) hzr)⟩
            clear EQE EQD SP1 SP2 SP3 SP4
            have hW := hWm _ h6
            clear hWm h6
            go_wp2_with fail
            refine (DD _ HD.out).out.mono ?_
            rintro _ w5 ⟨rfl, rfl⟩
            go_wp2_with fail
            refine (hW _).out.mono ?_
            rintro _ w5 ⟨rfl, rfl⟩

            go_wp2_with fail
            refine (hW _).out.mono ?_
            rintro _ w5 ⟨rfl, rfl⟩
            go_wp2_with fail
            refine CT.out.mono ?_
            rintro _ w6 ⟨rfl, D6, b6⟩
            go_wp2_with fail
            refine (DD _ D6).out.mono ?_
            rintro _ w7 ⟨rfl, rfl⟩
            go_wp2_with fail
            go_roundw
            case rel => exact ⟨o, i + 1, d, by omega, rfl, by go_num, D6, HW, b6⟩
            case measure => simp [intOf]; omega
      · have HA1 := Lib.hid ha1
        have hoe : (o == nn) = true := by rw [ha2]; simp
        rw [ha1] at DD
        clear ha1 ha2 ha3 ha4
        rcases h6 with h6 | h6 | h6 | h6 | h6 | h6
        · as_aux_lemma =>
            have EQE : appendE d [1] = 18 := by unfold appendE; rw [if_pos HA1.out]
            have EQD : appendS d [1] = d := by unfold appendS; rw [if_pos (.inl HA1.out)]
            have HL1 : Hid (Has (wr.alloc (.cells #[.int .u8 1] 5)) (wr.alloc (.cells #[.int .u8 1] 5)).heap.size (some ⟨wr.heap.size, 0, none⟩) (bs [1])) := has_new wr #[.int .u8 1] [1] rfl
            have HDa : Hid (Dk (wr.alloc (.cells #[.int .u8 1] 5)) w.heap.size g d) := HD.out.below (World.grownBy_alloc wr _ none)
            have CT : Hid (Calls Try.prog 13 #[.pointer (some ⟨g, 0, none⟩), .slice (some ⟨wr.heap.size, 0, none⟩) 1 1] (wr.alloc (.cells #[.int .u8 1] 5)) fun e w' => e = .returned (.int .i64 (18)) ∧ Dk w' w.heap.size g (d) ∧ Below w.heap.size w w') := by
              have h := append_any w.heap.size g d (some ⟨wr.heap.size, 0, none⟩) 1 [1] _ HDa.out HK.out HL1.out (by decide)
              rw [EQE, EQD] at h
              exact h.mono fun _ _ ⟨h1, h2, h3⟩ => ⟨h1, h2, (hB.trans (bel (World.grownBy_alloc wr (.cells #[.int .u8 1] 5) none) (fun _ h => by cases h) hzr)).trans h3⟩
            clear HL1 HDa
            clear EQE EQD
            have hW := hWm _ h6
            clear hWm h6
            go_wp2_with fail
            refine (DD _ HD.out).out.mono ?_
            rintro _ w5 ⟨rfl, rfl⟩
            go_wp2_with fail
            refine (hW _).out.mono ?_
            rintro _ w5 ⟨rfl, rfl⟩

            go_wp2_with fail
            refine CT.out.mono ?_
            rintro _ w6 ⟨rfl, D6, b6⟩
            go_wp2_with fail
            go_roundw
            case rel => exact ⟨o, i + 1, d, by omega, rfl, by go_num, D6, HW, b6⟩
            case measure => simp [intOf]; omega
        · as_aux_lemma =>
            have EQE : syncE d = 18 := by unfold syncE; rw [if_pos HA1.out]
            have EQD : syncS d = d := by unfold syncS; rw [if_pos HA1.out]
            have CT : Hid (Calls Try.prog 15 #[.pointer (some ⟨g, 0, none⟩)] wr fun e w' => e = .returned (.int .i64 (18)) ∧ Dk w' w.heap.size g (d) ∧ Below w.heap.size w w') := by
              have h := sync_any w.heap.size g d wr HD.out HK.out
              rw [EQE, EQD] at h
              exact h.mono fun _ _ ⟨h1, h2, h3⟩ => ⟨h1, h2, hB.trans (bel h3 (fun k hk => by cases hk; exact hgB.1) hzr)⟩
            clear EQE EQD
            have hW := hWm _ h6
            clear hWm h6
            go_wp2_with fail
            refine (DD _ HD.out).out.mono ?_
            rintro _ w5 ⟨rfl, rfl⟩
            go_wp2_with fail
            refine (hW _).out.mono ?_
            rintro _ w5 ⟨rfl, rfl⟩

            go_wp2_with fail
            refine CT.out.mono ?_
            rintro _ w6 ⟨rfl, D6, b6⟩
            go_wp2_with fail
            go_roundw
            case rel => exact ⟨o, i + 1, d, by omega, rfl, by go_num, D6, HW, b6⟩
            case measure => simp [intOf]; omega
        · as_aux_lemma =>
            have EQE : swapE d [2, 3] = 18 := by unfold swapE; rw [if_pos HA1.out]
            have EQD : swapS d [2, 3] = d := by unfold swapS; rw [if_pos (.inl HA1.out)]
            have HDa : Hid (Dk (wr.alloc (.cells #[.int .u8 2, .int .u8 3] 5)) w.heap.size g d) := HD.out.below (World.grownBy_alloc wr _ none)
            have CT : Hid (Calls Try.prog 21 #[.pointer (some ⟨g, 0, none⟩), .slice (some ⟨wr.heap.size, 0, none⟩) 2 2] (wr.alloc (.cells #[.int .u8 2, .int .u8 3] 5)) fun e w' => e = .returned (.int .i64 (18)) ∧ Dk w' w.heap.size g (d) ∧ Below w.heap.size w w') := by
              have hgr := HD.out.lt
              have hl1 : Has (wr.alloc (.cells #[.int .u8 2, .int .u8 3] 5)) (wr.alloc (.cells #[.int .u8 2, .int .u8 3] 5)).heap.size (some ⟨wr.heap.size, 0, none⟩) (bs [2, 3]) := has_new wr #[.int .u8 2, .int .u8 3] [2, 3] rfl
              have h := swap_any w.heap.size g d (some ⟨wr.heap.size, 0, none⟩) 2 [2, 3] _ HDa.out HK.out (fun W hW => has_apart hl1 hW (fun o e => by injection e with e; injection e with e; omega)) (by decide)
              rw [EQE, EQD] at h
              exact h.mono fun _ _ ⟨h1, h2, h3⟩ => ⟨h1, h2, (hB.trans (bel (World.grownBy_alloc wr (.cells #[.int .u8 2, .int .u8 3] 5) none) (fun _ h => by cases h) hzr)).trans (bel h3 (fun k hk => by cases hk; exact hgB.1) (by simp; omega))⟩
            clear HDa
            clear EQE EQD
            have hW := hWm _ h6
            clear hWm h6
            go_wp2_with fail
            refine (DD _ HD.out).out.mono ?_
            rintro _ w5 ⟨rfl, rfl⟩
            go_wp2_with fail
            refine (hW _).out.mono ?_
            rintro _ w5 ⟨rfl, rfl⟩

            go_wp2_with fail
            refine CT.out.mono ?_
            rintro _ w6 ⟨rfl, D6, b6⟩
            go_wp2_with fail
            go_roundw
            case rel => exact ⟨o, i + 1, d, by omega, rfl, by go_num, D6, HW, b6⟩
            case measure => simp [intOf]; omega
        · as_aux_lemma =>
            have EQE : cutE d 0 = 18 := by unfold cutE; rw [if_pos HA1.out]
            have EQD : cutS d 0 = d := by unfold cutS; rw [if_pos (.inl HA1.out)]
            have CT : Hid (Calls Try.prog 23 #[.pointer (some ⟨g, 0, none⟩), .int .i64 0] wr fun e w' => e = .returned (.int .i64 (18)) ∧ Dk w' w.heap.size g (d) ∧ Below w.heap.size w w') := by
              have h := cut_any w.heap.size g d 0 wr HD.out HK.out
              rw [EQE, EQD] at h
              exact h.mono fun _ _ ⟨h1, h2, h3⟩ => ⟨h1, h2, hB.trans (bel h3 (fun k hk => by cases hk; exact hgB.1) hzr)⟩
            clear EQE EQD
            have hW := hWm _ h6
            clear hWm h6
            go_wp2_with fail
            refine (DD _ HD.out).out.mono ?_
            rintro _ w5 ⟨rfl, rfl⟩
            go_wp2_with fail
            refine (hW _).out.mono ?_
            rintro _ w5 ⟨rfl, rfl⟩

            go_wp2_with fail
            refine CT.out.mono ?_
            rintro _ w6 ⟨rfl, D6, b6⟩
            go_wp2_with fail
            go_roundw
            case rel => exact ⟨o, i + 1, d, by omega, rfl, by go_num, D6, HW, b6⟩
            case measure => simp [intOf]; omega
        · as_aux_lemma =>
            have EQE : appendE d (List.replicate 70 0) = 18 := by unfold appendE; rw [if_pos HA1.out]
            have EQD : appendS d (List.replicate 70 0) = d := by unfold appendS; rw [if_pos (.inl HA1.out)]
            have hmk := run_make_row' (P := Try.prog) 31 5 (.int .u8 0) 1 Try.underlying31 Try.info_u8 rfl .i64 .i64 70 (by decide) (by decide) wr
            have hmk : (Instr.makeSlice 31 (.int .i64 70) (.int .i64 70)).run Try.prog wr = .ok (.slice (some ⟨wr.heap.size, 0, none⟩) 70 70) (wr.alloc (.cells (madeCells #[Value.int .u8 0] 70) 5)) := hmk
            obtain ⟨row, hrow⟩ : ∃ row, row = madeCells #[Value.int .u8 0] 70 := ⟨_, rfl⟩
            have hrl : Hid (row.toList = bs (List.replicate 70 0)) := by unfold Hid; rw [hrow]; exact made_list 70
            rw [← hrow] at hmk
            clear hrow
            have HDa : Hid (Dk (wr.alloc (.cells row 5)) w.heap.size g d) := HD.out.below (World.grownBy_alloc wr _ none)
            have CT : Hid (Calls Try.prog 13 #[.pointer (some ⟨g, 0, none⟩), .slice (some ⟨wr.heap.size, 0, none⟩) 70 70] (wr.alloc (.cells row 5)) fun e w' => e = .returned (.int .i64 (18)) ∧ Dk w' w.heap.size g (d) ∧ Below w.heap.size w w') := by
              have hln : (List.replicate 70 (0 : Int)).length = 70 := List.length_replicate
              have h := append_any w.heap.size g d (some ⟨wr.heap.size, 0, none⟩) 70 (List.replicate 70 0) _ HDa.out HK.out (has_new wr row _ hrl.out) (by rw [hln]; decide)
              rw [hln, EQE, EQD] at h
              exact h.mono fun _ _ ⟨h1, h2, h3⟩ => ⟨h1, h2, (hB.trans (bel (World.grownBy_alloc wr (.cells row 5) none) (fun _ h => by cases h) hzr)).trans h3⟩
            have hcl : ∀ i, (wr.alloc (.cells row 5)).cell? ⟨bb, off + i, none⟩ = wr.cell? ⟨bb, off + i, none⟩ := fun i => World.cell?_alloc_lt _ _ _ (by show bb < wr.heap.size; omega)
            clear HDa
            clear EQE EQD
            have hW := hWm _ h6
            clear hWm h6
            go_wp2_with fail
            refine (DD _ HD.out).out.mono ?_
            rintro _ w5 ⟨rfl, rfl⟩
            go_wp2_with fail
            refine (hW _).out.mono ?_
            rintro _ w5 ⟨rfl, rfl⟩
            go_wp2_with fail
            refine (hW _).out.mono ?_
            rintro _ w5 ⟨rfl, rfl⟩
            go_wp2_with fail
            refine CT.out.mono ?_
            rintro _ w6 ⟨rfl, D6, b6⟩
            go_wp2_with fail
            go_roundw
            case rel => exact ⟨o, i + 1, d, by omega, rfl, by go_num, D6, HW, b6⟩
            case measure => simp [intOf]; omega
        · as_aux_lemma =>
            have EQE : cutE d 99 = 18 := by unfold cutE; rw [if_pos HA1.out]
            have EQD : cutS d 99 = d := by unfold cutS; rw [if_pos (.inl HA1.out)]
            have CT : Hid (Calls Try.prog 23 #[.pointer (some ⟨g, 0, none⟩), .int .i64 99] wr fun e w' => e = .returned (.int .i64 (18)) ∧ Dk w' w.heap.size g (d) ∧ Below w.heap.size w w') := by
              have h := cut_any w.heap.size g d 99 wr HD.out HK.out
              rw [EQE, EQD] at h
              exact h.mono fun _ _ ⟨h1, h2, h3⟩ => ⟨h1, h2, hB.trans (bel h3 (fun k hk => by cases hk; exact hgB.1) hzr)⟩
            clear EQE EQD
            have hW := hWm _ h6
            clear hWm h6
            go_wp2_with fail
            refine (DD _ HD.out).out.mono ?_
            rintro _ w5 ⟨rfl, rfl⟩
            go_wp2_with fail
            refine (hW _).out.mono ?_
            rintro _ w5 ⟨rfl, rfl⟩
            go_wp2_with fail
            refine (hW _).out.mono ?_
            rintro _ w5 ⟨rfl, rfl⟩
            go_wp2_with fail
            refine CT.out.mono ?_
            rintro _ w6 ⟨rfl, D6, b6⟩
            go_wp2_with fail
            go_roundw
            case rel => exact ⟨o, i + 1, d, by omega, rfl, by go_num, D6, HW, b6⟩
            case measure => simp [intOf]; omega
    · have hK0 : crashK d 0 = 0 := by unfold crashK; exact Int.zero_emod _
      have CR := crash_any w.heap.size g d 0 wr HD.out HS.out.ok (by decide) (by decide)
      rw [hK0] at CR
      obtain ⟨d3, hd3⟩ : ∃ d3, d3 = crashS d 0 := ⟨_, rfl⟩
      rw [← hd3] at CR
      have CR := Lib.hid CR
      have hdd3 : d3.dd = false := by rw [hd3]; rfl
      have hst3 : d3.st = 0 := by rw [hd3]; rfl
      have hsn3 : d3.sn = 0 := by rw [hd3]; rfl
      have hok3 : Ok d3 := by
        have h1 := HS.out.rm; have h2 := HS.out.l; have h3 := HS.out.s; have h4 := HS.out.sy; have h5 := HS.out.i0; have h6 := HS.out.al
        rw [hd3]
        refine ⟨?_, by show d.S.length ≤ _; omega, ?_, by show 0 ≤ d.rm ∧ d.rm ≤ _; omega, Int.le_refl _, by show (0 : Int) ≤ 0 ∧ (0 : Int) ≤ _; omega, by show 0 ≤ d.op ∧ d.op ≤ _; omega⟩
        · show (d.L.take _).length ≤ _; rw [List.length_take]; omega
        · show 0 ≤ d.sy + crashK d 0 ∧ d.sy + crashK d 0 ≤ ((d.L.take (d.sy + crashK d 0).toNat).length : Int)
          rw [hK0, List.length_take]; omega
      have DD := fun W (H : Dk W w.heap.size g d3) => Lib.hid (dead_any w.heap.size g d3 W H)
      have SY := fun W (H : Dk W w.heap.size g d3) => sync_any w.heap.size g d3 W H hok3
      have hse : syncE d3 = 0 := by unfold syncE; rw [if_neg (by rw [hdd3]; decide), hst3, hsn3]; rfl
      rw [hdd3] at DD
      rw [hse] at SY
      have SY := fun W H => Lib.hid (SY W H)
      clear hd3 hdd3 hst3 hsn3 hok3 hse hK0 hal
      by_cases hlt1 : i < kinds.length
      · have t1 : (i : Int) < (kinds.length : Int) := by omega
        have t2 : ¬ (i : Int) < 30 := by omega
        go_wp2_with fail
        refine CR.out.mono ?_
        rintro _ w5 ⟨rfl, D5, g5⟩
        go_wp2_with fail
        refine (DD _ D5).out.mono ?_
        rintro _ w6 ⟨rfl, rfl⟩
        go_wp2_with fail
        refine (SY _ D5).out.mono ?_
        rintro _ w7 ⟨rfl, D7, g7⟩
        go_wp2_with fail
        go_ret
        exact ⟨rfl, (hB.trans (bel g5 (fun k hk => by cases hk; exact hgB.1) hzr)).trans (bel g7 (fun k hk => by cases hk; exact hgB.1) (by have := g5.size; omega))⟩
      · have t1 : ¬ (i : Int) < (kinds.length : Int) := by omega
        go_wp2_with fail
        refine CR.out.mono ?_
        rintro _ w5 ⟨rfl, D5, g5⟩
        go_wp2_with fail
        refine (DD _ D5).out.mono ?_
        rintro _ w6 ⟨rfl, rfl⟩
        go_wp2_with fail
        refine (SY _ D5).out.mono ?_
        rintro _ w7 ⟨rfl, D7, g7⟩
        go_wp2_with fail
        go_ret
        exact ⟨rfl, (hB.trans (bel g5 (fun k hk => by cases hk; exact hgB.1) hzr)).trans (bel g7 (fun k hk => by cases hk; exact hgB.1) (by have := g5.size; omega))⟩
end Go.Proofs.Ytmjfemnjkgfgfaa
