/- Contracts of the reference's Int, Text, Ints: they write the same bytes as package code. -/
import Derived.Test.YtcmpeohooiehcaaCc
import Derived.Test.YtcmpeohooiehcaaCk
namespace Go.Proofs.Ytcmpeohooiehcaa
open Go.RowKit

theorem grew_alloc {w w1 : World} {base e : Nat} {v v1 : Value} {xs : List Value} (h : Grew w w1 base e v v1 xs) (o : Obj) : Grew w (w1.alloc o) base e v v1 xs := ⟨h.own.alloc o, only_alloc h.only o, h.at_⟩
set_option maxRecDepth 100000 in
set_option maxHeartbeats 4000000 in
theorem refInt_any (base : Nat) (v : Value) (xs : List Value) (n : Int) (w : World) (hown : w.ownsRow base 5 1 v xs.length xs) (hb : base ≤ w.heap.size) (h1 : -9223372036854775808 ≤ n) (h2 : n ≤ 9223372036854775807) (hn : xs.length ≤ 35184372088832) :
    Calls Try.prog 34 #[v, .int .i64 n] w (Out2 w base v xs (bs (enc n))) := by
  have hzb := zig_bd n h1 h2
  obtain ⟨mm, hu0⟩ : ∃ mm : Nat, zig n = mm := ⟨(zig n).toNat, by omega⟩
  have hub : mm ≤ 18446744073709551615 := by omega
  have Hen : Hid (enc n = encU mm) := by unfold Hid; unfold enc; rw [hu0]; rfl
  obtain ⟨K, hK⟩ : ∃ K, (encU mm).length = K := ⟨_, rfl⟩
  have hK1 : 1 ≤ K := by have := (encU_len mm (by omega)).1; omega
  have hK2 : K ≤ 10 := by have := (encU_len mm (by omega)).2; omega
  have hmore : ∀ k : Nat, 1 ≤ k → (k < K ↔ mm / 128 ^ k ≠ 0) := fun k hk => by rw [← hK]; exact encU_more mm k hk
  have Hmore := Lib.hid hmore
  have HK := Lib.hid hK
  clear hmore hK hzb
  by_cases hneg : n < 0
  · have hu : bits .xor .u64 IntKind.u64.max (IntKind.u64.wrap (IntKind.u64.wrap n * 2)) = (mm : Int) := (not_val n h1 hneg).trans hu0
    clear hu0
    go_enter Try.func34, Try.ntmps34
    go_wp2
    clear hu
    go_loopw [6] (fun k wr => ∃ j : Nat, 1 ≤ j ∧ j ≤ K ∧ k = .int .i64 j ∧ w = wr) (fun k _ => 11 - (intOf k).toNat)
    case atStart => exact ⟨1, by omega, hK1, rfl, rfl⟩
    case round =>
      obtain ⟨j, hj1, hj2, rfl, rfl⟩ := hrel
      by_cases hj : j < K
      · have ht : (j : Int) < 10 := by omega
        have hs : ((mm : Int) / 2 ^ (7 * j) != 0) = true := by
          have := (Hmore.out j hj1).1 hj
          rw [div_7, bne_iff_ne]; omega
        go_wp2
        go_roundw
        case rel => exact ⟨j + 1, by omega, by omega, by go_num, by first | rfl | trivial⟩
        case measure => simp [intOf]; omega
      · have hjK : j = K := by omega
        subst hjK
        have hs : ((mm : Int) / 2 ^ (7 * j) != 0) = false := by
          have := mt (Hmore.out j hj1).2 hj
          simp only [ne_eq, Classical.not_not] at this
          rw [div_7, this]; rfl
        by_cases ht : (j : Int) < 10
        · go_wp2
          go_loopw [0, 7] (fun sv si wr => ∃ c : Nat, c ≤ j ∧ si = .int .i64 ((j : Int) - 1 - c) ∧ Grew w wr base 5 v sv (xs ++ bs ((encU mm).take c)) ∧ wr.ownsRow base 5 1 v xs.length xs)
            (fun _ si _ => (intOf si + 1).toNat)
          case atStart => exact ⟨0, by omega, by go_num, ⟨by simpa [bs] using hown, only_refl _ _, .inl rfl⟩, hown⟩
          case round =>
            obtain ⟨c, hc, rfl, hg, hk⟩ := hrel
            have hsz := hg.only.size
            by_cases hcj : c < j
            · obtain ⟨t, ht⟩ : ∃ t : Nat, t = j - 1 - c := ⟨_, rfl⟩
              have e : (j : Int) - 1 - c = (t : Int) := by omega
              rw [e]
              have h0 : 0 ≤ (t : Int) := by omega
              obtain ⟨d, hd⟩ : ∃ d : Nat, d = mm / 128 ^ t % 128 := ⟨_, rfl⟩
              have hdl : d < 128 := by omega
              have hm : bits .and .u8 ((mm : Int) / 2 ^ (7 * t) % 256) 127 = (d : Int) := by
                have := and_127 (mm / 128 ^ t)
                rw [div_7, hd, ← this]
                rfl
              have hor := or_128' d hdl
              have hx := encU_at mm t (by rw [HK.out]; omega)
              rw [HK.out, ← hd, show j - 1 - t = c by omega] at hx
              have htl : ∀ x : Int, (encU mm)[c]? = some x → (encU mm).take (c + 1) = (encU mm).take c ++ [x] := fun x hx => by
                rw [List.take_add_one, hx]; rfl
              have hyl : ((encU mm).take c).length = c := by rw [List.length_take, HK.out]; omega
              have hlen : (xs ++ bs ((encU mm).take c)).length = xs.length + c := by rw [List.length_append, bs_len, hyl]
              by_cases hpos : 0 < t
              · have hp : (0 : Int) < (t : Int) := by omega
                rw [if_pos hpos] at hx
                have Htl := Lib.hid (htl _ hx)
                clear htl hx hd ht
                go_wp2_with (at_builtin; go_loud (refine app_keep rfl _ _ 35 rfl base u0 (xs ++ bs ((encU mm).take c)) rfl (hg.own.alloc _) (.slice (some ⟨wr.heap.size, 0, none⟩) 1 1) [.int .u8 (128 + (d : Int))] rfl (src_one 35 5 Try.underlying35 _ _ rfl) (by rw [hlen]; simp only [List.length_singleton]; omega) (by simp; omega) ?_); intro v1 w1 g1 k1)
                go_roundw
                case rel =>
                  have h := grew_more (grew_alloc hg _) (hk.alloc _) g1 k1
                  rw [show bs ((encU mm).take c) ++ [Value.int .u8 (128 + (d : Int))] = bs ((encU mm).take (c + 1)) by rw [Htl.out, bs_append]; rfl] at h
                  exact ⟨c + 1, by omega, by go_num, h.1, h.2⟩
                case measure => simp [intOf]; first | done | omega
              · have hp : ¬ (0 : Int) < (t : Int) := by omega
                rw [if_neg hpos] at hx
                have Htl := Lib.hid (htl _ hx)
                clear htl hx hd ht
                go_wp2_with (at_builtin; go_loud (refine app_keep rfl _ _ 35 rfl base u0 (xs ++ bs ((encU mm).take c)) rfl (hg.own.alloc _) (.slice (some ⟨wr.heap.size, 0, none⟩) 1 1) [.int .u8 (d : Int)] rfl (src_one 35 5 Try.underlying35 _ _ rfl) (by rw [hlen]; simp only [List.length_singleton]; omega) (by simp; omega) ?_); intro v1 w1 g1 k1)
                go_roundw
                case rel =>
                  have h := grew_more (grew_alloc hg _) (hk.alloc _) g1 k1
                  rw [show bs ((encU mm).take c) ++ [Value.int .u8 (d : Int)] = bs ((encU mm).take (c + 1)) by rw [Htl.out, bs_append]; rfl] at h
                  exact ⟨c + 1, by omega, by go_num, h.1, h.2⟩
                case measure => simp [intOf]; first | done | omega
            · have e : (j : Int) - 1 - c = -1 := by omega
              rw [e]
              have hcK : (encU mm).take c = enc n := by rw [Hen.out, List.take_of_length_le (by rw [HK.out]; omega)]
              rw [hcK] at hg
              clear hcK
              go_wp2
              go_ret
              exact ⟨u0, rfl, hg, hk⟩
        · go_wp2
          go_loopw [0, 7] (fun sv si wr => ∃ c : Nat, c ≤ j ∧ si = .int .i64 ((j : Int) - 1 - c) ∧ Grew w wr base 5 v sv (xs ++ bs ((encU mm).take c)) ∧ wr.ownsRow base 5 1 v xs.length xs)
            (fun _ si _ => (intOf si + 1).toNat)
          case atStart => exact ⟨0, by omega, by go_num, ⟨by simpa [bs] using hown, only_refl _ _, .inl rfl⟩, hown⟩
          case round =>
            obtain ⟨c, hc, rfl, hg, hk⟩ := hrel
            have hsz := hg.only.size
            by_cases hcj : c < j
            · obtain ⟨t, ht⟩ : ∃ t : Nat, t = j - 1 - c := ⟨_, rfl⟩
              have e : (j : Int) - 1 - c = (t : Int) := by omega
              rw [e]
              have h0 : 0 ≤ (t : Int) := by omega
              obtain ⟨d, hd⟩ : ∃ d : Nat, d = mm / 128 ^ t % 128 := ⟨_, rfl⟩
              have hdl : d < 128 := by omega
              have hm : bits .and .u8 ((mm : Int) / 2 ^ (7 * t) % 256) 127 = (d : Int) := by
                have := and_127 (mm / 128 ^ t)
                rw [div_7, hd, ← this]
                rfl
              have hor := or_128' d hdl
              have hx := encU_at mm t (by rw [HK.out]; omega)
              rw [HK.out, ← hd, show j - 1 - t = c by omega] at hx
              have htl : ∀ x : Int, (encU mm)[c]? = some x → (encU mm).take (c + 1) = (encU mm).take c ++ [x] := fun x hx => by
                rw [List.take_add_one, hx]; rfl
              have hyl : ((encU mm).take c).length = c := by rw [List.length_take, HK.out]; omega
              have hlen : (xs ++ bs ((encU mm).take c)).length = xs.length + c := by rw [List.length_append, bs_len, hyl]
              by_cases hpos : 0 < t
              · have hp : (0 : Int) < (t : Int) := by omega
                rw [if_pos hpos] at hx
                have Htl := Lib.hid (htl _ hx)
                clear htl hx hd ht
                go_wp2_with (at_builtin; go_loud (refine app_keep rfl _ _ 35 rfl base u0 (xs ++ bs ((encU mm).take c)) rfl (hg.own.alloc _) (.slice (some ⟨wr.heap.size, 0, none⟩) 1 1) [.int .u8 (128 + (d : Int))] rfl (src_one 35 5 Try.underlying35 _ _ rfl) (by rw [hlen]; simp only [List.length_singleton]; omega) (by simp; omega) ?_); intro v1 w1 g1 k1)
                go_roundw
                case rel =>
                  have h := grew_more (grew_alloc hg _) (hk.alloc _) g1 k1
                  rw [show bs ((encU mm).take c) ++ [Value.int .u8 (128 + (d : Int))] = bs ((encU mm).take (c + 1)) by rw [Htl.out, bs_append]; rfl] at h
                  exact ⟨c + 1, by omega, by go_num, h.1, h.2⟩
                case measure => simp [intOf]; first | done | omega
              · have hp : ¬ (0 : Int) < (t : Int) := by omega
                rw [if_neg hpos] at hx
                have Htl := Lib.hid (htl _ hx)
                clear htl hx hd ht
                go_wp2_with (at_builtin; go_loud (refine app_keep rfl _ _ 35 rfl base u0 (xs ++ bs ((encU mm).take c)) rfl (hg.own.alloc _) (.slice (some ⟨wr.heap.size, 0, none⟩) 1 1) [.int .u8 (d : Int)] rfl (src_one 35 5 Try.underlying35 _ _ rfl) (by rw [hlen]; simp only [List.length_singleton]; omega) (by simp; omega) ?_); intro v1 w1 g1 k1)
                go_roundw
                case rel =>
                  have h := grew_more (grew_alloc hg _) (hk.alloc _) g1 k1
                  rw [show bs ((encU mm).take c) ++ [Value.int .u8 (d : Int)] = bs ((encU mm).take (c + 1)) by rw [Htl.out, bs_append]; rfl] at h
                  exact ⟨c + 1, by omega, by go_num, h.1, h.2⟩
                case measure => simp [intOf]; first | done | omega
            · have e : (j : Int) - 1 - c = -1 := by omega
              rw [e]
              have hcK : (encU mm).take c = enc n := by rw [Hen.out, List.take_of_length_le (by rw [HK.out]; omega)]
              rw [hcK] at hg
              clear hcK
              go_wp2
              go_ret
              exact ⟨u0, rfl, hg, hk⟩
  · have hu : n * 2 = (mm : Int) := by rw [← hu0]; unfold zig; rw [if_pos (by omega)]; omega
    clear hu0
    go_enter Try.func34, Try.ntmps34
    go_wp2
    clear hu
    go_loopw [6] (fun k wr => ∃ j : Nat, 1 ≤ j ∧ j ≤ K ∧ k = .int .i64 j ∧ w = wr) (fun k _ => 11 - (intOf k).toNat)
    case atStart => exact ⟨1, by omega, hK1, rfl, rfl⟩
    case round =>
      obtain ⟨j, hj1, hj2, rfl, rfl⟩ := hrel
      by_cases hj : j < K
      · have ht : (j : Int) < 10 := by omega
        have hs : ((mm : Int) / 2 ^ (7 * j) != 0) = true := by
          have := (Hmore.out j hj1).1 hj
          rw [div_7, bne_iff_ne]; omega
        go_wp2
        go_roundw
        case rel => exact ⟨j + 1, by omega, by omega, by go_num, by first | rfl | trivial⟩
        case measure => simp [intOf]; omega
      · have hjK : j = K := by omega
        subst hjK
        have hs : ((mm : Int) / 2 ^ (7 * j) != 0) = false := by
          have := mt (Hmore.out j hj1).2 hj
          simp only [ne_eq, Classical.not_not] at this
          rw [div_7, this]; rfl
        by_cases ht : (j : Int) < 10
        · go_wp2
          go_loopw [0, 7] (fun sv si wr => ∃ c : Nat, c ≤ j ∧ si = .int .i64 ((j : Int) - 1 - c) ∧ Grew w wr base 5 v sv (xs ++ bs ((encU mm).take c)) ∧ wr.ownsRow base 5 1 v xs.length xs)
            (fun _ si _ => (intOf si + 1).toNat)
          case atStart => exact ⟨0, by omega, by go_num, ⟨by simpa [bs] using hown, only_refl _ _, .inl rfl⟩, hown⟩
          case round =>
            obtain ⟨c, hc, rfl, hg, hk⟩ := hrel
            have hsz := hg.only.size
            by_cases hcj : c < j
            · obtain ⟨t, ht⟩ : ∃ t : Nat, t = j - 1 - c := ⟨_, rfl⟩
              have e : (j : Int) - 1 - c = (t : Int) := by omega
              rw [e]
              have h0 : 0 ≤ (t : Int) := by omega
              obtain ⟨d, hd⟩ : ∃ d : Nat, d = mm / 128 ^ t % 128 := ⟨_, rfl⟩
              have hdl : d < 128 := by omega
              have hm : bits .and .u8 ((mm : Int) / 2 ^ (7 * t) % 256) 127 = (d : Int) := by
                have := and_127 (mm / 128 ^ t)
                rw [div_7, hd, ← this]
                rfl
              have hor := or_128' d hdl
              have hx := encU_at mm t (by rw [HK.out]; omega)
              rw [HK.out, ← hd, show j - 1 - t = c by omega] at hx
              have htl : ∀ x : Int, (encU mm)[c]? = some x → (encU mm).take (c + 1) = (encU mm).take c ++ [x] := fun x hx => by
                rw [List.take_add_one, hx]; rfl
              have hyl : ((encU mm).take c).length = c := by rw [List.length_take, HK.out]; omega
              have hlen : (xs ++ bs ((encU mm).take c)).length = xs.length + c := by rw [List.length_append, bs_len, hyl]
              by_cases hpos : 0 < t
              · have hp : (0 : Int) < (t : Int) := by omega
                rw [if_pos hpos] at hx
                have Htl := Lib.hid (htl _ hx)
                clear htl hx hd ht
                go_wp2_with (at_builtin; go_loud (refine app_keep rfl _ _ 35 rfl base u0 (xs ++ bs ((encU mm).take c)) rfl (hg.own.alloc _) (.slice (some ⟨wr.heap.size, 0, none⟩) 1 1) [.int .u8 (128 + (d : Int))] rfl (src_one 35 5 Try.underlying35 _ _ rfl) (by rw [hlen]; simp only [List.length_singleton]; omega) (by simp; omega) ?_); intro v1 w1 g1 k1)
                go_roundw
                case rel =>
                  have h := grew_more (grew_alloc hg _) (hk.alloc _) g1 k1
                  rw [show bs ((encU mm).take c) ++ [Value.int .u8 (128 + (d : Int))] = bs ((encU mm).take (c + 1)) by rw [Htl.out, bs_append]; rfl] at h
                  exact ⟨c + 1, by omega, by go_num, h.1, h.2⟩
                case measure => simp [intOf]; first | done | omega
              · have hp : ¬ (0 : Int) < (t : Int) := by omega
                rw [if_neg hpos] at hx
                have Htl := Lib.hid (htl _ hx)
                clear htl hx hd ht
                go_wp2_with (at_builtin; go_loud (refine app_keep rfl _ _ 35 rfl base u0 (xs ++ bs ((encU mm).take c)) rfl (hg.own.alloc _) (.slice (some ⟨wr.heap.size, 0, none⟩) 1 1) [.int .u8 (d : Int)] rfl (src_one 35 5 Try.underlying35 _ _ rfl) (by rw [hlen]; simp only [List.length_singleton]; omega) (by simp; omega) ?_); intro v1 w1 g1 k1)
                go_roundw
                case rel =>
                  have h := grew_more (grew_alloc hg _) (hk.alloc _) g1 k1
                  rw [show bs ((encU mm).take c) ++ [Value.int .u8 (d : Int)] = bs ((encU mm).take (c + 1)) by rw [Htl.out, bs_append]; rfl] at h
                  exact ⟨c + 1, by omega, by go_num, h.1, h.2⟩
                case measure => simp [intOf]; first | done | omega
            · have e : (j : Int) - 1 - c = -1 := by omega
              rw [e]
              have hcK : (encU mm).take c = enc n := by rw [Hen.out, List.take_of_length_le (by rw [HK.out]; omega)]
              rw [hcK] at hg
              clear hcK
              go_wp2
              go_ret
              exact ⟨u0, rfl, hg, hk⟩
        · go_wp2
          go_loopw [0, 7] (fun sv si wr => ∃ c : Nat, c ≤ j ∧ si = .int .i64 ((j : Int) - 1 - c) ∧ Grew w wr base 5 v sv (xs ++ bs ((encU mm).take c)) ∧ wr.ownsRow base 5 1 v xs.length xs)
            (fun _ si _ => (intOf si + 1).toNat)
          case atStart => exact ⟨0, by omega, by go_num, ⟨by simpa [bs] using hown, only_refl _ _, .inl rfl⟩, hown⟩
          case round =>
            obtain ⟨c, hc, rfl, hg, hk⟩ := hrel
            have hsz := hg.only.size
            by_cases hcj : c < j
            · obtain ⟨t, ht⟩ : ∃ t : Nat, t = j - 1 - c := ⟨_, rfl⟩
              have e : (j : Int) - 1 - c = (t : Int) := by omega
              rw [e]
              have h0 : 0 ≤ (t : Int) := by omega
              obtain ⟨d, hd⟩ : ∃ d : Nat, d = mm / 128 ^ t % 128 := ⟨_, rfl⟩
              have hdl : d < 128 := by omega
              have hm : bits .and .u8 ((mm : Int) / 2 ^ (7 * t) % 256) 127 = (d : Int) := by
                have := and_127 (mm / 128 ^ t)
                rw [div_7, hd, ← this]
                rfl
              have hor := or_128' d hdl
              have hx := encU_at mm t (by rw [HK.out]; omega)
              rw [HK.out, ← hd, show j - 1 - t = c by omega] at hx
              have htl : ∀ x : Int, (encU mm)[c]? = some x → (encU mm).take (c + 1) = (encU mm).take c ++ [x] := fun x hx => by
                rw [List.take_add_one, hx]; rfl
              have hyl : ((encU mm).take c).length = c := by rw [List.length_take, HK.out]; omega
              have hlen : (xs ++ bs ((encU mm).take c)).length = xs.length + c := by rw [List.length_append, bs_len, hyl]
              by_cases hpos : 0 < t
              · have hp : (0 : Int) < (t : Int) := by omega
                rw [if_pos hpos] at hx
                have Htl := Lib.hid (htl _ hx)
                clear htl hx hd ht
                go_wp2_with (at_builtin; go_loud (refine app_keep rfl _ _ 35 rfl base u0 (xs ++ bs ((encU mm).take c)) rfl (hg.own.alloc _) (.slice (some ⟨wr.heap.size, 0, none⟩) 1 1) [.int .u8 (128 + (d : Int))] rfl (src_one 35 5 Try.underlying35 _ _ rfl) (by rw [hlen]; simp only [List.length_singleton]; omega) (by simp; omega) ?_); intro v1 w1 g1 k1)
                go_roundw
                case rel =>
                  have h := grew_more (grew_alloc hg _) (hk.alloc _) g1 k1
                  rw [show bs ((encU mm).take c) ++ [Value.int .u8 (128 + (d : Int))] = bs ((encU mm).take (c + 1)) by rw [Htl.out, bs_append]; rfl] at h
                  exact ⟨c + 1, by omega, by go_num, h.1, h.2⟩
                case measure => simp [intOf]; first | done | omega
              · have hp : ¬ (0 : Int) < (t : Int) := by omega
                rw [if_neg hpos] at hx
                have Htl := Lib.hid (htl _ hx)
                clear htl hx hd ht
                go_wp2_with (at_builtin; go_loud (refine app_keep rfl _ _ 35 rfl base u0 (xs ++ bs ((encU mm).take c)) rfl (hg.own.alloc _) (.slice (some ⟨wr.heap.size, 0, none⟩) 1 1) [.int .u8 (d : Int)] rfl (src_one 35 5 Try.underlying35 _ _ rfl) (by rw [hlen]; simp only [List.length_singleton]; omega) (by simp; omega) ?_); intro v1 w1 g1 k1)
                go_roundw
                case rel =>
                  have h := grew_more (grew_alloc hg _) (hk.alloc _) g1 k1
                  rw [show bs ((encU mm).take c) ++ [Value.int .u8 (d : Int)] = bs ((encU mm).take (c + 1)) by rw [Htl.out, bs_append]; rfl] at h
                  exact ⟨c + 1, by omega, by go_num, h.1, h.2⟩
                case measure => simp [intOf]; first | done | omega
            · have e : (j : Int) - 1 - c = -1 := by omega
              rw [e]
              have hcK : (encU mm).take c = enc n := by rw [Hen.out, List.take_of_length_le (by rw [HK.out]; omega)]
              rw [hcK] at hg
              clear hcK
              go_wp2
              go_ret
              exact ⟨u0, rfl, hg, hk⟩
end Go.Proofs.Ytcmpeohooiehcaa
