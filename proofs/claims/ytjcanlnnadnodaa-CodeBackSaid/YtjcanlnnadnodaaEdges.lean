/- The walk of CodeEdges: it returns true for every pair of numbers. No condition. -/
import Derived.Test.YtjcanlnnadnodaaFails
import Derived.Deep.RegionHeld3
import Derived.Deep.DrawnRows
namespace Go.Proofs.Ytjcanlnnadnodaa
open Go.RowKit Go.ChangeShapes
attribute [local go_sem ↓] Go.wp_at_zero Go.wp_at_succ

theorem hib_last (u : Nat) (h : 0 < u) : ∃ p d, (hib u).reverse = (128 + d) :: p ∧ 0 < d ∧ d < 128 := by
  induction u using Nat.strongRecOn with
  | _ u ih =>
    rw [hib_pos u h]
    by_cases h0 : u / 128 = 0
    · exact ⟨[], ((u % 128 : Nat) : Int), by rw [h0, hib_zero]; simp, by omega, by omega⟩
    · obtain ⟨p, d, hp, hd⟩ := ih (u / 128) (by omega) (by omega)
      exact ⟨p ++ [128 + ((u % 128 : Nat) : Int)], d, by rw [List.reverse_cons, hp]; rfl, hd⟩
/-- The first of several bytes is not 128. -/
theorem enc_first (n : Int) (h : 1 < (enc n).length) : ∃ x, (enc n)[0]? = some x ∧ ¬ x = 128 := by
  unfold enc encU at h ⊢
  by_cases h0 : (zig n).toNat / 128 = 0
  · rw [h0, hib_zero] at h; simp at h
  · obtain ⟨p, d, hp, hd1, hd2⟩ := hib_last _ (Nat.pos_of_ne_zero h0)
    rw [hp]
    exact ⟨128 + d, rfl, by omega⟩
/-- The last byte, and it alone, is less than 128. -/
theorem enc_bytes (n : Int) (j : Nat) (h : j < (enc n).length) : ∃ x : Nat, (enc n)[j]? = some (x : Int) ∧ x ≤ 255 ∧ (128 ≤ x ↔ j + 1 < (enc n).length) := by
  have hb := enc_byte n
  unfold enc encU at h hb ⊢
  generalize (zig n).toNat = u at *
  simp only [List.length_append, List.length_singleton] at h ⊢
  by_cases hj : j < (hib (u / 128)).reverse.length
  · have hx : ((hib (u / 128)).reverse ++ [((u % 128 : Nat) : Int)])[j]? = some ((hib (u / 128)).reverse[j]) := by
      rw [List.getElem?_append_left hj, List.getElem?_eq_getElem hj]
    have hm : (hib (u / 128)).reverse[j] ∈ hib (u / 128) := List.mem_reverse.1 (List.getElem_mem hj)
    have h2 := hib_byte _ _ hm
    refine ⟨((hib (u / 128)).reverse[j]).toNat, by rw [hx]; congr 1; omega, by omega, ⟨fun _ => by omega, fun _ => by omega⟩⟩
  · have hjl : j = (hib (u / 128)).reverse.length := by omega
    refine ⟨u % 128, by rw [hjl, List.getElem?_concat_length], by omega, ⟨fun h => by omega, fun h => by omega⟩⟩
theorem encs_drop (L : List Int) (i : Nat) (h : i < L.length) : encs (L.drop i) = enc L[i] ++ encs (L.drop (i + 1)) := by
  rw [List.drop_eq_getElem_cons h]
  rfl
theorem encs_bytes (L : List Int) : bytesOk (encs L) := fun x hx => by
  obtain ⟨n, _, hn⟩ := List.mem_flatMap.1 hx
  exact enc_byte n x hn

/-- The four numbers, in memory. -/
def Four (w : World) (B : Nat) (L : List Int) : Prop := ∀ i x, L[i]? = some x → w.cell? ⟨B, i, none⟩ = some (.int .i64 x)
theorem Four.only {w w' : World} {B : Nat} {L : List Int} {r : Option Nat} (h : Four w B L) (hg : w.grownBy w' r) (hb : B < w.heap.size) (hr : r ≠ some B) : Four w' B L := fun i x hx =>
  (World.cell?_of_block (hg.block B hb (fun e => hr e.symm))).trans (h i x hx)

set_option maxHeartbeats 2000000 in
theorem codeEdges_walk (k m : Int) (k1 : -9223372036854775808 ≤ k) (k2 : k ≤ 9223372036854775807) (m1 : -9223372036854775808 ≤ m) (m2 : m ≤ 9223372036854775807) (w : World) :
    Calls Try.prog 8 #[.int .i64 k, .int .i64 m] w fun e w' => e = .returned (.bool true) ∧ w.grownBy w' none := by
  obtain ⟨j, hj⟩ : ∃ j : Nat, k % 63 = j := ⟨(k % 63).toNat, by omega⟩
  have hj2 : j < 63 := by omega
  have HJ := Lib.hid hj
  obtain ⟨y, hy⟩ : ∃ y : Int, m % 5 = y := ⟨_, rfl⟩
  have hy1 : 0 ≤ y := by omega
  have hy2 : y ≤ 4 := by omega
  have HY := Lib.hid hy
  obtain ⟨q, ep, q1, q2⟩ : ∃ q : Int, wrap64 ((2 : Int) ^ j) = q ∧ 0 ≤ q ∧ q ≤ 4611686018427387904 :=
    ⟨((2 ^ j : Nat) : Int), by
      have h := (nb_pow j hj2).2.2
      have e : ((2 : Int) ^ j) = ((2 ^ j : Nat) : Int) := by rw [Int.natCast_pow]; rfl
      rw [e]
      have h0 : (0 : Int) ≤ ((2 ^ j : Nat) : Int) := Int.natCast_nonneg _
      exact IntWalk.wrap64_in _ ⟨by omega, by omega⟩, Int.natCast_nonneg _, by have h := (nb_pow j hj2).2.2; omega⟩
  clear hj hy
  go_enter Try.func8, Try.ntmps8
  go_wp2_with fail
  refine (known_any _).mono ?_
  rintro e w1 ⟨rfl, g1⟩
  go_wp2_with fail
  refine (within_any k 63 k1 k2 (by omega) (by omega) _).mono ?_
  rintro e w2 ⟨rfl, rfl⟩
  rw [HJ.out]
  go_wp2_with fail
  refine (within_any m 5 m1 m2 (by omega) (by omega) _).mono ?_
  rintro e w2 ⟨rfl, rfl⟩
  rw [HY.out]
  go_wp2_with fail
  clear ep
  have hg0 : w.grownBy (w1.alloc (.cells #[.int .i64 (q + (y - 2)), .int .i64 (-q + (y - 2)), .int .i64 9223372036854775807, .int .i64 (-9223372036854775808)] 3)) none := only_alloc g1 _
  obtain ⟨L, hL4, hLb, hF⟩ : ∃ L : List Int, L.length = 4 ∧ (∀ n ∈ L, -9223372036854775808 ≤ n ∧ n ≤ 9223372036854775807) ∧ Hid (Four (w1.alloc (.cells #[.int .i64 (q + (y - 2)), .int .i64 (-q + (y - 2)), .int .i64 9223372036854775807, .int .i64 (-9223372036854775808)] 3)) w1.heap.size L) :=
    ⟨[q + (y - 2), -q + (y - 2), 9223372036854775807, -9223372036854775808], rfl, by
      intro n hn
      simp only [List.mem_cons, List.not_mem_nil, or_false] at hn
      omega, by
      intro i x hx
      rw [cell_of_row _ _ i _ _ _ (heap_alloc_new w1 _)]
      match i, hx with
      | 0, hx => simp at hx; subst hx; rfl
      | 1, hx => simp at hx; subst hx; rfl
      | 2, hx => simp at hx; subst hx; rfl
      | 3, hx => simp at hx; subst hx; rfl⟩
  have hB : w1.heap.size < (w1.alloc (.cells #[.int .i64 (q + (y - 2)), .int .i64 (-q + (y - 2)), .int .i64 9223372036854775807, .int .i64 (-9223372036854775808)] 3)).heap.size := by simp
  generalize (w1.alloc (.cells #[.int .i64 (q + (y - 2)), .int .i64 (-q + (y - 2)), .int .i64 9223372036854775807, .int .i64 (-9223372036854775808)] 3)) = W at *
  have HLB := Lib.hid hLb
  clear hLb
  have hE0 : Hid (encs (L.take 0) = []) := rfl
  go_loopw [6, 7] (fun sb si wr => ∃ i : Nat, i ≤ 4 ∧ si = .int .i64 i ∧ wr.ownsRow W.heap.size 5 1 sb (bs (encs (L.take i))).length (bs (encs (L.take i))) ∧ Hid (Four wr w1.heap.size L) ∧ W.grownBy wr none)
    (fun _ si _ => 4 - (intOf si).toNat)
  case atStart => exact ⟨0, by omega, rfl, by rw [hE0.out]; exact World.ownsRow_nil _ _ _ _, hF, only_refl _ _⟩
  case round =>
    obtain ⟨i, hi, rfl, ho, hF2, hG⟩ := hrel
    have hsz := hG.size
    by_cases hlt : i < 4
    · obtain ⟨x, hx⟩ : ∃ x, L[i]? = some x := ⟨_, List.getElem?_eq_getElem (by omega)⟩
      have hxb := HLB.out x (List.mem_of_getElem? hx)
      have hcx := hF2.out i x hx
      have hel := enc_len x hxb.1 hxb.2
      have hfirst := fun (h : 1 < (enc x).length) => Lib.hid (enc_first x h)
      have hbyte := fun (t : Nat) (h : t < (enc x).length) => Lib.hid (enc_bytes x t h)
      have hsn : Hid (encs (L.take (i + 1)) = encs (L.take i) ++ enc x) := by
        have h := encs_snoc L i (by omega)
        have hxi : L[i] = x := by rw [List.getElem?_eq_getElem (by omega)] at hx; injection hx
        rw [hxi] at h; exact h
      have hlen : (encs (L.take i)).length ≤ 10 * i := by
        have h := encs_len (L.take i) (fun n hn => HLB.out n (List.mem_of_mem_take hn))
        have : (L.take i).length ≤ i := List.length_take_le _ _
        omega
      clear hx
      go_wp2_with fail
      refine (int_any none 0 [] x _ Has.nil (by simp) (by simp) hxb.1 hxb.2).mono ?_
      rintro e w3 ⟨v3, rfl, g3⟩
      obtain ⟨gx, cx, rfl, _⟩ := own_form g3.own (by simp [bs_len]; omega)
      have ho3 := ho.kept (g3.none rfl) (by cases Value.ownBlock _ <;> simp)
      have hF3 : Hid (Four w3 w1.heap.size L) := hF2.out.only (g3.none rfl) (by omega) (by simp)
      have hG3 : W.grownBy w3 none := only_step hG (g3.none rfl) (fun _ h => by cases h)
      have hcell : ∀ t b, (enc x)[t]? = some b → w3.cell? ⟨gx, t, none⟩ = some (.int .u8 b) := fun t b hb => by
        have hl : t < (enc x).length := (List.getElem?_eq_some_iff.1 hb).1
        have := g3.own.cellAt t (by simp [bs_len]; exact hl)
        rw [this]; simp [bs, hb]
      have hsrc : Hid (Src Try.prog 1 22 (.slice (some ⟨gx, 0, none⟩) (enc x).length cx) (bs (enc x)).length (bs (enc x)) w3) := by
        have h := Has.own g3.own
        rw [List.nil_append] at h
        have := h.src (P := Try.prog) (tx := 22) Try.underlying22 cx (bs_one _)
        rw [bs_len] at this
        rw [bs_len]
        exact this
      have hs3 := g3.only.size
      rw [List.nil_append, bs_len]
      have HC := fun t b h => Lib.hid (hcell t b h)
      clear g3 hcell ho hF2
      by_cases h1 : 1 < (enc x).length
      · obtain ⟨f0, hf0, hne0⟩ := (hfirst h1).out
        have c0 := (HC 0 f0 hf0).out
        have hq0 : (f0 == 128) = false := by rw [beq_eq_false_iff_ne]; exact hne0
        have h1' : (1 : Int) < ((enc x).length : Int) := by omega
        clear hf0 hne0
        go_wp2_with fail
        obtain ⟨wo, hwo⟩ : ∃ wo : World, wo = w3 := ⟨_, rfl⟩
        subst hwo
        go_loop [9] (fun sj => ∃ t : Nat, t ≤ (enc x).length ∧ sj = .int .i64 t) (fun sj => (enc x).length - (intOf sj).toNat)
        case atStart => exact ⟨0, Nat.zero_le _, rfl⟩
        case round =>
          obtain ⟨t, ht, rfl⟩ := hrel
          by_cases hlt2 : t < (enc x).length
          · obtain ⟨b, hb, hb2, hb3⟩ := (hbyte t hlt2).out
            have hcb := (HC t b hb).out
            have HB := Lib.hid hb
            have hiff := Lib.hid hb3
            clear hb hb3
            by_cases hl3 : t + 1 < (enc x).length
            · have h128 : (128 : Int) ≤ (b : Int) := by have := hiff.out.2 hl3; omega
              have hl4 : (t : Int) < ((enc x).length : Int) - 1 := by omega
              go_wp2_with fail
              go_round
              case rel => exact ⟨t + 1, by omega, by go_num⟩
              case measure => simp [intOf]; omega
            · have h128 : ¬ (128 : Int) ≤ (b : Int) := by
                intro h
                exact hl3 (hiff.out.1 (by omega))
              have hl4 : ¬ (t : Int) < ((enc x).length : Int) - 1 := by omega
              go_wp2_with fail
              go_round
              case rel => exact ⟨t + 1, by omega, by go_num⟩
              case measure => simp [intOf]; omega
          · have htl : t = (enc x).length := by omega
            subst htl
            go_wp2_with (at_builtin; go_loud (refine app_bytes rfl _ _ 22 rfl W.heap.size _ (bs (encs (L.take i))) rfl ho3 (.slice (some ⟨gx, 0, none⟩) (enc x).length cx) (bs (enc x)) rfl hsrc.out (by rw [bs_len, bs_len]; omega) (by omega) ?_); intro v4 w4 g4)
            go_roundw
            case rel =>
              refine ⟨i + 1, by omega, by go_num, ?_, hF3.out.only g4.only (by omega) (fun e => ?_), only_step hG3 g4.only (fun k hk => .inr (ho3.lt k hk).1)⟩
              · have := g4.own
                rw [← bs_append, ← hsn.out] at this
                exact this
              · have := (ho3.lt _ e).1; omega
            case measure => simp [intOf]; omega
      · have h1' : ¬ (1 : Int) < ((enc x).length : Int) := by omega
        go_wp2_with fail
        obtain ⟨wo, hwo⟩ : ∃ wo : World, wo = w3 := ⟨_, rfl⟩
        subst hwo
        go_loop [9] (fun sj => ∃ t : Nat, t ≤ (enc x).length ∧ sj = .int .i64 t) (fun sj => (enc x).length - (intOf sj).toNat)
        case atStart => exact ⟨0, Nat.zero_le _, rfl⟩
        case round =>
          obtain ⟨t, ht, rfl⟩ := hrel
          by_cases hlt2 : t < (enc x).length
          · obtain ⟨b, hb, hb2, hb3⟩ := (hbyte t hlt2).out
            have hcb := (HC t b hb).out
            have HB := Lib.hid hb
            have hiff := Lib.hid hb3
            clear hb hb3
            by_cases hl3 : t + 1 < (enc x).length
            · have h128 : (128 : Int) ≤ (b : Int) := by have := hiff.out.2 hl3; omega
              have hl4 : (t : Int) < ((enc x).length : Int) - 1 := by omega
              go_wp2_with fail
              go_round
              case rel => exact ⟨t + 1, by omega, by go_num⟩
              case measure => simp [intOf]; omega
            · have h128 : ¬ (128 : Int) ≤ (b : Int) := by
                intro h
                exact hl3 (hiff.out.1 (by omega))
              have hl4 : ¬ (t : Int) < ((enc x).length : Int) - 1 := by omega
              go_wp2_with fail
              go_round
              case rel => exact ⟨t + 1, by omega, by go_num⟩
              case measure => simp [intOf]; omega
          · have htl : t = (enc x).length := by omega
            subst htl
            go_wp2_with (at_builtin; go_loud (refine app_bytes rfl _ _ 22 rfl W.heap.size _ (bs (encs (L.take i))) rfl ho3 (.slice (some ⟨gx, 0, none⟩) (enc x).length cx) (bs (enc x)) rfl hsrc.out (by rw [bs_len, bs_len]; omega) (by omega) ?_); intro v4 w4 g4)
            go_roundw
            case rel =>
              refine ⟨i + 1, by omega, by go_num, ?_, hF3.out.only g4.only (by omega) (fun e => ?_), only_step hG3 g4.only (fun k hk => .inr (ho3.lt k hk).1)⟩
              · have := g4.own
                rw [← bs_append, ← hsn.out] at this
                exact this
              · have := (ho3.lt _ e).1; omega
            case measure => simp [intOf]; omega
    · have hi4 : i = 4 := by omega
      subst hi4
      have hE4 : Hid (encs (L.take 4) = encs L) := by unfold Hid; rw [List.take_of_length_le (by omega)]
      rw [hE4.out] at ho
      have hlL := encs_len L HLB.out
      have ho' := ho
      rw [bs_len] at ho'
      obtain ⟨A, c, rfl⟩ := own_slice ho'
      have hH := Has.own ho'
      go_wp2_with fail
      refine (new_any A c (encs L) _ hH (by omega)).mono ?_
      rintro _ w5 ⟨g, rfl, R, hg, g5⟩
      have hF5 : Hid (Four w5 w1.heap.size L) := hF2.out.only g5 (by omega) (by simp)
      have hG5 : W.grownBy w5 none := only_step hG g5 (fun _ h => by cases h)
      have hd0 : Hid (L.drop 0 = L) := rfl
      clear ho ho' hH hF2 hG g5
      go_wp2_with fail
      go_loopw [11] (fun si wr => ∃ i : Nat, i ≤ 4 ∧ si = .int .i64 i ∧ Rdr wr g (encs (L.drop i)) 0 ∧ Hid (Four wr w1.heap.size L) ∧ W.grownBy wr none)
        (fun si _ => 4 - (intOf si).toNat)
      case atStart => exact ⟨0, by omega, rfl, R, hF5, hG5⟩
      case round =>
        obtain ⟨i, hi, rfl, R6, hF6, hG6⟩ := hrel
        by_cases hlt : i < 4
        · obtain ⟨x, hx⟩ : ∃ x, L[i]? = some x := ⟨_, List.getElem?_eq_getElem (by omega)⟩
          have hxb := HLB.out x (List.mem_of_getElem? hx)
          have hcx := hF6.out i x hx
          have hcd : wr.drew.cell? ⟨w1.heap.size, i, none⟩ = some (.int .i64 x) := hcx
          have hR6 : Hid (Rdr wr.drew g (enc x ++ encs (L.drop (i + 1))) 0) := by
            have h := encs_drop L i (by omega)
            have hxi : L[i] = x := by rw [List.getElem?_eq_getElem (by omega)] at hx; injection hx
            rw [hxi] at h
            unfold Hid
            rw [← h]; exact R6
          have hG7 : W.grownBy wr.drew none := only_drew hG6
          have hld : (encs (L.drop (i + 1))).length ≤ 40 := by
            have h := encs_len (L.drop (i + 1)) (fun n hn => HLB.out n (List.mem_of_mem_drop hn))
            have : (L.drop (i + 1)).length ≤ 4 := by rw [List.length_drop]; omega
            omega
          have hel := enc_len x hxb.1 hxb.2
          have HT : ∀ V, Rdr V g (enc x ++ encs (L.drop (i + 1))) 0 → Hid (Calls Try.prog 22 #[.pointer (some ⟨g, 0, none⟩)] V fun e w' => e = .returned (.int .i64 x) ∧ Rdr w' g (encs (L.drop (i + 1))) 0 ∧ V.grownBy w' (some g)) := fun V R =>
            (rInt_any g _ 0 V R (by rw [List.length_append]; omega) (fun z hz => (List.mem_append.1 hz).elim (enc_byte _ z) (encs_bytes _ z))).mono fun e w' hp => by
              have h0 : ans number (enc x ++ encs (L.drop (i + 1))) 0 = (.ok x, encs (L.drop (i + 1))) := number_enc x _ hxb.1 hxb.2
              rw [h0] at hp
              obtain ⟨⟨v, he, hv⟩, h2, h3⟩ := hp
              exact ⟨by rw [he, show v = _ from hv], h2, h3⟩
          have hb0 : (0 : Int) ≤ (i : Int) := by omega
          have hb1 : (i : Int) < 4 := by omega
          have HX := Lib.hid hx
          clear hx R6
          go_wp2_with fail
          go_region_held3 (fun V => V.cell? ⟨w1.heap.size, i, none⟩ = some (.int .i64 x)) (first | assumption) ((first
            | (go_at_call 22; refine (HT _ hR6.out).out.mono ?_; rintro e wa ⟨rfl, Ra, ga⟩; have hFa : Hid (Four wa w1.heap.size L) := hF6.out.only (w := wr) (only_step (only_drew (only_refl wr (some g))) ga (fun q hq => .inl hq)) (by have := hG6.size; omega) (by simp; omega); have hca : wa.cell? ⟨w1.heap.size, i, none⟩ = some (.int .i64 x) := hFa.out i x HX.out; have hGa : W.grownBy wa none := only_step hG7 ga (fun q hq => by cases hq; right; omega))))
          go_wp2_with fail
          go_roundw
          case rel => exact ⟨i + 1, by omega, by go_num, Ra, hFa, hGa⟩
          case measure => simp [intOf]; omega
        · have hi4 : i = 4 := by omega
          subst hi4
          have hE : encs (L.drop 4) = [] := by rw [List.drop_of_length_le (by omega)]; rfl
          rw [hE] at R6
          clear hE
          go_wp2_with fail
          refine (end_any g [] 0 _ R6 (by simp)).mono ?_
          rintro _ w7 ⟨rfl, rfl⟩
          have he : endOf [] 0 = 0 := rfl
          rw [he]
          have hfin : w.grownBy wr none := only_step hg0 hG6 (fun _ h => by cases h)
          clear he R6
          go_wp2_with fail
          go_ret
          exact ⟨rfl, hfin⟩
end Go.Proofs.Ytjcanlnnadnodaa
