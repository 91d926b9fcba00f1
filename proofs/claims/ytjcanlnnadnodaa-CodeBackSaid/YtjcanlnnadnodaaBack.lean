/- The walk of CodeBack: it returns true for every input. No condition. -/
import Derived.Test.YtjcanlnnadnodaaBkw
import Derived.Deep.RegionHeld3
import Derived.Deep.RegionWith
import Derived.Deep.DrawnRows
namespace Go.Proofs.Ytjcanlnnadnodaa
open Go.RowKit
attribute [local go_sem ↓] Go.wp_at_zero Go.wp_at_succ

theorem str_ne {s t : ByteArray} (h : ¬ s = t) : (s.toList == t.toList) = false := by
  rw [beq_eq_false_iff_ne]
  intro he
  rw [ByteArray.toList_eq, ByteArray.toList_eq] at he
  exact h (Go.WideShapes.bytes_inj he)

/-- The bytes that were written. -/
def written (ns : List Int) (ss : List ByteArray) (ls : List (Option Addr × List Int × Nat)) : List Int := encs ns ++ (tx ss ++ il (ls.map (·.2.1)))
def W2 (ns : List Int) (ss : List ByteArray) (k : Nat) : List Int := encs ns ++ tx (ss.take k)
def W3 (ns : List Int) (ss : List ByteArray) (ls : List (Option Addr × List Int × Nat)) (k : Nat) : List Int := encs ns ++ (tx ss ++ il ((ls.map (·.2.1)).take k))
def W1 (ns : List Int) (k : Nat) : List Int := encs (ns.take k)
theorem W2_zero (ns : List Int) (ss : List ByteArray) : W2 ns ss 0 = encs ns := by simp [W2, tx]
theorem W3_zero (ns : List Int) (ss : List ByteArray) (ls : List (Option Addr × List Int × Nat)) : W3 ns ss ls 0 = encs ns ++ tx ss := by simp [W3, il]
def RowOk (w : World) (x : Option Addr × List Int × Nat) : Prop := Hid (∀ n ∈ x.2.1, -9223372036854775808 ≤ n ∧ n ≤ 9223372036854775807) ∧ Hid (Has w w.heap.size x.1 (is x.2.1))

set_option maxRecDepth 100000 in
set_option maxHeartbeats 4000000 in
theorem back_core (A B C : Option Addr) (c d e : Nat) (ns : List Int) (ss : List ByteArray) (ls : List (Option Addr × List Int × Nat)) (w : World)
    (hA : Has w w.heap.size A (is ns)) (hB : Has w w.heap.size B (ss.map Value.string)) (hC : Has w w.heap.size C (ls.map rowCell)) (hnb : ∀ n ∈ ns, -9223372036854775808 ≤ n ∧ n ≤ 9223372036854775807)
    (hrow : ∀ x ∈ ls, RowOk w x) (hns : ns.length ≤ 20) (hss : ss.length ≤ 10) (hls : ls.length ≤ 10) (hsz : ∀ s ∈ ss, s.size ≤ 9223372036854775807) (hlz : ∀ x ∈ ls, x.2.1.length ≤ 9223372036854775807) :
    Calls Try.prog 5 #[.slice A ns.length c, .slice B ss.length d, .slice C ls.length e] w fun e w' => e = .returned (.bool true) ∧ w.grownBy w' none := by
  have t1 : ¬ (20 : Int) < (ns.length : Int) := by omega
  have t2 : ¬ (10 : Int) < (ss.length : Int) := by omega
  have t3 : ¬ (10 : Int) < (ls.length : Int) := by omega
  have HA := Lib.hid hA
  have HBs := Lib.hid hB
  have HC0 := Lib.hid hC
  have HNB := Lib.hid hnb
  have HROW := Lib.hid hrow
  have HSZ0 := Lib.hid hsz
  have HLZ0 := Lib.hid hlz
  clear hA hB hC hnb hrow hsz hlz
  go_enter Try.func5, Try.ntmps5
  go_wp2_with fail
  refine (known_any _).mono ?_
  rintro _ w1 ⟨rfl, g1⟩
  go_wp2_with fail
  go_loopw [7, 8] (fun sv si wr => ∃ (k : Nat) (A7 : Option Addr) (c7 : Nat), k ≤ ns.length ∧ si = .int .i64 k ∧ sv = .slice A7 (W1 ns k).length c7 ∧ Hid (Has wr wr.heap.size A7 (bs (W1 ns k))) ∧ (W1 ns k).length ≤ c7 ∧ w.grownBy wr none)
    (fun _ si _ => ns.length - (intOf si).toNat)
  case atStart => exact ⟨0, none, 0, Nat.zero_le _, rfl, rfl, Has.nil, Nat.le_refl _, g1⟩
  case round =>
    obtain ⟨k, A7, c7, hk, rfl, rfl, H7, hc7, hG⟩ := hrel
    clear g1
    have hlk : (W1 ns k).length ≤ 200 := by
      unfold W1
      have h := encs_len (ns.take k) (fun n hn => HNB.out n (List.mem_of_mem_take hn))
      have : (ns.take k).length ≤ k := List.length_take_le _ _
      omega
    by_cases hlt : k < ns.length
    · have ht : (k : Int) < (ns.length : Int) := by omega
      have ht0 : (0 : Int) ≤ (k : Int) := by omega
      have hes : IntKind.i64.wrap ((k : Int) + 1) = (k : Int) + 1 := by rw [IntKind.wrap_i64]; omega
      obtain ⟨b, off, x, rfl, hxb, HD, hcx⟩ : ∃ b off x, A = some ⟨b, off, none⟩ ∧ (-9223372036854775808 ≤ x ∧ x ≤ 9223372036854775807) ∧ Hid (W1 ns (k + 1) = W1 ns k ++ enc x) ∧ wr.cell? ⟨b, off + k, none⟩ = some (.int .i64 x) := by
        have hx : (is ns)[k]? = some (.int .i64 ns[k]) := by simp [is, hlt]
        rcases HA.out with h0 | ⟨b, off, hA, hb, hc⟩
        · rw [h0] at hx; cases hx
        · exact ⟨b, off, ns[k], hA, HNB.out _ (List.getElem_mem hlt), encs_snoc ns k hlt, (World.cell?_of_block (hG.block b hb (by simp))).trans (hc k _ hx)⟩
      have HI := Lib.hid (int_row A7 c7 _ x wr H7.out (by omega) hxb.1 hxb.2)
      clear H7
      go_wp2_with fail
      refine HI.out.mono ?_
      rintro _ w2 ⟨A8, c8, rfl, h8, hc8, g8⟩
      rw [← HD.out] at h8 hc8 ⊢
      go_wp2_with fail
      go_roundw
      case rel => exact ⟨k + 1, A8, c8, by omega, by go_num, rfl, h8, hc8, only_step hG g8 (fun _ h => by cases h)⟩
      case measure => simp [intOf]; omega
    · have ht : ¬ (k : Int) < (ns.length : Int) := by omega
      have hE0 : W1 ns k = W2 ns ss 0 := by rw [W2_zero]; unfold W1; rw [List.take_of_length_le (by omega)]
      have hlk : (encs ns).length ≤ 200 := by rw [← W2_zero ns ss, ← hE0]; exact hlk
      rw [hE0] at H7 hc7 ⊢
      have H7' := H7
      have hG7 := hG
      clear H7 hG hE0
      go_wp2_with fail
      go_loopw [7, 9] (fun sv si wr => ∃ (k : Nat) (A7 : Option Addr) (c7 : Nat), k ≤ ss.length ∧ si = .int .i64 k ∧ sv = .slice A7 (W2 ns ss k).length c7 ∧ Hid (Has wr wr.heap.size A7 (bs (W2 ns ss k))) ∧ (W2 ns ss k).length ≤ c7 ∧ Hid (∀ s ∈ ss.take k, s.size ≤ 200) ∧ w.grownBy wr none)
        (fun _ si _ => ss.length - (intOf si).toNat)
      case atStart => exact ⟨0, A7, c7, Nat.zero_le _, rfl, rfl, H7', hc7, (fun s hs => by simp at hs), hG7⟩
      case round =>
        clear H7' hc7 hG7 hlt ht hk
        obtain ⟨k, A7, c7, hk, rfl, rfl, H7, hc7, HZ, hG⟩ := hrel
        have hlt2 : (tx (ss.take k)).length ≤ 2100 := by
          have h := tx_len (ss.take k) HZ.out
          have : (ss.take k).length ≤ k := List.length_take_le _ _
          omega
        have hll : (W2 ns ss k).length ≤ 2300 := by unfold W2; rw [List.length_append]; omega
        by_cases hlt : k < ss.length
        · have ht : (k : Int) < (ss.length : Int) := by omega
          have ht0 : (0 : Int) ≤ (k : Int) := by omega
          have hes : IntKind.i64.wrap ((k : Int) + 1) = (k : Int) + 1 := by rw [IntKind.wrap_i64]; omega
          obtain ⟨b, off, x, rfl, hxz, HD, HM, hcx⟩ : ∃ b off x, B = some ⟨b, off, none⟩ ∧ x.size ≤ 9223372036854775807 ∧ Hid (W2 ns ss (k + 1) = W2 ns ss k ++ (enc x.size ++ sb x)) ∧ Hid (ss.take (k + 1) = ss.take k ++ [x]) ∧ wr.cell? ⟨b, off + k, none⟩ = some (.string x) := by
            have hx : (ss.map Value.string)[k]? = some (.string ss[k]) := by simp [hlt]
            rcases HBs.out with h0 | ⟨b, off, hA, hb, hc⟩
            · rw [h0] at hx; cases hx
            · exact ⟨b, off, ss[k], hA, HSZ0.out _ (List.getElem_mem hlt), by unfold Hid W2; rw [show tx (ss.take (k + 1)) = _ from flat_snoc _ ss k hlt, List.append_assoc]; rfl, List.take_succ_eq_append_getElem hlt, (World.cell?_of_block (hG.block b hb (by simp))).trans (hc k _ hx)⟩
          by_cases hxs : x.size ≤ 200
          · have hq : ¬ (200 : Int) < (x.size : Int) := by omega
            have HI := Lib.hid (text_row A7 c7 _ x wr H7.out (by omega) (by omega))
            have HZ2 : Hid (∀ s ∈ ss.take (k + 1), s.size ≤ 200) := by
              unfold Hid; rw [HM.out]
              intro s hs
              rcases List.mem_append.1 hs with hs | hs
              · exact HZ.out s hs
              · simp at hs; subst hs; exact hxs
            clear H7 HM
            go_wp2_with fail
            refine HI.out.mono ?_
            rintro _ w2 ⟨A8, c8, rfl, h8, hc8, g8⟩
            rw [← HD.out] at h8 hc8 ⊢
            go_wp2_with fail
            go_roundw
            case rel => exact ⟨k + 1, A8, c8, by omega, by go_num, rfl, h8, hc8, HZ2, only_step hG g8 (fun _ h => by cases h)⟩
            case measure => simp [intOf]; omega
          · have hq : (200 : Int) < (x.size : Int) := by omega
            go_wp2_with fail
            go_ret
            exact ⟨rfl, hG⟩
        · have ht : ¬ (k : Int) < (ss.length : Int) := by omega
          have hE1 : ss.take k = ss := List.take_of_length_le (by omega)
          have hE0 : W2 ns ss k = W3 ns ss ls 0 := by rw [W3_zero]; unfold W2; rw [hE1]
          rw [hE0] at H7 hc7 ⊢
          rw [hE1] at HZ hlt2
          have HSZ := HZ
          have H7' := H7
          have hG7 := hG
          clear H7 hG hE0 HZ hE1 hll
          go_wp2_with fail
          go_loopw [7, 10] (fun sv si wr => ∃ (k : Nat) (A7 : Option Addr) (c7 : Nat), k ≤ ls.length ∧ si = .int .i64 k ∧ sv = .slice A7 (W3 ns ss ls k).length c7 ∧ Hid (Has wr wr.heap.size A7 (bs (W3 ns ss ls k))) ∧ (W3 ns ss ls k).length ≤ c7 ∧ Hid (∀ x ∈ ls.take k, x.2.1.length ≤ 50) ∧ w.grownBy wr none)
            (fun _ si _ => ls.length - (intOf si).toNat)
          case atStart => exact ⟨0, A7, c7, Nat.zero_le _, rfl, rfl, H7', hc7, (fun s hs => by simp at hs), hG7⟩
          case round =>
            clear H7' hc7 hG7 hlt ht hk
            obtain ⟨k, A7, c7, hk, rfl, rfl, H7, hc7, HZ, hG⟩ := hrel
            have hlt3 : (il ((ls.map (·.2.1)).take k)).length ≤ 5100 := by
              have h := il_len ((ls.map (·.2.1)).take k) (fun l hl => by
                rw [← List.map_take] at hl
                obtain ⟨x, hx, rfl⟩ := List.mem_map.1 hl
                exact ⟨HZ.out x hx, (HROW.out x (List.mem_of_mem_take hx)).1.out⟩)
              have : ((ls.map (·.2.1)).take k).length ≤ k := List.length_take_le _ _
              omega
            have hll3 : (W3 ns ss ls k).length ≤ 7400 := by unfold W3; simp only [List.length_append]; omega
            by_cases hlt : k < ls.length
            · have ht : (k : Int) < (ls.length : Int) := by omega
              have ht0 : (0 : Int) ≤ (k : Int) := by omega
              have hes : IntKind.i64.wrap ((k : Int) + 1) = (k : Int) + 1 := by rw [IntKind.wrap_i64]; omega
              obtain ⟨b, off, Ai, x, ci, rfl, hxz, hxb, hxi, HD, HM, hcx⟩ : ∃ b off Ai x ci, C = some ⟨b, off, none⟩ ∧ x.length ≤ 9223372036854775807 ∧ Hid (∀ n ∈ x, -9223372036854775808 ≤ n ∧ n ≤ 9223372036854775807) ∧ Hid (Has w w.heap.size Ai (is x)) ∧
                  Hid (W3 ns ss ls (k + 1) = W3 ns ss ls k ++ (enc x.length ++ encs x)) ∧ Hid (ls.take (k + 1) = ls.take k ++ [(Ai, x, ci)]) ∧ wr.cell? ⟨b, off + k, none⟩ = some (.slice Ai x.length ci) := by
                have hx : (ls.map rowCell)[k]? = some (rowCell ls[k]) := by simp [hlt]
                rcases HC0.out with h0 | ⟨b, off, hA, hb, hc⟩
                · rw [h0] at hx; cases hx
                · have hm := List.getElem_mem hlt
                  refine ⟨b, off, ls[k].1, ls[k].2.1, ls[k].2.2, hA, HLZ0.out _ hm, (HROW.out _ hm).1, (HROW.out _ hm).2, ?_, List.take_succ_eq_append_getElem hlt, (World.cell?_of_block (hG.block b hb (by simp))).trans (hc k _ hx)⟩
                  have h := flat_snoc (fun l => enc l.length ++ encs l) (ls.map (·.2.1)) k (by simpa using hlt)
                  unfold Hid W3
                  rw [show il ((ls.map (·.2.1)).take (k + 1)) = _ from h, List.append_assoc, List.append_assoc]
                  simp [il]
              by_cases hxs : x.length ≤ 50
              · have hq : ¬ (50 : Int) < (x.length : Int) := by omega
                have HI := Lib.hid (ints_row A7 Ai c7 ci _ x wr H7.out (by omega) ((hxi.out.only hG (Nat.le_refl _) (fun _ h => by cases h)).more hG.size) (by omega) hxb.out)
                have HZ2 : Hid (∀ x ∈ ls.take (k + 1), x.2.1.length ≤ 50) := by
                  unfold Hid; rw [HM.out]
                  intro s hs
                  rcases List.mem_append.1 hs with hs | hs
                  · exact HZ.out s hs
                  · simp at hs; subst hs; exact hxs
                clear H7 HM
                go_wp2_with fail
                refine HI.out.mono ?_
                rintro _ w2 ⟨A8, c8, rfl, h8, hc8, g8⟩
                rw [← HD.out] at h8 hc8 ⊢
                go_wp2_with fail
                go_roundw
                case rel => exact ⟨k + 1, A8, c8, by omega, by go_num, rfl, h8, hc8, HZ2, only_step hG g8 (fun _ h => by cases h)⟩
                case measure => simp [intOf]; omega
              · have hq : (50 : Int) < (x.length : Int) := by omega
                go_wp2_with fail
                go_ret
                exact ⟨rfl, hG⟩
            · have ht : ¬ (k : Int) < (ls.length : Int) := by omega
              have hE1 : ls.take k = ls := List.take_of_length_le (by omega)
              rw [hE1] at HZ
              have HLB : Hid (∀ x ∈ ls, x.2.1.length ≤ 50 ∧ Hid (∀ n ∈ x.2.1, -9223372036854775808 ≤ n ∧ n ≤ 9223372036854775807) ∧ Hid (Has w w.heap.size x.1 (is x.2.1))) := fun x hx => ⟨HZ.out x hx, (HROW.out x hx).1, (HROW.out x hx).2⟩
              obtain ⟨E, hE0⟩ : ∃ E, E = W3 ns ss ls k := ⟨_, rfl⟩
              have hE : E = encs ns ++ (tx ss ++ il (ls.map (·.2.1))) := by rw [hE0]; unfold W3; rw [List.take_of_length_le (by simp; omega)]
              rw [← hE0] at H7 hc7 hll3 ⊢
              have HEq := Lib.hid hE
              have HBE : Hid (bytesOk E) := by rw [hE]; exact app_bytesOk (encs_bytes _) (app_bytesOk (tx_bytes _) (il_bytes _))
              have H8 := H7
              clear hE1 HZ hlt3 hE hE0 HROW HSZ0 HLZ0 hlt2 hlk H7
              obtain ⟨V, hV⟩ : ∃ V, V = wr := ⟨_, rfl⟩
              subst hV
              have hVg := hG
              have hVz := hVg.size
              clear hG
              go_wp2_with fail
              go_loopw [11] (fun sk wx => ∃ k : Nat, k ≤ 3 ∧ sk = .int .i64 k ∧ V.grownBy wx none) (fun sk _ => 3 - (intOf sk).toNat)
              case atStart => exact ⟨0, by omega, rfl, only_refl _ _⟩
              case round =>
                clear hlt ht hk
                obtain ⟨k, hk, rfl, g00⟩ := hrel
                have hk4 : k = 0 ∨ k = 1 ∨ k = 2 ∨ k = 3 := by omega
                have hz00 := g00.size
                have HXB : Hid (Has wr wr.heap.size A7 (bs E)) := (H8.out.only g00 (Nat.le_refl _) (fun _ h => by cases h)).more hz00
                have hlE : E.length ≤ 7900 := by omega
                rcases hk4 with rfl | rfl | rfl | rfl
                · have HS0 : Hid (St 0 (encs (ns.drop 0) ++ (tx ss ++ il (ls.map (·.2.1)))) E 0 true) := .inl ⟨rfl, rfl, HEq.out, rfl⟩
                  have HBx := HBE
                  have hlx : E.length ≤ 8000 := by omega
                  have HX := HXB
                  have g02 := g00
                  clear HXB g00
                  go_wp2_with fail
                  as_aux_lemma =>
                    refine (new_any _ _ _ _ HX.out (by omega)).mono ?_
                    rintro _ w3 ⟨g, rfl, R, hg, g3⟩
                    have g03 : V.grownBy w3 none := only_step g02 g3 (fun _ h => by cases h)
                    have hz3 := g03.size
                    have hz02 := g02.size
                    have hwg : V.heap.size ≤ g := by omega
                    clear HX g3 g02
                    go_wp2_with fail
                    go_loopw [14, 15] (fun sok si wr => ∃ (i : Nat) (l' : List Int) (e : Int) (ok : Bool), i ≤ ns.length ∧ si = .int .i64 i ∧ sok = .bool ok ∧ Rdr wr g l' e ∧ Hid (St 0 (encs (ns.drop i) ++ (tx ss ++ il (ls.map (·.2.1)))) l' e ok) ∧ Hid (bytesOk l') ∧ l'.length ≤ 8000 ∧ V.grownBy wr none)
                      (fun _ si _ => ns.length - (intOf si).toNat)
                    case atStart => exact ⟨0, _, 0, true, Nat.zero_le _, rfl, rfl, R, HS0, HBx, hlx, g03⟩
                    case round =>
                      obtain ⟨i, l', e, ok, hi, rfl, rfl, R, HS, HB, hl, hG⟩ := hrel
                      clear HS0 HBx hlx g03
                      by_cases hlt : i < ns.length
                      · have ht : (i : Int) < (ns.length : Int) := by omega
                        have ht0 : (0 : Int) ≤ (i : Int) := by omega
                        have hes : IntKind.i64.wrap ((i : Int) + 1) = (i : Int) + 1 := by rw [IntKind.wrap_i64]; omega
                        obtain ⟨b, off, x, rfl, hxb, HD, hcx⟩ : ∃ b off x, A = some ⟨b, off, none⟩ ∧ (-9223372036854775808 ≤ x ∧ x ≤ 9223372036854775807) ∧ Hid (encs (ns.drop i) = enc x ++ encs (ns.drop (i + 1))) ∧ Hid (∀ W : World, V.grownBy W none → W.cell? ⟨b, off + i, none⟩ = some (.int .i64 x)) := by
                          have hx : (is ns)[i]? = some (.int .i64 ns[i]) := by simp [is, hlt]
                          rcases HA.out with h0 | ⟨b, off, hA, hb, hc⟩
                          · rw [h0] at hx; cases hx
                          · exact ⟨b, off, ns[i], hA, HNB.out _ (List.getElem_mem hlt), encs_drop ns i hlt, fun W hW => (World.cell?_of_block ((only_step hVg hW (fun _ h => by cases h)).block b hb (by simp))).trans (hc i _ hx)⟩
                        have HS' : Hid (St 0 (enc x ++ (encs (ns.drop (i + 1)) ++ (tx ss ++ il (ls.map (·.2.1))))) l' e ok) := by
                          have h := HS.out; rw [HD.out, List.append_assoc] at h; exact h
                        obtain ⟨v, l2, e2, HC, hS2, hb2, hl2⟩ := back_int g x _ l' e ok 0 hxb.1 hxb.2 HS'.out (by omega) HB.out
                        have HS2 := Lib.hid hS2
                        have HB2 := Lib.hid hb2
                        have hcx1 : wr.drew.cell? ⟨b, off + i, none⟩ = some (.int .i64 x) := hcx.out _ (only_drew hG)
                        have hG7 : V.grownBy wr.drew none := only_drew hG
                        have R7 : Hid (Rdr wr.drew g l' e) := R
                        clear hS2 hb2 HD HS HS' R
                        by_cases hv : v = x
                        · subst hv
                          have HS3 : Hid (St 0 (encs (ns.drop (i + 1)) ++ (tx ss ++ il (ls.map (·.2.1)))) l2 e2 ok) := by have h := HS2.out; unfold Hid; simpa using h
                          clear HS2
                          go_wp2_with fail
                          go_region_held3 (fun V => V.cell? ⟨b, off + i, none⟩ = some (.int .i64 v)) (first | assumption) ((first
                            | (go_at_call 22; refine (HC _ R7.out).out.mono ?_; rintro e wa ⟨rfl, Ra, ga⟩; have hGa : V.grownBy wa none := only_step hG7 ga (fun q hq => by cases hq; exact .inr hwg); have hca : wa.cell? ⟨b, off + i, none⟩ = some (.int .i64 v) := hcx.out _ hGa)))
                          go_wp2_with fail
                          go_roundw
                          case rel => exact ⟨i + 1, l2, e2, ok, by omega, by go_num, rfl, Ra, HS3, HB2, by omega, hGa⟩
                          case measure => simp [intOf]; omega
                        · have HS3 : Hid (St 0 (encs (ns.drop (i + 1)) ++ (tx ss ++ il (ls.map (·.2.1)))) l2 e2 false) := by have h := HS2.out; unfold Hid; simpa [hv] using h
                          have hvb : (v == x) = false := by rw [beq_eq_false_iff_ne]; exact hv
                          clear HS2
                          go_wp2_with fail
                          refine wp_region_held_drew (S := fun V => V.cell? ⟨b, off + i, none⟩ = some (.int .i64 x)) (by kernel_rfl) hcx1 (fun hHeld => ?_)
                          refine wpAnyH_take (i := 0) (oi := { dst := some 114, op := Op.move (Operand.tmp 13), type := 29, pos := "law.go:119", after := #[], guard := none }) (v := ?_) rfl (by kernel_rfl) (by kernel_rfl) (by kernel_rfl) (fun _ _ _ h => h) (Or.inl ⟨by rfl, ?_⟩) hHeld ?_
                          rotate_left
                          · (intro W hSw; (try dsimp only at hSw); go_simp; try with_reducible rfl)
                          try simp only [Act.put, List.setIfInBounds_toArray, List.set_cons_zero, List.set_cons_succ]
                          refine wpAnyH_take (i := 2) (oi := { dst := some 116, op := Op.move (Operand.tmp 0), type := 23, pos := "law.go:119", after := #[], guard := none }) (v := ?_) rfl (by kernel_rfl) (by kernel_rfl) (by kernel_rfl) (fun _ _ _ h => h) (Or.inl ⟨by rfl, ?_⟩) hHeld ?_
                          rotate_left
                          · (intro W hSw; (try dsimp only at hSw); go_simp; try with_reducible rfl)
                          try simp only [Act.put, List.setIfInBounds_toArray, List.set_cons_zero, List.set_cons_succ]
                          refine wpAnyH_take (i := 3) (oi := { dst := some 117, op := Op.move (Operand.tmp 15), type := 3, pos := "law.go:119", after := #[], guard := none }) (v := ?_) rfl (by kernel_rfl) (by kernel_rfl) (by kernel_rfl) (fun _ _ _ h => h) (Or.inl ⟨by rfl, ?_⟩) hHeld ?_
                          rotate_left
                          · (intro W hSw; (try dsimp only at hSw); go_simp; try with_reducible rfl)
                          try simp only [Act.put, List.setIfInBounds_toArray, List.set_cons_zero, List.set_cons_succ]
                          refine wpAnyH_take (i := 4) (oi := { dst := some 118, op := Op.indexAddr 23 (Operand.tmp 116) (Operand.tmp 117), type := 0, pos := "law.go:119", after := #[{ on := 2, ground := Ground.data }, { on := 3, ground := Ground.data }], guard := none }) (v := ?_) rfl (by kernel_rfl) (by kernel_rfl) (by kernel_rfl) (fun _ _ _ h => h) (Or.inl ⟨by rfl, ?_⟩) hHeld ?_
                          rotate_left
                          · (intro W hSw; (try dsimp only at hSw); go_simp; try with_reducible rfl)
                          try simp only [Act.put, List.setIfInBounds_toArray, List.set_cons_zero, List.set_cons_succ]
                          refine wpAnyH_take (i := 5) (oi := { dst := some 119, op := Op.load 3 (Operand.tmp 118), type := 3, pos := "law.go:119", after := #[{ on := 4, ground := Ground.data }], guard := none }) (v := ?_) rfl (by kernel_rfl) (by kernel_rfl) (by kernel_rfl) (fun _ _ _ h => h) (Or.inl ⟨by rfl, ?_⟩) hHeld ?_
                          rotate_left
                          · (intro W hSw; (try dsimp only at hSw); go_simp; try with_reducible rfl)
                          try simp only [Act.put, List.setIfInBounds_toArray, List.set_cons_zero, List.set_cons_succ]
                          refine wpAnyH_ready (rs := [1]) (by kernel_rfl) (by simp) ?_
                          refine AllReadyH.cons (o := { dst := some 115, op := Op.call { callee := Callee.value (Operand.func 22), args := #[Operand.tmp 114], argTypes := #[29] }, type := 3, pos := "law.go:119", after := #[{ on := 0, ground := Ground.data }], guard := none }) rfl (fun K hK => ?_) AllReadyH.nil
                          go_simp
                          go_at_call 22
                          refine (HC _ R7.out).out.mono ?_
                          rintro _ wa ⟨rfl, Ra, ga⟩
                          dsimp only
                          have hGa : V.grownBy wa none := only_step hG7 ga (fun q hq => by cases hq; exact .inr hwg)
                          have hca : wa.cell? ⟨b, off + i, none⟩ = some (.int .i64 x) := hcx.out _ hGa
                          refine hK.out _ _ hca (fun hHeld2 => ?_)
                          clear hK K
                          try simp only [Act.put, List.setIfInBounds_toArray, List.set_cons_zero, List.set_cons_succ]
                          refine wpAnyH_take (i := 6) (oi := { dst := some 120, op := Op.binOp BinOp.eql 3 (Operand.tmp 115) (Operand.tmp 119) 3, type := 4, pos := "law.go:119", after := #[{ on := 1, ground := Ground.data }, { on := 5, ground := Ground.data }], guard := none }) (v := .bool false) rfl (by kernel_rfl) (by kernel_rfl) (by kernel_rfl) (fun _ _ _ h => h) (Or.inl ⟨by rfl, ?_⟩) hHeld2 ?_
                          · (intro W hSw; (try dsimp only at hSw); go_simp; try with_reducible rfl)
                          try simp only [Act.put, List.setIfInBounds_toArray, List.set_cons_zero, List.set_cons_succ]
                          refine wpAnyH_take (i := 7) (oi := { dst := some 121, op := Op.move (Operand.tmp 120), type := 4, pos := "law.go:119", after := #[{ on := 6, ground := Ground.data }, { on := 1, ground := Ground.chain }], guard := none }) (v := ?_) rfl (by kernel_rfl) (by kernel_rfl) (by kernel_rfl) (fun _ _ _ h => h) (Or.inl ⟨by rfl, ?_⟩) hHeld2 ?_
                          rotate_left
                          · (intro W hSw; (try dsimp only at hSw); go_simp; try with_reducible rfl)
                          try simp only [Act.put, List.setIfInBounds_toArray, List.set_cons_zero, List.set_cons_succ]
                          refine wpAnyH_take (i := 8) (oi := { dst := some 122, op := Op.move (Operand.tmp 14), type := 4, pos := "law.go:119", after := #[{ on := 7, ground := Ground.guard }], guard := some (7, true) }) (v := undef) rfl (by kernel_rfl) (by kernel_rfl) (by kernel_rfl) (fun _ _ _ h => h) (Or.inr ⟨by rfl, rfl⟩) hHeld2 ?_
                          try simp only [Act.put, List.setIfInBounds_toArray, List.set_cons_zero, List.set_cons_succ]
                          refine wpAnyH_take (i := 9) (oi := { dst := some 123, op := Op.pick (Operand.tmp 121) (Operand.tmp 122) (Operand.const (Value.bool false)), type := 4, pos := "law.go:119", after := #[{ on := 7, ground := Ground.data }, { on := 8, ground := Ground.data }], guard := none }) (v := ?_) rfl (by kernel_rfl) (by kernel_rfl) (by kernel_rfl) (fun _ _ _ h => h) (Or.inl ⟨by rfl, ?_⟩) hHeld2 ?_
                          rotate_left
                          · (intro W hSw; (try dsimp only at hSw); go_simp; try with_reducible rfl)
                          try simp only [Act.put, List.setIfInBounds_toArray, List.set_cons_zero, List.set_cons_succ]
                          refine wpAnyH_take (i := 10) (oi := { dst := some 14, op := Op.assign (Operand.tmp 123), type := 4, pos := "law.go:119", after := #[{ on := 9, ground := Ground.data }, { on := 7, ground := Ground.chain }, { on := 0, ground := Ground.phase }, { on := 1, ground := Ground.phase }, { on := 2, ground := Ground.phase }, { on := 3, ground := Ground.phase }, { on := 4, ground := Ground.phase }, { on := 5, ground := Ground.phase }, { on := 6, ground := Ground.phase }, { on := 7, ground := Ground.phase }, { on := 8, ground := Ground.phase }, { on := 9, ground := Ground.phase }], guard := none }) (v := ?_) rfl (by kernel_rfl) (by kernel_rfl) (by kernel_rfl) (fun _ _ _ h => h) (Or.inl ⟨by rfl, ?_⟩) hHeld2 ?_
                          rotate_left
                          · (intro W hSw; (try dsimp only at hSw); go_simp; try with_reducible rfl)
                          try simp only [Act.put, List.setIfInBounds_toArray, List.set_cons_zero, List.set_cons_succ]
                          refine wpAnyH_done (by kernel_rfl) ?_ _
                          go_wp2_with fail
                          go_roundw
                          case rel => exact ⟨i + 1, l2, e2, false, by omega, by go_num, rfl, Ra, HS3, HB2, by omega, hGa⟩
                          case measure => simp [intOf]; omega
                      · have ht : ¬ (i : Int) < (ns.length : Int) := by omega
                        have HS0 : Hid (St 0 (tx (ss.drop 0) ++ il (ls.map (·.2.1))) l' e ok) := by
                          have h := HS.out; rw [List.drop_of_length_le (by omega)] at h; exact h
                        have hl8 := hl
                        have hG8 := hG
                        have HB8 := HB
                        have R8 := R
                        clear HS hl hG HB R
                        go_wp2_with fail
                        go_loopw [14, 16] (fun sok si wr => ∃ (i : Nat) (l' : List Int) (e : Int) (ok : Bool), i ≤ ss.length ∧ si = .int .i64 i ∧ sok = .bool ok ∧ Rdr wr g l' e ∧ Hid (St 0 (tx (ss.drop i) ++ il (ls.map (·.2.1))) l' e ok) ∧ Hid (bytesOk l') ∧ l'.length ≤ 8000 ∧ V.grownBy wr none)
                          (fun _ si _ => ss.length - (intOf si).toNat)
                        case atStart => exact ⟨0, l', e, ok, Nat.zero_le _, rfl, rfl, R8, HS0, HB8, hl8, hG8⟩
                        case round =>
                          clear HS0 hl8 hG8 HB8 R8 hi hlt ht
                          obtain ⟨i, l', e, ok, hi, rfl, rfl, R, HS, HB, hl, hG⟩ := hrel
                          by_cases hlt : i < ss.length
                          · have ht : (i : Int) < (ss.length : Int) := by omega
                            have ht0 : (0 : Int) ≤ (i : Int) := by omega
                            have hes : IntKind.i64.wrap ((i : Int) + 1) = (i : Int) + 1 := by rw [IntKind.wrap_i64]; omega
                            obtain ⟨b, off, x, rfl, hxb, HD, hcx⟩ : ∃ b off x, B = some ⟨b, off, none⟩ ∧ Hid (x.size ≤ 200) ∧ Hid (tx (ss.drop i) = (enc (sb x).length ++ sb x) ++ tx (ss.drop (i + 1))) ∧ Hid (∀ W : World, V.grownBy W none → W.cell? ⟨b, off + i, none⟩ = some (.string x)) := by
                              have hx : (ss.map Value.string)[i]? = some (.string ss[i]) := by simp [hlt]
                              rcases HBs.out with h0 | ⟨b, off, hA, hb, hc⟩
                              · rw [h0] at hx; cases hx
                              · exact ⟨b, off, ss[i], hA, HSZ.out _ (List.getElem_mem hlt), by unfold Hid tx; rw [sb_len]; exact flat_drop _ ss i hlt, fun W hW => (World.cell?_of_block ((only_step hVg hW (fun _ h => by cases h)).block b hb (by simp))).trans (hc i _ hx)⟩
                            have HS' : Hid (St 0 (enc (sb x).length ++ sb x ++ (tx (ss.drop (i + 1)) ++ il (ls.map (·.2.1)))) l' e ok) := by
                              have h := HS.out; rw [HD.out, List.append_assoc] at h; exact h
                            obtain ⟨v, l2, e2, HC, hS2, hb2, hl2⟩ := back_text g (sb x) _ l' e ok 0 (by rw [sb_len]; have := hxb.out; omega) (sb_bytes x) HS'.out (by omega) HB.out
                            rw [nums_sb] at hS2
                            have HS2 := Lib.hid hS2
                            have HB2 := Lib.hid hb2
                            have hcx1 : wr.drew.cell? ⟨b, off + i, none⟩ = some (.string x) := hcx.out _ (only_drew hG)
                            have hG7 : V.grownBy wr.drew none := only_drew hG
                            have R7 : Hid (Rdr wr.drew g l' e) := R
                            clear hS2 hb2 HD HS HS' R
                            by_cases hv : v = x
                            · subst hv
                              have HS3 : Hid (St 0 (tx (ss.drop (i + 1)) ++ il (ls.map (·.2.1))) l2 e2 ok) := by have h := HS2.out; unfold Hid; simpa using h
                              clear HS2
                              go_wp2_with fail
                              go_region_held3 (fun V => V.cell? ⟨b, off + i, none⟩ = some (.string v)) (first | assumption) ((first
                                | (go_at_call 24; refine (HC _ R7.out).out.mono ?_; rintro e wa ⟨rfl, Ra, ga⟩; have hGa : V.grownBy wa none := only_step hG7 ga (fun q hq => by cases hq; exact .inr hwg); have hca : wa.cell? ⟨b, off + i, none⟩ = some (.string v) := hcx.out _ hGa)))
                              go_wp2_with fail
                              go_roundw
                              case rel => exact ⟨i + 1, l2, e2, ok, by omega, by go_num, rfl, Ra, HS3, HB2, by omega, hGa⟩
                              case measure => simp [intOf]; omega
                            · have HS3 : Hid (St 0 (tx (ss.drop (i + 1)) ++ il (ls.map (·.2.1))) l2 e2 false) := by have h := HS2.out; unfold Hid; simpa [hv] using h
                              have hvb : (v.toList == x.toList) = false := str_ne hv
                              clear HS2
                              go_wp2_with fail
                              refine wp_region_held_drew (S := fun V => V.cell? ⟨b, off + i, none⟩ = some (.string x)) (by kernel_rfl) hcx1 (fun hHeld => ?_)
                              refine wpAnyH_take (i := 0) (oi := { dst := some 130, op := Op.move (Operand.tmp 13), type := 29, pos := "law.go:122", after := #[], guard := none }) (v := ?_) rfl (by kernel_rfl) (by kernel_rfl) (by kernel_rfl) (fun _ _ _ h => h) (Or.inl ⟨by rfl, ?_⟩) hHeld ?_
                              rotate_left
                              · (intro W hSw; (try dsimp only at hSw); go_simp; try with_reducible rfl)
                              try simp only [Act.put, List.setIfInBounds_toArray, List.set_cons_zero, List.set_cons_succ]
                              refine wpAnyH_take (i := 2) (oi := { dst := some 132, op := Op.move (Operand.tmp 1), type := 43, pos := "law.go:122", after := #[], guard := none }) (v := ?_) rfl (by kernel_rfl) (by kernel_rfl) (by kernel_rfl) (fun _ _ _ h => h) (Or.inl ⟨by rfl, ?_⟩) hHeld ?_
                              rotate_left
                              · (intro W hSw; (try dsimp only at hSw); go_simp; try with_reducible rfl)
                              try simp only [Act.put, List.setIfInBounds_toArray, List.set_cons_zero, List.set_cons_succ]
                              refine wpAnyH_take (i := 3) (oi := { dst := some 133, op := Op.move (Operand.tmp 16), type := 3, pos := "law.go:122", after := #[], guard := none }) (v := ?_) rfl (by kernel_rfl) (by kernel_rfl) (by kernel_rfl) (fun _ _ _ h => h) (Or.inl ⟨by rfl, ?_⟩) hHeld ?_
                              rotate_left
                              · (intro W hSw; (try dsimp only at hSw); go_simp; try with_reducible rfl)
                              try simp only [Act.put, List.setIfInBounds_toArray, List.set_cons_zero, List.set_cons_succ]
                              refine wpAnyH_take (i := 4) (oi := { dst := some 134, op := Op.indexAddr 43 (Operand.tmp 132) (Operand.tmp 133), type := 0, pos := "law.go:122", after := #[{ on := 2, ground := Ground.data }, { on := 3, ground := Ground.data }], guard := none }) (v := ?_) rfl (by kernel_rfl) (by kernel_rfl) (by kernel_rfl) (fun _ _ _ h => h) (Or.inl ⟨by rfl, ?_⟩) hHeld ?_
                              rotate_left
                              · (intro W hSw; (try dsimp only at hSw); go_simp; try with_reducible rfl)
                              try simp only [Act.put, List.setIfInBounds_toArray, List.set_cons_zero, List.set_cons_succ]
                              refine wpAnyH_take (i := 5) (oi := { dst := some 135, op := Op.load 9 (Operand.tmp 134), type := 9, pos := "law.go:122", after := #[{ on := 4, ground := Ground.data }], guard := none }) (v := ?_) rfl (by kernel_rfl) (by kernel_rfl) (by kernel_rfl) (fun _ _ _ h => h) (Or.inl ⟨by rfl, ?_⟩) hHeld ?_
                              rotate_left
                              · (intro W hSw; (try dsimp only at hSw); go_simp; try with_reducible rfl)
                              try simp only [Act.put, List.setIfInBounds_toArray, List.set_cons_zero, List.set_cons_succ]
                              refine wpAnyH_ready (rs := [1]) (by kernel_rfl) (by simp) ?_
                              refine AllReadyH.cons (o := { dst := some 131, op := Op.call { callee := Callee.value (Operand.func 24), args := #[Operand.tmp 130], argTypes := #[29] }, type := 9, pos := "law.go:122", after := #[{ on := 0, ground := Ground.data }], guard := none }) rfl (fun K hK => ?_) AllReadyH.nil
                              go_simp
                              go_at_call 24
                              refine (HC _ R7.out).out.mono ?_
                              rintro _ wa ⟨rfl, Ra, ga⟩
                              dsimp only
                              have hGa : V.grownBy wa none := only_step hG7 ga (fun q hq => by cases hq; exact .inr hwg)
                              have hca : wa.cell? ⟨b, off + i, none⟩ = some (.string x) := hcx.out _ hGa
                              refine hK.out _ _ hca (fun hHeld2 => ?_)
                              clear hK K
                              try simp only [Act.put, List.setIfInBounds_toArray, List.set_cons_zero, List.set_cons_succ]
                              refine wpAnyH_take (i := 6) (oi := { dst := some 136, op := Op.binOp BinOp.eql 9 (Operand.tmp 131) (Operand.tmp 135) 9, type := 4, pos := "law.go:122", after := #[{ on := 1, ground := Ground.data }, { on := 5, ground := Ground.data }], guard := none }) (v := .bool false) rfl (by kernel_rfl) (by kernel_rfl) (by kernel_rfl) (fun _ _ _ h => h) (Or.inl ⟨by rfl, ?_⟩) hHeld2 ?_
                              · (intro W hSw; (try dsimp only at hSw); go_simp; try with_reducible rfl)
                              try simp only [Act.put, List.setIfInBounds_toArray, List.set_cons_zero, List.set_cons_succ]
                              refine wpAnyH_take (i := 7) (oi := { dst := some 137, op := Op.move (Operand.tmp 136), type := 4, pos := "law.go:122", after := #[{ on := 6, ground := Ground.data }, { on := 1, ground := Ground.chain }], guard := none }) (v := ?_) rfl (by kernel_rfl) (by kernel_rfl) (by kernel_rfl) (fun _ _ _ h => h) (Or.inl ⟨by rfl, ?_⟩) hHeld2 ?_
                              rotate_left
                              · (intro W hSw; (try dsimp only at hSw); go_simp; try with_reducible rfl)
                              try simp only [Act.put, List.setIfInBounds_toArray, List.set_cons_zero, List.set_cons_succ]
                              refine wpAnyH_take (i := 8) (oi := { dst := some 138, op := Op.move (Operand.tmp 14), type := 4, pos := "law.go:122", after := #[{ on := 7, ground := Ground.guard }], guard := some (7, true) }) (v := undef) rfl (by kernel_rfl) (by kernel_rfl) (by kernel_rfl) (fun _ _ _ h => h) (Or.inr ⟨by rfl, rfl⟩) hHeld2 ?_
                              try simp only [Act.put, List.setIfInBounds_toArray, List.set_cons_zero, List.set_cons_succ]
                              refine wpAnyH_take (i := 9) (oi := { dst := some 139, op := Op.pick (Operand.tmp 137) (Operand.tmp 138) (Operand.const (Value.bool false)), type := 4, pos := "law.go:122", after := #[{ on := 7, ground := Ground.data }, { on := 8, ground := Ground.data }], guard := none }) (v := ?_) rfl (by kernel_rfl) (by kernel_rfl) (by kernel_rfl) (fun _ _ _ h => h) (Or.inl ⟨by rfl, ?_⟩) hHeld2 ?_
                              rotate_left
                              · (intro W hSw; (try dsimp only at hSw); go_simp; try with_reducible rfl)
                              try simp only [Act.put, List.setIfInBounds_toArray, List.set_cons_zero, List.set_cons_succ]
                              refine wpAnyH_take (i := 10) (oi := { dst := some 14, op := Op.assign (Operand.tmp 139), type := 4, pos := "law.go:122", after := #[{ on := 9, ground := Ground.data }, { on := 7, ground := Ground.chain }, { on := 0, ground := Ground.phase }, { on := 1, ground := Ground.phase }, { on := 2, ground := Ground.phase }, { on := 3, ground := Ground.phase }, { on := 4, ground := Ground.phase }, { on := 5, ground := Ground.phase }, { on := 6, ground := Ground.phase }, { on := 7, ground := Ground.phase }, { on := 8, ground := Ground.phase }, { on := 9, ground := Ground.phase }], guard := none }) (v := ?_) rfl (by kernel_rfl) (by kernel_rfl) (by kernel_rfl) (fun _ _ _ h => h) (Or.inl ⟨by rfl, ?_⟩) hHeld2 ?_
                              rotate_left
                              · (intro W hSw; (try dsimp only at hSw); go_simp; try with_reducible rfl)
                              try simp only [Act.put, List.setIfInBounds_toArray, List.set_cons_zero, List.set_cons_succ]
                              refine wpAnyH_done (by kernel_rfl) ?_ _
                              go_wp2_with fail
                              go_roundw
                              case rel => exact ⟨i + 1, l2, e2, false, by omega, by go_num, rfl, Ra, HS3, HB2, by omega, hGa⟩
                              case measure => simp [intOf]; omega
                          · have ht : ¬ (i : Int) < (ss.length : Int) := by omega
                            have HS0 : Hid (St 0 (il ((ls.map (·.2.1)).drop 0)) l' e ok) := by
                              have h := HS.out; rw [List.drop_of_length_le (by omega)] at h; exact h
                            have hl8 := hl
                            have hG8 := hG
                            have HB8 := HB
                            have R8 := R
                            clear HS hl hG HB R
                            go_wp2_with fail
                            go_loopw [14, 17] (fun sok si wr => ∃ (i : Nat) (l' : List Int) (e : Int) (ok : Bool), i ≤ ls.length ∧ si = .int .i64 i ∧ sok = .bool ok ∧ Rdr wr g l' e ∧ Hid (St 0 (il ((ls.map (·.2.1)).drop i)) l' e ok) ∧ Hid (bytesOk l') ∧ l'.length ≤ 8000 ∧ V.grownBy wr none)
                              (fun _ si _ => ls.length - (intOf si).toNat)
                            case atStart => exact ⟨0, l', e, ok, Nat.zero_le _, rfl, rfl, R8, HS0, HB8, hl8, hG8⟩
                            case round =>
                              clear HS0 hl8 hG8 HB8 R8 hi hlt ht
                              obtain ⟨i, l', e, ok, hi, rfl, rfl, R, HS, HB, hl, hG⟩ := hrel
                              by_cases hlt : i < ls.length
                              · have ht : (i : Int) < (ls.length : Int) := by omega
                                have ht0 : (0 : Int) ≤ (i : Int) := by omega
                                have hes : IntKind.i64.wrap ((i : Int) + 1) = (i : Int) + 1 := by rw [IntKind.wrap_i64]; omega
                                obtain ⟨b, off, Ai, x, ci, rfl, hxl, hxb, hxi, HD, hcx⟩ : ∃ b off Ai x ci, C = some ⟨b, off, none⟩ ∧ x.length ≤ 50 ∧ Hid (∀ n ∈ x, -9223372036854775808 ≤ n ∧ n ≤ 9223372036854775807) ∧ Hid (Has w w.heap.size Ai (is x)) ∧
                                    Hid (il ((ls.map (·.2.1)).drop i) = (enc x.length ++ encs x) ++ il ((ls.map (·.2.1)).drop (i + 1))) ∧ Hid (∀ W : World, V.grownBy W none → W.cell? ⟨b, off + i, none⟩ = some (.slice Ai x.length ci)) := by
                                  have hx : (ls.map rowCell)[i]? = some (rowCell ls[i]) := by simp [hlt]
                                  rcases HC0.out with h0 | ⟨b, off, hA, hb, hc⟩
                                  · rw [h0] at hx; cases hx
                                  · have hm := List.getElem_mem hlt
                                    refine ⟨b, off, ls[i].1, ls[i].2.1, ls[i].2.2, hA, (HLB.out _ hm).1, (HLB.out _ hm).2.1, (HLB.out _ hm).2.2, ?_, fun W hW => (World.cell?_of_block ((only_step hVg hW (fun _ h => by cases h)).block b hb (by simp))).trans (hc i _ hx)⟩
                                    have h := flat_drop (fun l => enc l.length ++ encs l) (ls.map (·.2.1)) i (by simpa using hlt)
                                    unfold Hid; simpa [il] using h
                                have HS' : Hid (St 0 (enc x.length ++ encs x ++ il ((ls.map (·.2.1)).drop (i + 1))) l' e ok) := by
                                  have h := HS.out; rw [HD.out] at h; exact h
                                obtain ⟨v, l2, e2, HC, hvm, hS2, hb2, hl2⟩ := back_ints g x _ l' e ok 0 (by omega) hxb.out HS'.out (by omega) HB.out
                                have HS2 := Lib.hid hS2
                                have HB2 := Lib.hid hb2
                                have hcx1 : wr.drew.cell? ⟨b, off + i, none⟩ = some (.slice Ai x.length ci) := hcx.out _ (only_drew hG)
                                have hG7 : V.grownBy wr.drew none := only_drew hG
                                have R7 : Hid (Rdr wr.drew g l' e) := R
                                have HVM := Lib.hid hvm
                                clear hS2 hb2 HD HS HS' R hvm
                                have hdb : ∃ d : Bool, Hid (d = decide (v = x)) := ⟨_, rfl⟩
                                obtain ⟨d, HDb⟩ := hdb
                                have HS3 : Hid (St 0 (il ((ls.map (·.2.1)).drop (i + 1))) l2 e2 (d && ok)) := by have h := HS2.out; rw [← HDb.out] at h; exact h
                                clear HS2
                                have HCM : ∀ (W W1 : World) (A1 : Option Addr) (c1 : Nat), Has W1 W1.heap.size A1 (is v) → W1.grownBy W none → V.grownBy W none → Hid (Calls Try.prog 26 #[.slice A1 v.length c1, .slice Ai x.length ci] W fun e w' => e = .returned (.bool d) ∧ W.grownBy w' none) := fun W W1 A1 c1 h1 h2 h3 => by
                                  have h := ints_cmp A1 Ai c1 ci W1.heap.size w.heap.size v x W (h1.only h2 (Nat.le_refl _) (fun _ h => by cases h)) (hxi.out.only (only_step hVg h3 (fun _ h => by cases h)) (Nat.le_refl _) (fun _ h => by cases h)) h2.size (only_step hVg h3 (fun _ h => by cases h)).size HVM.out (by unfold maxLen; omega)
                                  rw [← HDb.out] at h
                                  exact h
                                cases d
                                · go_wp2_with fail
                                  refine wp_region_held_drew (S := fun V => V.cell? ⟨b, off + i, none⟩ = some (.slice Ai x.length ci)) (by kernel_rfl) hcx1 (fun hHeld => ?_)
                                  refine wpAnyH_take (i := 0) (oi := { dst := some 146, op := Op.move (Operand.tmp 13), type := 29, pos := "law.go:125", after := #[], guard := none }) (v := ?_) rfl (by kernel_rfl) (by kernel_rfl) (by kernel_rfl) (fun _ _ _ h => h) (Or.inl ⟨by rfl, ?_⟩) hHeld ?_
                                  rotate_left
                                  · (intro W hSw; (try dsimp only at hSw); go_simp; try with_reducible rfl)
                                  try simp only [Act.put, List.setIfInBounds_toArray, List.set_cons_zero, List.set_cons_succ]
                                  refine wpAnyH_take (i := 2) (oi := { dst := some 148, op := Op.move (Operand.tmp 2), type := 44, pos := "law.go:125", after := #[], guard := none }) (v := ?_) rfl (by kernel_rfl) (by kernel_rfl) (by kernel_rfl) (fun _ _ _ h => h) (Or.inl ⟨by rfl, ?_⟩) hHeld ?_
                                  rotate_left
                                  · (intro W hSw; (try dsimp only at hSw); go_simp; try with_reducible rfl)
                                  try simp only [Act.put, List.setIfInBounds_toArray, List.set_cons_zero, List.set_cons_succ]
                                  refine wpAnyH_take (i := 3) (oi := { dst := some 149, op := Op.move (Operand.tmp 17), type := 3, pos := "law.go:125", after := #[], guard := none }) (v := ?_) rfl (by kernel_rfl) (by kernel_rfl) (by kernel_rfl) (fun _ _ _ h => h) (Or.inl ⟨by rfl, ?_⟩) hHeld ?_
                                  rotate_left
                                  · (intro W hSw; (try dsimp only at hSw); go_simp; try with_reducible rfl)
                                  try simp only [Act.put, List.setIfInBounds_toArray, List.set_cons_zero, List.set_cons_succ]
                                  refine wpAnyH_take (i := 4) (oi := { dst := some 150, op := Op.indexAddr 44 (Operand.tmp 148) (Operand.tmp 149), type := 0, pos := "law.go:125", after := #[{ on := 2, ground := Ground.data }, { on := 3, ground := Ground.data }], guard := none }) (v := ?_) rfl (by kernel_rfl) (by kernel_rfl) (by kernel_rfl) (fun _ _ _ h => h) (Or.inl ⟨by rfl, ?_⟩) hHeld ?_
                                  rotate_left
                                  · (intro W hSw; (try dsimp only at hSw); go_simp; try with_reducible rfl)
                                  try simp only [Act.put, List.setIfInBounds_toArray, List.set_cons_zero, List.set_cons_succ]
                                  refine wpAnyH_take (i := 5) (oi := { dst := some 151, op := Op.load 23 (Operand.tmp 150), type := 23, pos := "law.go:125", after := #[{ on := 4, ground := Ground.data }], guard := none }) (v := ?_) rfl (by kernel_rfl) (by kernel_rfl) (by kernel_rfl) (fun _ _ _ h => h) (Or.inl ⟨by rfl, ?_⟩) hHeld ?_
                                  rotate_left
                                  · (intro W hSw; (try dsimp only at hSw); go_simp; try with_reducible rfl)
                                  try simp only [Act.put, List.setIfInBounds_toArray, List.set_cons_zero, List.set_cons_succ]
                                  refine wpAnyH_ready (rs := [1]) (by kernel_rfl) (by simp) ?_
                                  refine AllReadyH.cons (o := { dst := some 147, op := Op.call { callee := Callee.value (Operand.func 27), args := #[Operand.tmp 146], argTypes := #[29] }, type := 23, pos := "law.go:125", after := #[{ on := 0, ground := Ground.data }], guard := none }) rfl (fun K hK => ?_) AllReadyH.nil
                                  go_simp
                                  go_at_call 27
                                  refine (HC _ R7.out).out.mono ?_
                                  rintro _ wa ⟨⟨A1, c1, rfl, ha1⟩, Ra, ga⟩
                                  dsimp only
                                  have hGa : V.grownBy wa none := only_step hG7 ga (fun q hq => by cases hq; exact .inr hwg)
                                  have hca : wa.cell? ⟨b, off + i, none⟩ = some (.slice Ai x.length ci) := hcx.out _ hGa
                                  refine hK.out _ _ hca (fun hHeld2 => ?_)
                                  clear hK K
                                  try simp only [Act.put, List.setIfInBounds_toArray, List.set_cons_zero, List.set_cons_succ]
                                  refine wpAnyH_ready (rs := [6]) (by kernel_rfl) (by simp) ?_
                                  refine AllReadyH.cons (o := { dst := some 152, op := Op.call { callee := Callee.value (Operand.func 26), args := #[Operand.tmp 147, Operand.tmp 151], argTypes := #[23, 23] }, type := 4, pos := "law.go:125", after := #[{ on := 1, ground := Ground.data }, { on := 5, ground := Ground.data }, { on := 1, ground := Ground.chain }], guard := none }) rfl (fun K hK => ?_) AllReadyH.nil
                                  go_simp
                                  go_at_call 26
                                  refine (HCM _ wa A1 c1 ha1 (only_refl _ _) hGa).out.mono ?_
                                  rintro _ wb ⟨rfl, gb⟩
                                  dsimp only
                                  have hGb : V.grownBy wb none := only_step hGa gb (fun _ h => by cases h)
                                  have Rb := Ra.only gb (fun _ h => by cases h)
                                  have hcb : wb.cell? ⟨b, off + i, none⟩ = some (.slice Ai x.length ci) := hcx.out _ hGb
                                  refine hK.out _ _ hcb (fun hHeld3 => ?_)
                                  clear hK K
                                  try simp only [Act.put, List.setIfInBounds_toArray, List.set_cons_zero, List.set_cons_succ]
                                  refine wpAnyH_take (i := 7) (oi := { dst := some 153, op := Op.move (Operand.tmp 152), type := 4, pos := "law.go:125", after := #[{ on := 6, ground := Ground.data }, { on := 6, ground := Ground.chain }], guard := none }) (v := ?_) rfl (by kernel_rfl) (by kernel_rfl) (by kernel_rfl) (fun _ _ _ h => h) (Or.inl ⟨by rfl, ?_⟩) hHeld3 ?_
                                  rotate_left
                                  · (intro W hSw; (try dsimp only at hSw); go_simp; try with_reducible rfl)
                                  try simp only [Act.put, List.setIfInBounds_toArray, List.set_cons_zero, List.set_cons_succ]
                                  refine wpAnyH_take (i := 8) (oi := { dst := some 154, op := Op.move (Operand.tmp 14), type := 4, pos := "law.go:125", after := #[{ on := 7, ground := Ground.guard }], guard := some (7, true) }) (v := undef) rfl (by kernel_rfl) (by kernel_rfl) (by kernel_rfl) (fun _ _ _ h => h) (Or.inr ⟨by rfl, rfl⟩) hHeld3 ?_
                                  try simp only [Act.put, List.setIfInBounds_toArray, List.set_cons_zero, List.set_cons_succ]
                                  refine wpAnyH_take (i := 9) (oi := { dst := some 155, op := Op.pick (Operand.tmp 153) (Operand.tmp 154) (Operand.const (Value.bool false)), type := 4, pos := "law.go:125", after := #[{ on := 7, ground := Ground.data }, { on := 8, ground := Ground.data }], guard := none }) (v := ?_) rfl (by kernel_rfl) (by kernel_rfl) (by kernel_rfl) (fun _ _ _ h => h) (Or.inl ⟨by rfl, ?_⟩) hHeld3 ?_
                                  rotate_left
                                  · (intro W hSw; (try dsimp only at hSw); go_simp; try with_reducible rfl)
                                  try simp only [Act.put, List.setIfInBounds_toArray, List.set_cons_zero, List.set_cons_succ]
                                  refine wpAnyH_take (i := 10) (oi := { dst := some 14, op := Op.assign (Operand.tmp 155), type := 4, pos := "law.go:125", after := #[{ on := 9, ground := Ground.data }, { on := 7, ground := Ground.chain }, { on := 0, ground := Ground.phase }, { on := 1, ground := Ground.phase }, { on := 2, ground := Ground.phase }, { on := 3, ground := Ground.phase }, { on := 4, ground := Ground.phase }, { on := 5, ground := Ground.phase }, { on := 6, ground := Ground.phase }, { on := 7, ground := Ground.phase }, { on := 8, ground := Ground.phase }, { on := 9, ground := Ground.phase }], guard := none }) (v := ?_) rfl (by kernel_rfl) (by kernel_rfl) (by kernel_rfl) (fun _ _ _ h => h) (Or.inl ⟨by rfl, ?_⟩) hHeld3 ?_
                                  rotate_left
                                  · (intro W hSw; (try dsimp only at hSw); go_simp; try with_reducible rfl)
                                  try simp only [Act.put, List.setIfInBounds_toArray, List.set_cons_zero, List.set_cons_succ]
                                  refine wpAnyH_done (by kernel_rfl) ?_ _
                                  go_wp2_with fail
                                  go_roundw
                                  case rel => exact ⟨i + 1, l2, e2, false, by omega, by go_num, rfl, Rb, HS3, HB2, by omega, hGb⟩
                                  case measure => simp [intOf]; omega
                                · have HS4 : Hid (St 0 (il ((ls.map (·.2.1)).drop (i + 1))) l2 e2 ok) := by have h := HS3.out; unfold Hid; simpa using h
                                  go_wp2_with fail
                                  go_region_held3 (fun V => V.cell? ⟨b, off + i, none⟩ = some (.slice Ai x.length ci)) (first | assumption) ((first
                                    | (go_at_call 27; refine (HC _ R7.out).out.mono ?_; rintro e wa ⟨⟨A1, c1, rfl, ha1⟩, Ra, ga⟩; have hGa : V.grownBy wa none := only_step hG7 ga (fun q hq => by cases hq; exact .inr hwg); have hca : wa.cell? ⟨b, off + i, none⟩ = some (.slice Ai x.length ci) := hcx.out _ hGa)
                                    | (go_at_call 26; refine (HCM _ wa A1 c1 ha1 (only_refl _ _) hGa).out.mono ?_; rintro e wb ⟨rfl, gb⟩; have hGb : V.grownBy wb none := only_step hGa gb (fun _ h => by cases h); have Rb := Ra.only gb (fun _ h => by cases h); have hcb : wb.cell? ⟨b, off + i, none⟩ = some (.slice Ai x.length ci) := hcx.out _ hGb)))
                                  go_wp2_with fail
                                  go_roundw
                                  case rel => exact ⟨i + 1, l2, e2, ok, by omega, by go_num, rfl, Rb, HS4, HB2, by omega, hGb⟩
                                  case measure => simp [intOf]; omega
                              · have ht : ¬ (i : Int) < (ls.length : Int) := by omega
                                have HS9 : Hid (St 0 [] l' e ok) := by
                                  have h := HS.out; rw [List.drop_of_length_le (by simp; omega)] at h; exact h
                                clear HS
                                obtain ⟨he, hle, hok⟩ : e = 0 ∧ l' = [] ∧ ok = true := by
                                  rcases HS9.out with h | h | h | h
                                  · exact h.2
                                  · exact absurd h.1 (by decide)
                                  · exact absurd h.1 (by decide)
                                  · exact absurd h (by decide)
                                subst he; subst hle; subst hok
                                have hend : endOf [] 0 = 0 := rfl
                                have HE := end_any g [] 0 wr R (by simp)
                                rw [hend] at HE
                                clear hend HS9
                                go_wp2_with fail
                                refine HE.mono ?_
                                rintro _ w7 ⟨rfl, rfl⟩
                                go_wp2_with fail
                                go_roundw
                                case rel => exact ⟨1, by omega, rfl, hG⟩
                                case measure => simp [intOf]
                · have ho0 : Hid ((wr.alloc (.cells #[] 5)).ownsRow wr.heap.size 5 1 (.slice (some ⟨wr.heap.size, 0, none⟩) 0 0) ([] : List Value).length []) := own_lit0 wr
                  have ga : V.grownBy (wr.alloc (.cells #[] 5)) none := only_alloc g00 _
                  have hsrc : Hid (Src Try.prog 1 22 (.slice A7 E.length c7) (bs E).length (bs E) (wr.alloc (.cells #[] 5))) := by
                    have := (HXB.out.keep (w' := wr.alloc (.cells #[] 5)) (fun p hp => World.cell?_alloc_lt _ _ _ hp)).src (P := Try.prog) (tx := 22) Try.underlying22 c7 (bs_one _)
                    rw [bs_len] at this ⊢
                    exact this
                  have hab : bs E ++ [Value.int .u8 7] = bs (E ++ [7]) := by simp [bs]
                  have HAB := Lib.hid hab
                  clear hab
                  go_wp2_with (first
                    | (at_builtin; (refine app_bytes rfl _ _ 22 rfl wr.heap.size (.slice (some ⟨wr.heap.size, 0, none⟩) 0 0) [] rfl ho0.out (.slice A7 E.length c7) (bs E) rfl hsrc.out (by rw [bs_len]; simp only [List.length_nil]; omega) (by simp) ?_); intro v0 w2 g2; have gb : V.grownBy w2 none := only_step ga g2.only (fun k hk => by cases hk; exact .inr hz00); have O2 := g2.own; have hzb : wr.heap.size ≤ w2.heap.size := (by have := g2.only.size; simp at this; omega))
                    | (at_builtin; (refine app_bytes rfl _ _ 22 rfl wr.heap.size v0 (bs E) rfl ((by rw [List.nil_append] at O2; exact O2 : w2.ownsRow wr.heap.size 5 1 v0 (bs E).length (bs E)).alloc _) (.slice (some ⟨w2.heap.size, 0, none⟩) 1 1) [.int .u8 7] rfl (src_one 22 5 Try.underlying22 _ _ rfl) (by rw [bs_len]; simp only [List.length_singleton]; omega) (by simp; omega) ?_); intro v4 w4 g4; obtain ⟨lx, hlx0⟩ : ∃ lx, lx = E ++ [7] := ⟨_, rfl⟩; have O4 := g4.own; rw [HAB.out, ← hlx0, bs_len] at O4; have HLX := Lib.hid hlx0; have g02 : V.grownBy w4 none := only_step (only_alloc gb _) g4.only (fun k hk => (by have h2 := own_at O2; rcases h2 with h2 | ⟨q, h2, hq⟩ <;> rw [h2] at hk <;> first | (cases hk; done) | (cases hk; right; omega))); obtain ⟨A4, c4, rfl⟩ := own_slice O4; clear hlx0 g4 g2))
                  have HX : Hid (Has w4 w4.heap.size A4 (bs lx)) := Has.own O4
                  have HBx : Hid (bytesOk lx) := by rw [HLX.out]; exact app_bytesOk HBE.out (fun x hx => by simp at hx; omega)
                  have hlx : lx.length ≤ 8000 := by rw [HLX.out, List.length_append]; simp; omega
                  have HS0 : Hid (St 1 (encs (ns.drop 0) ++ (tx ss ++ il (ls.map (·.2.1)))) lx 0 true) := .inr (.inl ⟨rfl, rfl, by rw [HLX.out, HEq.out]; rfl, rfl⟩)
                  clear O4 O2 HXB g00 ga gb hsrc ho0 HAB
                  as_aux_lemma =>
                    refine (new_any _ _ _ _ HX.out (by omega)).mono ?_
                    rintro _ w3 ⟨g, rfl, R, hg, g3⟩
                    have g03 : V.grownBy w3 none := only_step g02 g3 (fun _ h => by cases h)
                    have hz3 := g03.size
                    have hz02 := g02.size
                    have hwg : V.heap.size ≤ g := by omega
                    clear HX g3 g02
                    go_wp2_with fail
                    go_loopw [14, 15] (fun sok si wr => ∃ (i : Nat) (l' : List Int) (e : Int) (ok : Bool), i ≤ ns.length ∧ si = .int .i64 i ∧ sok = .bool ok ∧ Rdr wr g l' e ∧ Hid (St 1 (encs (ns.drop i) ++ (tx ss ++ il (ls.map (·.2.1)))) l' e ok) ∧ Hid (bytesOk l') ∧ l'.length ≤ 8000 ∧ V.grownBy wr none)
                      (fun _ si _ => ns.length - (intOf si).toNat)
                    case atStart => exact ⟨0, _, 0, true, Nat.zero_le _, rfl, rfl, R, HS0, HBx, hlx, g03⟩
                    case round =>
                      obtain ⟨i, l', e, ok, hi, rfl, rfl, R, HS, HB, hl, hG⟩ := hrel
                      clear HS0 HBx hlx g03
                      by_cases hlt : i < ns.length
                      · have ht : (i : Int) < (ns.length : Int) := by omega
                        have ht0 : (0 : Int) ≤ (i : Int) := by omega
                        have hes : IntKind.i64.wrap ((i : Int) + 1) = (i : Int) + 1 := by rw [IntKind.wrap_i64]; omega
                        obtain ⟨b, off, x, rfl, hxb, HD, hcx⟩ : ∃ b off x, A = some ⟨b, off, none⟩ ∧ (-9223372036854775808 ≤ x ∧ x ≤ 9223372036854775807) ∧ Hid (encs (ns.drop i) = enc x ++ encs (ns.drop (i + 1))) ∧ Hid (∀ W : World, V.grownBy W none → W.cell? ⟨b, off + i, none⟩ = some (.int .i64 x)) := by
                          have hx : (is ns)[i]? = some (.int .i64 ns[i]) := by simp [is, hlt]
                          rcases HA.out with h0 | ⟨b, off, hA, hb, hc⟩
                          · rw [h0] at hx; cases hx
                          · exact ⟨b, off, ns[i], hA, HNB.out _ (List.getElem_mem hlt), encs_drop ns i hlt, fun W hW => (World.cell?_of_block ((only_step hVg hW (fun _ h => by cases h)).block b hb (by simp))).trans (hc i _ hx)⟩
                        have HS' : Hid (St 1 (enc x ++ (encs (ns.drop (i + 1)) ++ (tx ss ++ il (ls.map (·.2.1))))) l' e ok) := by
                          have h := HS.out; rw [HD.out, List.append_assoc] at h; exact h
                        obtain ⟨v, l2, e2, HC, hS2, hb2, hl2⟩ := back_int g x _ l' e ok 1 hxb.1 hxb.2 HS'.out (by omega) HB.out
                        have HS2 := Lib.hid hS2
                        have HB2 := Lib.hid hb2
                        have hcx1 : wr.drew.cell? ⟨b, off + i, none⟩ = some (.int .i64 x) := hcx.out _ (only_drew hG)
                        have hG7 : V.grownBy wr.drew none := only_drew hG
                        have R7 : Hid (Rdr wr.drew g l' e) := R
                        clear hS2 hb2 HD HS HS' R
                        by_cases hv : v = x
                        · subst hv
                          have HS3 : Hid (St 1 (encs (ns.drop (i + 1)) ++ (tx ss ++ il (ls.map (·.2.1)))) l2 e2 ok) := by have h := HS2.out; unfold Hid; simpa using h
                          clear HS2
                          go_wp2_with fail
                          go_region_held3 (fun V => V.cell? ⟨b, off + i, none⟩ = some (.int .i64 v)) (first | assumption) ((first
                            | (go_at_call 22; refine (HC _ R7.out).out.mono ?_; rintro e wa ⟨rfl, Ra, ga⟩; have hGa : V.grownBy wa none := only_step hG7 ga (fun q hq => by cases hq; exact .inr hwg); have hca : wa.cell? ⟨b, off + i, none⟩ = some (.int .i64 v) := hcx.out _ hGa)))
                          go_wp2_with fail
                          go_roundw
                          case rel => exact ⟨i + 1, l2, e2, ok, by omega, by go_num, rfl, Ra, HS3, HB2, by omega, hGa⟩
                          case measure => simp [intOf]; omega
                        · have HS3 : Hid (St 1 (encs (ns.drop (i + 1)) ++ (tx ss ++ il (ls.map (·.2.1)))) l2 e2 false) := by have h := HS2.out; unfold Hid; simpa [hv] using h
                          have hvb : (v == x) = false := by rw [beq_eq_false_iff_ne]; exact hv
                          clear HS2
                          go_wp2_with fail
                          refine wp_region_held_drew (S := fun V => V.cell? ⟨b, off + i, none⟩ = some (.int .i64 x)) (by kernel_rfl) hcx1 (fun hHeld => ?_)
                          refine wpAnyH_take (i := 0) (oi := { dst := some 114, op := Op.move (Operand.tmp 13), type := 29, pos := "law.go:119", after := #[], guard := none }) (v := ?_) rfl (by kernel_rfl) (by kernel_rfl) (by kernel_rfl) (fun _ _ _ h => h) (Or.inl ⟨by rfl, ?_⟩) hHeld ?_
                          rotate_left
                          · (intro W hSw; (try dsimp only at hSw); go_simp; try with_reducible rfl)
                          try simp only [Act.put, List.setIfInBounds_toArray, List.set_cons_zero, List.set_cons_succ]
                          refine wpAnyH_take (i := 2) (oi := { dst := some 116, op := Op.move (Operand.tmp 0), type := 23, pos := "law.go:119", after := #[], guard := none }) (v := ?_) rfl (by kernel_rfl) (by kernel_rfl) (by kernel_rfl) (fun _ _ _ h => h) (Or.inl ⟨by rfl, ?_⟩) hHeld ?_
                          rotate_left
                          · (intro W hSw; (try dsimp only at hSw); go_simp; try with_reducible rfl)
                          try simp only [Act.put, List.setIfInBounds_toArray, List.set_cons_zero, List.set_cons_succ]
                          refine wpAnyH_take (i := 3) (oi := { dst := some 117, op := Op.move (Operand.tmp 15), type := 3, pos := "law.go:119", after := #[], guard := none }) (v := ?_) rfl (by kernel_rfl) (by kernel_rfl) (by kernel_rfl) (fun _ _ _ h => h) (Or.inl ⟨by rfl, ?_⟩) hHeld ?_
                          rotate_left
                          · (intro W hSw; (try dsimp only at hSw); go_simp; try with_reducible rfl)
                          try simp only [Act.put, List.setIfInBounds_toArray, List.set_cons_zero, List.set_cons_succ]
                          refine wpAnyH_take (i := 4) (oi := { dst := some 118, op := Op.indexAddr 23 (Operand.tmp 116) (Operand.tmp 117), type := 0, pos := "law.go:119", after := #[{ on := 2, ground := Ground.data }, { on := 3, ground := Ground.data }], guard := none }) (v := ?_) rfl (by kernel_rfl) (by kernel_rfl) (by kernel_rfl) (fun _ _ _ h => h) (Or.inl ⟨by rfl, ?_⟩) hHeld ?_
                          rotate_left
                          · (intro W hSw; (try dsimp only at hSw); go_simp; try with_reducible rfl)
                          try simp only [Act.put, List.setIfInBounds_toArray, List.set_cons_zero, List.set_cons_succ]
                          refine wpAnyH_take (i := 5) (oi := { dst := some 119, op := Op.load 3 (Operand.tmp 118), type := 3, pos := "law.go:119", after := #[{ on := 4, ground := Ground.data }], guard := none }) (v := ?_) rfl (by kernel_rfl) (by kernel_rfl) (by kernel_rfl) (fun _ _ _ h => h) (Or.inl ⟨by rfl, ?_⟩) hHeld ?_
                          rotate_left
                          · (intro W hSw; (try dsimp only at hSw); go_simp; try with_reducible rfl)
                          try simp only [Act.put, List.setIfInBounds_toArray, List.set_cons_zero, List.set_cons_succ]
                          refine wpAnyH_ready (rs := [1]) (by kernel_rfl) (by simp) ?_
                          refine AllReadyH.cons (o := { dst := some 115, op := Op.call { callee := Callee.value (Operand.func 22), args := #[Operand.tmp 114], argTypes := #[29] }, type := 3, pos := "law.go:119", after := #[{ on := 0, ground := Ground.data }], guard := none }) rfl (fun K hK => ?_) AllReadyH.nil
                          go_simp
                          go_at_call 22
                          refine (HC _ R7.out).out.mono ?_
                          rintro _ wa ⟨rfl, Ra, ga⟩
                          dsimp only
                          have hGa : V.grownBy wa none := only_step hG7 ga (fun q hq => by cases hq; exact .inr hwg)
                          have hca : wa.cell? ⟨b, off + i, none⟩ = some (.int .i64 x) := hcx.out _ hGa
                          refine hK.out _ _ hca (fun hHeld2 => ?_)
                          clear hK K
                          try simp only [Act.put, List.setIfInBounds_toArray, List.set_cons_zero, List.set_cons_succ]
                          refine wpAnyH_take (i := 6) (oi := { dst := some 120, op := Op.binOp BinOp.eql 3 (Operand.tmp 115) (Operand.tmp 119) 3, type := 4, pos := "law.go:119", after := #[{ on := 1, ground := Ground.data }, { on := 5, ground := Ground.data }], guard := none }) (v := .bool false) rfl (by kernel_rfl) (by kernel_rfl) (by kernel_rfl) (fun _ _ _ h => h) (Or.inl ⟨by rfl, ?_⟩) hHeld2 ?_
                          · (intro W hSw; (try dsimp only at hSw); go_simp; try with_reducible rfl)
                          try simp only [Act.put, List.setIfInBounds_toArray, List.set_cons_zero, List.set_cons_succ]
                          refine wpAnyH_take (i := 7) (oi := { dst := some 121, op := Op.move (Operand.tmp 120), type := 4, pos := "law.go:119", after := #[{ on := 6, ground := Ground.data }, { on := 1, ground := Ground.chain }], guard := none }) (v := ?_) rfl (by kernel_rfl) (by kernel_rfl) (by kernel_rfl) (fun _ _ _ h => h) (Or.inl ⟨by rfl, ?_⟩) hHeld2 ?_
                          rotate_left
                          · (intro W hSw; (try dsimp only at hSw); go_simp; try with_reducible rfl)
                          try simp only [Act.put, List.setIfInBounds_toArray, List.set_cons_zero, List.set_cons_succ]
                          refine wpAnyH_take (i := 8) (oi := { dst := some 122, op := Op.move (Operand.tmp 14), type := 4, pos := "law.go:119", after := #[{ on := 7, ground := Ground.guard }], guard := some (7, true) }) (v := undef) rfl (by kernel_rfl) (by kernel_rfl) (by kernel_rfl) (fun _ _ _ h => h) (Or.inr ⟨by rfl, rfl⟩) hHeld2 ?_
                          try simp only [Act.put, List.setIfInBounds_toArray, List.set_cons_zero, List.set_cons_succ]
                          refine wpAnyH_take (i := 9) (oi := { dst := some 123, op := Op.pick (Operand.tmp 121) (Operand.tmp 122) (Operand.const (Value.bool false)), type := 4, pos := "law.go:119", after := #[{ on := 7, ground := Ground.data }, { on := 8, ground := Ground.data }], guard := none }) (v := ?_) rfl (by kernel_rfl) (by kernel_rfl) (by kernel_rfl) (fun _ _ _ h => h) (Or.inl ⟨by rfl, ?_⟩) hHeld2 ?_
                          rotate_left
                          · (intro W hSw; (try dsimp only at hSw); go_simp; try with_reducible rfl)
                          try simp only [Act.put, List.setIfInBounds_toArray, List.set_cons_zero, List.set_cons_succ]
                          refine wpAnyH_take (i := 10) (oi := { dst := some 14, op := Op.assign (Operand.tmp 123), type := 4, pos := "law.go:119", after := #[{ on := 9, ground := Ground.data }, { on := 7, ground := Ground.chain }, { on := 0, ground := Ground.phase }, { on := 1, ground := Ground.phase }, { on := 2, ground := Ground.phase }, { on := 3, ground := Ground.phase }, { on := 4, ground := Ground.phase }, { on := 5, ground := Ground.phase }, { on := 6, ground := Ground.phase }, { on := 7, ground := Ground.phase }, { on := 8, ground := Ground.phase }, { on := 9, ground := Ground.phase }], guard := none }) (v := ?_) rfl (by kernel_rfl) (by kernel_rfl) (by kernel_rfl) (fun _ _ _ h => h) (Or.inl ⟨by rfl, ?_⟩) hHeld2 ?_
                          rotate_left
                          · (intro W hSw; (try dsimp only at hSw); go_simp; try with_reducible rfl)
                          try simp only [Act.put, List.setIfInBounds_toArray, List.set_cons_zero, List.set_cons_succ]
                          refine wpAnyH_done (by kernel_rfl) ?_ _
                          go_wp2_with fail
                          go_roundw
                          case rel => exact ⟨i + 1, l2, e2, false, by omega, by go_num, rfl, Ra, HS3, HB2, by omega, hGa⟩
                          case measure => simp [intOf]; omega
                      · have ht : ¬ (i : Int) < (ns.length : Int) := by omega
                        have HS0 : Hid (St 1 (tx (ss.drop 0) ++ il (ls.map (·.2.1))) l' e ok) := by
                          have h := HS.out; rw [List.drop_of_length_le (by omega)] at h; exact h
                        have hl8 := hl
                        have hG8 := hG
                        have HB8 := HB
                        have R8 := R
                        clear HS hl hG HB R
                        go_wp2_with fail
                        go_loopw [14, 16] (fun sok si wr => ∃ (i : Nat) (l' : List Int) (e : Int) (ok : Bool), i ≤ ss.length ∧ si = .int .i64 i ∧ sok = .bool ok ∧ Rdr wr g l' e ∧ Hid (St 1 (tx (ss.drop i) ++ il (ls.map (·.2.1))) l' e ok) ∧ Hid (bytesOk l') ∧ l'.length ≤ 8000 ∧ V.grownBy wr none)
                          (fun _ si _ => ss.length - (intOf si).toNat)
                        case atStart => exact ⟨0, l', e, ok, Nat.zero_le _, rfl, rfl, R8, HS0, HB8, hl8, hG8⟩
                        case round =>
                          clear HS0 hl8 hG8 HB8 R8 hi hlt ht
                          obtain ⟨i, l', e, ok, hi, rfl, rfl, R, HS, HB, hl, hG⟩ := hrel
                          by_cases hlt : i < ss.length
                          · have ht : (i : Int) < (ss.length : Int) := by omega
                            have ht0 : (0 : Int) ≤ (i : Int) := by omega
                            have hes : IntKind.i64.wrap ((i : Int) + 1) = (i : Int) + 1 := by rw [IntKind.wrap_i64]; omega
                            obtain ⟨b, off, x, rfl, hxb, HD, hcx⟩ : ∃ b off x, B = some ⟨b, off, none⟩ ∧ Hid (x.size ≤ 200) ∧ Hid (tx (ss.drop i) = (enc (sb x).length ++ sb x) ++ tx (ss.drop (i + 1))) ∧ Hid (∀ W : World, V.grownBy W none → W.cell? ⟨b, off + i, none⟩ = some (.string x)) := by
                              have hx : (ss.map Value.string)[i]? = some (.string ss[i]) := by simp [hlt]
                              rcases HBs.out with h0 | ⟨b, off, hA, hb, hc⟩
                              · rw [h0] at hx; cases hx
                              · exact ⟨b, off, ss[i], hA, HSZ.out _ (List.getElem_mem hlt), by unfold Hid tx; rw [sb_len]; exact flat_drop _ ss i hlt, fun W hW => (World.cell?_of_block ((only_step hVg hW (fun _ h => by cases h)).block b hb (by simp))).trans (hc i _ hx)⟩
                            have HS' : Hid (St 1 (enc (sb x).length ++ sb x ++ (tx (ss.drop (i + 1)) ++ il (ls.map (·.2.1)))) l' e ok) := by
                              have h := HS.out; rw [HD.out, List.append_assoc] at h; exact h
                            obtain ⟨v, l2, e2, HC, hS2, hb2, hl2⟩ := back_text g (sb x) _ l' e ok 1 (by rw [sb_len]; have := hxb.out; omega) (sb_bytes x) HS'.out (by omega) HB.out
                            rw [nums_sb] at hS2
                            have HS2 := Lib.hid hS2
                            have HB2 := Lib.hid hb2
                            have hcx1 : wr.drew.cell? ⟨b, off + i, none⟩ = some (.string x) := hcx.out _ (only_drew hG)
                            have hG7 : V.grownBy wr.drew none := only_drew hG
                            have R7 : Hid (Rdr wr.drew g l' e) := R
                            clear hS2 hb2 HD HS HS' R
                            by_cases hv : v = x
                            · subst hv
                              have HS3 : Hid (St 1 (tx (ss.drop (i + 1)) ++ il (ls.map (·.2.1))) l2 e2 ok) := by have h := HS2.out; unfold Hid; simpa using h
                              clear HS2
                              go_wp2_with fail
                              go_region_held3 (fun V => V.cell? ⟨b, off + i, none⟩ = some (.string v)) (first | assumption) ((first
                                | (go_at_call 24; refine (HC _ R7.out).out.mono ?_; rintro e wa ⟨rfl, Ra, ga⟩; have hGa : V.grownBy wa none := only_step hG7 ga (fun q hq => by cases hq; exact .inr hwg); have hca : wa.cell? ⟨b, off + i, none⟩ = some (.string v) := hcx.out _ hGa)))
                              go_wp2_with fail
                              go_roundw
                              case rel => exact ⟨i + 1, l2, e2, ok, by omega, by go_num, rfl, Ra, HS3, HB2, by omega, hGa⟩
                              case measure => simp [intOf]; omega
                            · have HS3 : Hid (St 1 (tx (ss.drop (i + 1)) ++ il (ls.map (·.2.1))) l2 e2 false) := by have h := HS2.out; unfold Hid; simpa [hv] using h
                              have hvb : (v.toList == x.toList) = false := str_ne hv
                              clear HS2
                              go_wp2_with fail
                              refine wp_region_held_drew (S := fun V => V.cell? ⟨b, off + i, none⟩ = some (.string x)) (by kernel_rfl) hcx1 (fun hHeld => ?_)
                              refine wpAnyH_take (i := 0) (oi := { dst := some 130, op := Op.move (Operand.tmp 13), type := 29, pos := "law.go:122", after := #[], guard := none }) (v := ?_) rfl (by kernel_rfl) (by kernel_rfl) (by kernel_rfl) (fun _ _ _ h => h) (Or.inl ⟨by rfl, ?_⟩) hHeld ?_
                              rotate_left
                              · (intro W hSw; (try dsimp only at hSw); go_simp; try with_reducible rfl)
                              try simp only [Act.put, List.setIfInBounds_toArray, List.set_cons_zero, List.set_cons_succ]
                              refine wpAnyH_take (i := 2) (oi := { dst := some 132, op := Op.move (Operand.tmp 1), type := 43, pos := "law.go:122", after := #[], guard := none }) (v := ?_) rfl (by kernel_rfl) (by kernel_rfl) (by kernel_rfl) (fun _ _ _ h => h) (Or.inl ⟨by rfl, ?_⟩) hHeld ?_
                              rotate_left
                              · (intro W hSw; (try dsimp only at hSw); go_simp; try with_reducible rfl)
                              try simp only [Act.put, List.setIfInBounds_toArray, List.set_cons_zero, List.set_cons_succ]
                              refine wpAnyH_take (i := 3) (oi := { dst := some 133, op := Op.move (Operand.tmp 16), type := 3, pos := "law.go:122", after := #[], guard := none }) (v := ?_) rfl (by kernel_rfl) (by kernel_rfl) (by kernel_rfl) (fun _ _ _ h => h) (Or.inl ⟨by rfl, ?_⟩) hHeld ?_
                              rotate_left
                              · (intro W hSw; (try dsimp only at hSw); go_simp; try with_reducible rfl)
                              try simp only [Act.put, List.setIfInBounds_toArray, List.set_cons_zero, List.set_cons_succ]
                              refine wpAnyH_take (i := 4) (oi := { dst := some 134, op := Op.indexAddr 43 (Operand.tmp 132) (Operand.tmp 133), type := 0, pos := "law.go:122", after := #[{ on := 2, ground := Ground.data }, { on := 3, ground := Ground.data }], guard := none }) (v := ?_) rfl (by kernel_rfl) (by kernel_rfl) (by kernel_rfl) (fun _ _ _ h => h) (Or.inl ⟨by rfl, ?_⟩) hHeld ?_
                              rotate_left
                              · (intro W hSw; (try dsimp only at hSw); go_simp; try with_reducible rfl)
                              try simp only [Act.put, List.setIfInBounds_toArray, List.set_cons_zero, List.set_cons_succ]
                              refine wpAnyH_take (i := 5) (oi := { dst := some 135, op := Op.load 9 (Operand.tmp 134), type := 9, pos := "law.go:122", after := #[{ on := 4, ground := Ground.data }], guard := none }) (v := ?_) rfl (by kernel_rfl) (by kernel_rfl) (by kernel_rfl) (fun _ _ _ h => h) (Or.inl ⟨by rfl, ?_⟩) hHeld ?_
                              rotate_left
                              · (intro W hSw; (try dsimp only at hSw); go_simp; try with_reducible rfl)
                              try simp only [Act.put, List.setIfInBounds_toArray, List.set_cons_zero, List.set_cons_succ]
                              refine wpAnyH_ready (rs := [1]) (by kernel_rfl) (by simp) ?_
                              refine AllReadyH.cons (o := { dst := some 131, op := Op.call { callee := Callee.value (Operand.func 24), args := #[Operand.tmp 130], argTypes := #[29] }, type := 9, pos := "law.go:122", after := #[{ on := 0, ground := Ground.data }], guard := none }) rfl (fun K hK => ?_) AllReadyH.nil
                              go_simp
                              go_at_call 24
                              refine (HC _ R7.out).out.mono ?_
                              rintro _ wa ⟨rfl, Ra, ga⟩
                              dsimp only
                              have hGa : V.grownBy wa none := only_step hG7 ga (fun q hq => by cases hq; exact .inr hwg)
                              have hca : wa.cell? ⟨b, off + i, none⟩ = some (.string x) := hcx.out _ hGa
                              refine hK.out _ _ hca (fun hHeld2 => ?_)
                              clear hK K
                              try simp only [Act.put, List.setIfInBounds_toArray, List.set_cons_zero, List.set_cons_succ]
                              refine wpAnyH_take (i := 6) (oi := { dst := some 136, op := Op.binOp BinOp.eql 9 (Operand.tmp 131) (Operand.tmp 135) 9, type := 4, pos := "law.go:122", after := #[{ on := 1, ground := Ground.data }, { on := 5, ground := Ground.data }], guard := none }) (v := .bool false) rfl (by kernel_rfl) (by kernel_rfl) (by kernel_rfl) (fun _ _ _ h => h) (Or.inl ⟨by rfl, ?_⟩) hHeld2 ?_
                              · (intro W hSw; (try dsimp only at hSw); go_simp; try with_reducible rfl)
                              try simp only [Act.put, List.setIfInBounds_toArray, List.set_cons_zero, List.set_cons_succ]
                              refine wpAnyH_take (i := 7) (oi := { dst := some 137, op := Op.move (Operand.tmp 136), type := 4, pos := "law.go:122", after := #[{ on := 6, ground := Ground.data }, { on := 1, ground := Ground.chain }], guard := none }) (v := ?_) rfl (by kernel_rfl) (by kernel_rfl) (by kernel_rfl) (fun _ _ _ h => h) (Or.inl ⟨by rfl, ?_⟩) hHeld2 ?_
                              rotate_left
                              · (intro W hSw; (try dsimp only at hSw); go_simp; try with_reducible rfl)
                              try simp only [Act.put, List.setIfInBounds_toArray, List.set_cons_zero, List.set_cons_succ]
                              refine wpAnyH_take (i := 8) (oi := { dst := some 138, op := Op.move (Operand.tmp 14), type := 4, pos := "law.go:122", after := #[{ on := 7, ground := Ground.guard }], guard := some (7, true) }) (v := undef) rfl (by kernel_rfl) (by kernel_rfl) (by kernel_rfl) (fun _ _ _ h => h) (Or.inr ⟨by rfl, rfl⟩) hHeld2 ?_
                              try simp only [Act.put, List.setIfInBounds_toArray, List.set_cons_zero, List.set_cons_succ]
                              refine wpAnyH_take (i := 9) (oi := { dst := some 139, op := Op.pick (Operand.tmp 137) (Operand.tmp 138) (Operand.const (Value.bool false)), type := 4, pos := "law.go:122", after := #[{ on := 7, ground := Ground.data }, { on := 8, ground := Ground.data }], guard := none }) (v := ?_) rfl (by kernel_rfl) (by kernel_rfl) (by kernel_rfl) (fun _ _ _ h => h) (Or.inl ⟨by rfl, ?_⟩) hHeld2 ?_
                              rotate_left
                              · (intro W hSw; (try dsimp only at hSw); go_simp; try with_reducible rfl)
                              try simp only [Act.put, List.setIfInBounds_toArray, List.set_cons_zero, List.set_cons_succ]
                              refine wpAnyH_take (i := 10) (oi := { dst := some 14, op := Op.assign (Operand.tmp 139), type := 4, pos := "law.go:122", after := #[{ on := 9, ground := Ground.data }, { on := 7, ground := Ground.chain }, { on := 0, ground := Ground.phase }, { on := 1, ground := Ground.phase }, { on := 2, ground := Ground.phase }, { on := 3, ground := Ground.phase }, { on := 4, ground := Ground.phase }, { on := 5, ground := Ground.phase }, { on := 6, ground := Ground.phase }, { on := 7, ground := Ground.phase }, { on := 8, ground := Ground.phase }, { on := 9, ground := Ground.phase }], guard := none }) (v := ?_) rfl (by kernel_rfl) (by kernel_rfl) (by kernel_rfl) (fun _ _ _ h => h) (Or.inl ⟨by rfl, ?_⟩) hHeld2 ?_
                              rotate_left
                              · (intro W hSw; (try dsimp only at hSw); go_simp; try with_reducible rfl)
                              try simp only [Act.put, List.setIfInBounds_toArray, List.set_cons_zero, List.set_cons_succ]
                              refine wpAnyH_done (by kernel_rfl) ?_ _
                              go_wp2_with fail
                              go_roundw
                              case rel => exact ⟨i + 1, l2, e2, false, by omega, by go_num, rfl, Ra, HS3, HB2, by omega, hGa⟩
                              case measure => simp [intOf]; omega
                          · have ht : ¬ (i : Int) < (ss.length : Int) := by omega
                            have HS0 : Hid (St 1 (il ((ls.map (·.2.1)).drop 0)) l' e ok) := by
                              have h := HS.out; rw [List.drop_of_length_le (by omega)] at h; exact h
                            have hl8 := hl
                            have hG8 := hG
                            have HB8 := HB
                            have R8 := R
                            clear HS hl hG HB R
                            go_wp2_with fail
                            go_loopw [14, 17] (fun sok si wr => ∃ (i : Nat) (l' : List Int) (e : Int) (ok : Bool), i ≤ ls.length ∧ si = .int .i64 i ∧ sok = .bool ok ∧ Rdr wr g l' e ∧ Hid (St 1 (il ((ls.map (·.2.1)).drop i)) l' e ok) ∧ Hid (bytesOk l') ∧ l'.length ≤ 8000 ∧ V.grownBy wr none)
                              (fun _ si _ => ls.length - (intOf si).toNat)
                            case atStart => exact ⟨0, l', e, ok, Nat.zero_le _, rfl, rfl, R8, HS0, HB8, hl8, hG8⟩
                            case round =>
                              clear HS0 hl8 hG8 HB8 R8 hi hlt ht
                              obtain ⟨i, l', e, ok, hi, rfl, rfl, R, HS, HB, hl, hG⟩ := hrel
                              by_cases hlt : i < ls.length
                              · have ht : (i : Int) < (ls.length : Int) := by omega
                                have ht0 : (0 : Int) ≤ (i : Int) := by omega
                                have hes : IntKind.i64.wrap ((i : Int) + 1) = (i : Int) + 1 := by rw [IntKind.wrap_i64]; omega
                                obtain ⟨b, off, Ai, x, ci, rfl, hxl, hxb, hxi, HD, hcx⟩ : ∃ b off Ai x ci, C = some ⟨b, off, none⟩ ∧ x.length ≤ 50 ∧ Hid (∀ n ∈ x, -9223372036854775808 ≤ n ∧ n ≤ 9223372036854775807) ∧ Hid (Has w w.heap.size Ai (is x)) ∧
                                    Hid (il ((ls.map (·.2.1)).drop i) = (enc x.length ++ encs x) ++ il ((ls.map (·.2.1)).drop (i + 1))) ∧ Hid (∀ W : World, V.grownBy W none → W.cell? ⟨b, off + i, none⟩ = some (.slice Ai x.length ci)) := by
                                  have hx : (ls.map rowCell)[i]? = some (rowCell ls[i]) := by simp [hlt]
                                  rcases HC0.out with h0 | ⟨b, off, hA, hb, hc⟩
                                  · rw [h0] at hx; cases hx
                                  · have hm := List.getElem_mem hlt
                                    refine ⟨b, off, ls[i].1, ls[i].2.1, ls[i].2.2, hA, (HLB.out _ hm).1, (HLB.out _ hm).2.1, (HLB.out _ hm).2.2, ?_, fun W hW => (World.cell?_of_block ((only_step hVg hW (fun _ h => by cases h)).block b hb (by simp))).trans (hc i _ hx)⟩
                                    have h := flat_drop (fun l => enc l.length ++ encs l) (ls.map (·.2.1)) i (by simpa using hlt)
                                    unfold Hid; simpa [il] using h
                                have HS' : Hid (St 1 (enc x.length ++ encs x ++ il ((ls.map (·.2.1)).drop (i + 1))) l' e ok) := by
                                  have h := HS.out; rw [HD.out] at h; exact h
                                obtain ⟨v, l2, e2, HC, hvm, hS2, hb2, hl2⟩ := back_ints g x _ l' e ok 1 (by omega) hxb.out HS'.out (by omega) HB.out
                                have HS2 := Lib.hid hS2
                                have HB2 := Lib.hid hb2
                                have hcx1 : wr.drew.cell? ⟨b, off + i, none⟩ = some (.slice Ai x.length ci) := hcx.out _ (only_drew hG)
                                have hG7 : V.grownBy wr.drew none := only_drew hG
                                have R7 : Hid (Rdr wr.drew g l' e) := R
                                have HVM := Lib.hid hvm
                                clear hS2 hb2 HD HS HS' R hvm
                                have hdb : ∃ d : Bool, Hid (d = decide (v = x)) := ⟨_, rfl⟩
                                obtain ⟨d, HDb⟩ := hdb
                                have HS3 : Hid (St 1 (il ((ls.map (·.2.1)).drop (i + 1))) l2 e2 (d && ok)) := by have h := HS2.out; rw [← HDb.out] at h; exact h
                                clear HS2
                                have HCM : ∀ (W W1 : World) (A1 : Option Addr) (c1 : Nat), Has W1 W1.heap.size A1 (is v) → W1.grownBy W none → V.grownBy W none → Hid (Calls Try.prog 26 #[.slice A1 v.length c1, .slice Ai x.length ci] W fun e w' => e = .returned (.bool d) ∧ W.grownBy w' none) := fun W W1 A1 c1 h1 h2 h3 => by
                                  have h := ints_cmp A1 Ai c1 ci W1.heap.size w.heap.size v x W (h1.only h2 (Nat.le_refl _) (fun _ h => by cases h)) (hxi.out.only (only_step hVg h3 (fun _ h => by cases h)) (Nat.le_refl _) (fun _ h => by cases h)) h2.size (only_step hVg h3 (fun _ h => by cases h)).size HVM.out (by unfold maxLen; omega)
                                  rw [← HDb.out] at h
                                  exact h
                                cases d
                                · go_wp2_with fail
                                  refine wp_region_held_drew (S := fun V => V.cell? ⟨b, off + i, none⟩ = some (.slice Ai x.length ci)) (by kernel_rfl) hcx1 (fun hHeld => ?_)
                                  refine wpAnyH_take (i := 0) (oi := { dst := some 146, op := Op.move (Operand.tmp 13), type := 29, pos := "law.go:125", after := #[], guard := none }) (v := ?_) rfl (by kernel_rfl) (by kernel_rfl) (by kernel_rfl) (fun _ _ _ h => h) (Or.inl ⟨by rfl, ?_⟩) hHeld ?_
                                  rotate_left
                                  · (intro W hSw; (try dsimp only at hSw); go_simp; try with_reducible rfl)
                                  try simp only [Act.put, List.setIfInBounds_toArray, List.set_cons_zero, List.set_cons_succ]
                                  refine wpAnyH_take (i := 2) (oi := { dst := some 148, op := Op.move (Operand.tmp 2), type := 44, pos := "law.go:125", after := #[], guard := none }) (v := ?_) rfl (by kernel_rfl) (by kernel_rfl) (by kernel_rfl) (fun _ _ _ h => h) (Or.inl ⟨by rfl, ?_⟩) hHeld ?_
                                  rotate_left
                                  · (intro W hSw; (try dsimp only at hSw); go_simp; try with_reducible rfl)
                                  try simp only [Act.put, List.setIfInBounds_toArray, List.set_cons_zero, List.set_cons_succ]
                                  refine wpAnyH_take (i := 3) (oi := { dst := some 149, op := Op.move (Operand.tmp 17), type := 3, pos := "law.go:125", after := #[], guard := none }) (v := ?_) rfl (by kernel_rfl) (by kernel_rfl) (by kernel_rfl) (fun _ _ _ h => h) (Or.inl ⟨by rfl, ?_⟩) hHeld ?_
                                  rotate_left
                                  · (intro W hSw; (try dsimp only at hSw); go_simp; try with_reducible rfl)
                                  try simp only [Act.put, List.setIfInBounds_toArray, List.set_cons_zero, List.set_cons_succ]
                                  refine wpAnyH_take (i := 4) (oi := { dst := some 150, op := Op.indexAddr 44 (Operand.tmp 148) (Operand.tmp 149), type := 0, pos := "law.go:125", after := #[{ on := 2, ground := Ground.data }, { on := 3, ground := Ground.data }], guard := none }) (v := ?_) rfl (by kernel_rfl) (by kernel_rfl) (by kernel_rfl) (fun _ _ _ h => h) (Or.inl ⟨by rfl, ?_⟩) hHeld ?_
                                  rotate_left
                                  · (intro W hSw; (try dsimp only at hSw); go_simp; try with_reducible rfl)
                                  try simp only [Act.put, List.setIfInBounds_toArray, List.set_cons_zero, List.set_cons_succ]
                                  refine wpAnyH_take (i := 5) (oi := { dst := some 151, op := Op.load 23 (Operand.tmp 150), type := 23, pos := "law.go:125", after := #[{ on := 4, ground := Ground.data }], guard := none }) (v := ?_) rfl (by kernel_rfl) (by kernel_rfl) (by kernel_rfl) (fun _ _ _ h => h) (Or.inl ⟨by rfl, ?_⟩) hHeld ?_
                                  rotate_left
                                  · (intro W hSw; (try dsimp only at hSw); go_simp; try with_reducible rfl)
                                  try simp only [Act.put, List.setIfInBounds_toArray, List.set_cons_zero, List.set_cons_succ]
                                  refine wpAnyH_ready (rs := [1]) (by kernel_rfl) (by simp) ?_
                                  refine AllReadyH.cons (o := { dst := some 147, op := Op.call { callee := Callee.value (Operand.func 27), args := #[Operand.tmp 146], argTypes := #[29] }, type := 23, pos := "law.go:125", after := #[{ on := 0, ground := Ground.data }], guard := none }) rfl (fun K hK => ?_) AllReadyH.nil
                                  go_simp
                                  go_at_call 27
                                  refine (HC _ R7.out).out.mono ?_
                                  rintro _ wa ⟨⟨A1, c1, rfl, ha1⟩, Ra, ga⟩
                                  dsimp only
                                  have hGa : V.grownBy wa none := only_step hG7 ga (fun q hq => by cases hq; exact .inr hwg)
                                  have hca : wa.cell? ⟨b, off + i, none⟩ = some (.slice Ai x.length ci) := hcx.out _ hGa
                                  refine hK.out _ _ hca (fun hHeld2 => ?_)
                                  clear hK K
                                  try simp only [Act.put, List.setIfInBounds_toArray, List.set_cons_zero, List.set_cons_succ]
                                  refine wpAnyH_ready (rs := [6]) (by kernel_rfl) (by simp) ?_
                                  refine AllReadyH.cons (o := { dst := some 152, op := Op.call { callee := Callee.value (Operand.func 26), args := #[Operand.tmp 147, Operand.tmp 151], argTypes := #[23, 23] }, type := 4, pos := "law.go:125", after := #[{ on := 1, ground := Ground.data }, { on := 5, ground := Ground.data }, { on := 1, ground := Ground.chain }], guard := none }) rfl (fun K hK => ?_) AllReadyH.nil
                                  go_simp
                                  go_at_call 26
                                  refine (HCM _ wa A1 c1 ha1 (only_refl _ _) hGa).out.mono ?_
                                  rintro _ wb ⟨rfl, gb⟩
                                  dsimp only
                                  have hGb : V.grownBy wb none := only_step hGa gb (fun _ h => by cases h)
                                  have Rb := Ra.only gb (fun _ h => by cases h)
                                  have hcb : wb.cell? ⟨b, off + i, none⟩ = some (.slice Ai x.length ci) := hcx.out _ hGb
                                  refine hK.out _ _ hcb (fun hHeld3 => ?_)
                                  clear hK K
                                  try simp only [Act.put, List.setIfInBounds_toArray, List.set_cons_zero, List.set_cons_succ]
                                  refine wpAnyH_take (i := 7) (oi := { dst := some 153, op := Op.move (Operand.tmp 152), type := 4, pos := "law.go:125", after := #[{ on := 6, ground := Ground.data }, { on := 6, ground := Ground.chain }], guard := none }) (v := ?_) rfl (by kernel_rfl) (by kernel_rfl) (by kernel_rfl) (fun _ _ _ h => h) (Or.inl ⟨by rfl, ?_⟩) hHeld3 ?_
                                  rotate_left
                                  · (intro W hSw; (try dsimp only at hSw); go_simp; try with_reducible rfl)
                                  try simp only [Act.put, List.setIfInBounds_toArray, List.set_cons_zero, List.set_cons_succ]
                                  refine wpAnyH_take (i := 8) (oi := { dst := some 154, op := Op.move (Operand.tmp 14), type := 4, pos := "law.go:125", after := #[{ on := 7, ground := Ground.guard }], guard := some (7, true) }) (v := undef) rfl (by kernel_rfl) (by kernel_rfl) (by kernel_rfl) (fun _ _ _ h => h) (Or.inr ⟨by rfl, rfl⟩) hHeld3 ?_
                                  try simp only [Act.put, List.setIfInBounds_toArray, List.set_cons_zero, List.set_cons_succ]
                                  refine wpAnyH_take (i := 9) (oi := { dst := some 155, op := Op.pick (Operand.tmp 153) (Operand.tmp 154) (Operand.const (Value.bool false)), type := 4, pos := "law.go:125", after := #[{ on := 7, ground := Ground.data }, { on := 8, ground := Ground.data }], guard := none }) (v := ?_) rfl (by kernel_rfl) (by kernel_rfl) (by kernel_rfl) (fun _ _ _ h => h) (Or.inl ⟨by rfl, ?_⟩) hHeld3 ?_
                                  rotate_left
                                  · (intro W hSw; (try dsimp only at hSw); go_simp; try with_reducible rfl)
                                  try simp only [Act.put, List.setIfInBounds_toArray, List.set_cons_zero, List.set_cons_succ]
                                  refine wpAnyH_take (i := 10) (oi := { dst := some 14, op := Op.assign (Operand.tmp 155), type := 4, pos := "law.go:125", after := #[{ on := 9, ground := Ground.data }, { on := 7, ground := Ground.chain }, { on := 0, ground := Ground.phase }, { on := 1, ground := Ground.phase }, { on := 2, ground := Ground.phase }, { on := 3, ground := Ground.phase }, { on := 4, ground := Ground.phase }, { on := 5, ground := Ground.phase }, { on := 6, ground := Ground.phase }, { on := 7, ground := Ground.phase }, { on := 8, ground := Ground.phase }, { on := 9, ground := Ground.phase }], guard := none }) (v := ?_) rfl (by kernel_rfl) (by kernel_rfl) (by kernel_rfl) (fun _ _ _ h => h) (Or.inl ⟨by rfl, ?_⟩) hHeld3 ?_
                                  rotate_left
                                  · (intro W hSw; (try dsimp only at hSw); go_simp; try with_reducible rfl)
                                  try simp only [Act.put, List.setIfInBounds_toArray, List.set_cons_zero, List.set_cons_succ]
                                  refine wpAnyH_done (by kernel_rfl) ?_ _
                                  go_wp2_with fail
                                  go_roundw
                                  case rel => exact ⟨i + 1, l2, e2, false, by omega, by go_num, rfl, Rb, HS3, HB2, by omega, hGb⟩
                                  case measure => simp [intOf]; omega
                                · have HS4 : Hid (St 1 (il ((ls.map (·.2.1)).drop (i + 1))) l2 e2 ok) := by have h := HS3.out; unfold Hid; simpa using h
                                  go_wp2_with fail
                                  go_region_held3 (fun V => V.cell? ⟨b, off + i, none⟩ = some (.slice Ai x.length ci)) (first | assumption) ((first
                                    | (go_at_call 27; refine (HC _ R7.out).out.mono ?_; rintro e wa ⟨⟨A1, c1, rfl, ha1⟩, Ra, ga⟩; have hGa : V.grownBy wa none := only_step hG7 ga (fun q hq => by cases hq; exact .inr hwg); have hca : wa.cell? ⟨b, off + i, none⟩ = some (.slice Ai x.length ci) := hcx.out _ hGa)
                                    | (go_at_call 26; refine (HCM _ wa A1 c1 ha1 (only_refl _ _) hGa).out.mono ?_; rintro e wb ⟨rfl, gb⟩; have hGb : V.grownBy wb none := only_step hGa gb (fun _ h => by cases h); have Rb := Ra.only gb (fun _ h => by cases h); have hcb : wb.cell? ⟨b, off + i, none⟩ = some (.slice Ai x.length ci) := hcx.out _ hGb)))
                                  go_wp2_with fail
                                  go_roundw
                                  case rel => exact ⟨i + 1, l2, e2, ok, by omega, by go_num, rfl, Rb, HS4, HB2, by omega, hGb⟩
                                  case measure => simp [intOf]; omega
                              · have ht : ¬ (i : Int) < (ls.length : Int) := by omega
                                have HS9 : Hid (St 1 [] l' e ok) := by
                                  have h := HS.out; rw [List.drop_of_length_le (by simp; omega)] at h; exact h
                                clear HS
                                obtain ⟨he, hle, hok⟩ : e = 0 ∧ l' = [7] ∧ ok = true := by
                                  rcases HS9.out with h | h | h | h
                                  · exact absurd h.1 (by decide)
                                  · exact ⟨h.2.1, h.2.2.1, h.2.2.2⟩
                                  · exact absurd h.1 (by decide)
                                  · exact absurd h (by decide)
                                subst he; subst hle; subst hok
                                have hend : endOf [7] 0 = 9 := rfl
                                have HE := end_any g [7] 0 wr R (by simp)
                                rw [hend] at HE
                                clear hend HS9
                                go_wp2_with fail
                                refine HE.mono ?_
                                rintro _ w7 ⟨rfl, rfl⟩
                                go_wp2_with fail
                                go_roundw
                                case rel => exact ⟨2, by omega, rfl, hG⟩
                                case measure => simp [intOf]
                · by_cases hE0 : E.length = 0
                  · have hq : ¬ (0 : Int) < (E.length : Int) := by omega
                    have HS0 : Hid (St 3 (encs (ns.drop 0) ++ (tx ss ++ il (ls.map (·.2.1)))) E 0 true) := .inr (.inr (.inr rfl))
                    have HBx := HBE
                    have hlx : E.length ≤ 8000 := by omega
                    have HX := HXB
                    have g02 := g00
                    clear HXB g00 hE0
                    go_wp2_with fail
                    as_aux_lemma =>
                      refine (new_any _ _ _ _ HX.out (by omega)).mono ?_
                      rintro _ w3 ⟨g, rfl, R, hg, g3⟩
                      have g03 : V.grownBy w3 none := only_step g02 g3 (fun _ h => by cases h)
                      have hz3 := g03.size
                      have hz02 := g02.size
                      have hwg : V.heap.size ≤ g := by omega
                      clear HX g3 g02
                      go_wp2_with fail
                      go_loopw [14, 15] (fun sok si wr => ∃ (i : Nat) (l' : List Int) (e : Int) (ok : Bool), i ≤ ns.length ∧ si = .int .i64 i ∧ sok = .bool ok ∧ Rdr wr g l' e ∧ Hid (St 3 (encs (ns.drop i) ++ (tx ss ++ il (ls.map (·.2.1)))) l' e ok) ∧ Hid (bytesOk l') ∧ l'.length ≤ 8000 ∧ V.grownBy wr none)
                        (fun _ si _ => ns.length - (intOf si).toNat)
                      case atStart => exact ⟨0, _, 0, true, Nat.zero_le _, rfl, rfl, R, HS0, HBx, hlx, g03⟩
                      case round =>
                        obtain ⟨i, l', e, ok, hi, rfl, rfl, R, HS, HB, hl, hG⟩ := hrel
                        clear HS0 HBx hlx g03
                        by_cases hlt : i < ns.length
                        · have ht : (i : Int) < (ns.length : Int) := by omega
                          have ht0 : (0 : Int) ≤ (i : Int) := by omega
                          have hes : IntKind.i64.wrap ((i : Int) + 1) = (i : Int) + 1 := by rw [IntKind.wrap_i64]; omega
                          obtain ⟨b, off, x, rfl, hxb, HD, hcx⟩ : ∃ b off x, A = some ⟨b, off, none⟩ ∧ (-9223372036854775808 ≤ x ∧ x ≤ 9223372036854775807) ∧ Hid (encs (ns.drop i) = enc x ++ encs (ns.drop (i + 1))) ∧ Hid (∀ W : World, V.grownBy W none → W.cell? ⟨b, off + i, none⟩ = some (.int .i64 x)) := by
                            have hx : (is ns)[i]? = some (.int .i64 ns[i]) := by simp [is, hlt]
                            rcases HA.out with h0 | ⟨b, off, hA, hb, hc⟩
                            · rw [h0] at hx; cases hx
                            · exact ⟨b, off, ns[i], hA, HNB.out _ (List.getElem_mem hlt), encs_drop ns i hlt, fun W hW => (World.cell?_of_block ((only_step hVg hW (fun _ h => by cases h)).block b hb (by simp))).trans (hc i _ hx)⟩
                          have HS' : Hid (St 3 (enc x ++ (encs (ns.drop (i + 1)) ++ (tx ss ++ il (ls.map (·.2.1))))) l' e ok) := by
                            have h := HS.out; rw [HD.out, List.append_assoc] at h; exact h
                          obtain ⟨v, l2, e2, HC, hS2, hb2, hl2⟩ := back_int g x _ l' e ok 3 hxb.1 hxb.2 HS'.out (by omega) HB.out
                          have HS2 := Lib.hid hS2
                          have HB2 := Lib.hid hb2
                          have hcx1 : wr.drew.cell? ⟨b, off + i, none⟩ = some (.int .i64 x) := hcx.out _ (only_drew hG)
                          have hG7 : V.grownBy wr.drew none := only_drew hG
                          have R7 : Hid (Rdr wr.drew g l' e) := R
                          clear hS2 hb2 HD HS HS' R
                          by_cases hv : v = x
                          · subst hv
                            have HS3 : Hid (St 3 (encs (ns.drop (i + 1)) ++ (tx ss ++ il (ls.map (·.2.1)))) l2 e2 ok) := by have h := HS2.out; unfold Hid; simpa using h
                            clear HS2
                            go_wp2_with fail
                            go_region_held3 (fun V => V.cell? ⟨b, off + i, none⟩ = some (.int .i64 v)) (first | assumption) ((first
                              | (go_at_call 22; refine (HC _ R7.out).out.mono ?_; rintro e wa ⟨rfl, Ra, ga⟩; have hGa : V.grownBy wa none := only_step hG7 ga (fun q hq => by cases hq; exact .inr hwg); have hca : wa.cell? ⟨b, off + i, none⟩ = some (.int .i64 v) := hcx.out _ hGa)))
                            go_wp2_with fail
                            go_roundw
                            case rel => exact ⟨i + 1, l2, e2, ok, by omega, by go_num, rfl, Ra, HS3, HB2, by omega, hGa⟩
                            case measure => simp [intOf]; omega
                          · have HS3 : Hid (St 3 (encs (ns.drop (i + 1)) ++ (tx ss ++ il (ls.map (·.2.1)))) l2 e2 false) := by have h := HS2.out; unfold Hid; simpa [hv] using h
                            have hvb : (v == x) = false := by rw [beq_eq_false_iff_ne]; exact hv
                            clear HS2
                            go_wp2_with fail
                            refine wp_region_held_drew (S := fun V => V.cell? ⟨b, off + i, none⟩ = some (.int .i64 x)) (by kernel_rfl) hcx1 (fun hHeld => ?_)
                            refine wpAnyH_take (i := 0) (oi := { dst := some 114, op := Op.move (Operand.tmp 13), type := 29, pos := "law.go:119", after := #[], guard := none }) (v := ?_) rfl (by kernel_rfl) (by kernel_rfl) (by kernel_rfl) (fun _ _ _ h => h) (Or.inl ⟨by rfl, ?_⟩) hHeld ?_
                            rotate_left
                            · (intro W hSw; (try dsimp only at hSw); go_simp; try with_reducible rfl)
                            try simp only [Act.put, List.setIfInBounds_toArray, List.set_cons_zero, List.set_cons_succ]
                            refine wpAnyH_take (i := 2) (oi := { dst := some 116, op := Op.move (Operand.tmp 0), type := 23, pos := "law.go:119", after := #[], guard := none }) (v := ?_) rfl (by kernel_rfl) (by kernel_rfl) (by kernel_rfl) (fun _ _ _ h => h) (Or.inl ⟨by rfl, ?_⟩) hHeld ?_
                            rotate_left
                            · (intro W hSw; (try dsimp only at hSw); go_simp; try with_reducible rfl)
                            try simp only [Act.put, List.setIfInBounds_toArray, List.set_cons_zero, List.set_cons_succ]
                            refine wpAnyH_take (i := 3) (oi := { dst := some 117, op := Op.move (Operand.tmp 15), type := 3, pos := "law.go:119", after := #[], guard := none }) (v := ?_) rfl (by kernel_rfl) (by kernel_rfl) (by kernel_rfl) (fun _ _ _ h => h) (Or.inl ⟨by rfl, ?_⟩) hHeld ?_
                            rotate_left
                            · (intro W hSw; (try dsimp only at hSw); go_simp; try with_reducible rfl)
                            try simp only [Act.put, List.setIfInBounds_toArray, List.set_cons_zero, List.set_cons_succ]
                            refine wpAnyH_take (i := 4) (oi := { dst := some 118, op := Op.indexAddr 23 (Operand.tmp 116) (Operand.tmp 117), type := 0, pos := "law.go:119", after := #[{ on := 2, ground := Ground.data }, { on := 3, ground := Ground.data }], guard := none }) (v := ?_) rfl (by kernel_rfl) (by kernel_rfl) (by kernel_rfl) (fun _ _ _ h => h) (Or.inl ⟨by rfl, ?_⟩) hHeld ?_
                            rotate_left
                            · (intro W hSw; (try dsimp only at hSw); go_simp; try with_reducible rfl)
                            try simp only [Act.put, List.setIfInBounds_toArray, List.set_cons_zero, List.set_cons_succ]
                            refine wpAnyH_take (i := 5) (oi := { dst := some 119, op := Op.load 3 (Operand.tmp 118), type := 3, pos := "law.go:119", after := #[{ on := 4, ground := Ground.data }], guard := none }) (v := ?_) rfl (by kernel_rfl) (by kernel_rfl) (by kernel_rfl) (fun _ _ _ h => h) (Or.inl ⟨by rfl, ?_⟩) hHeld ?_
                            rotate_left
                            · (intro W hSw; (try dsimp only at hSw); go_simp; try with_reducible rfl)
                            try simp only [Act.put, List.setIfInBounds_toArray, List.set_cons_zero, List.set_cons_succ]
                            refine wpAnyH_ready (rs := [1]) (by kernel_rfl) (by simp) ?_
                            refine AllReadyH.cons (o := { dst := some 115, op := Op.call { callee := Callee.value (Operand.func 22), args := #[Operand.tmp 114], argTypes := #[29] }, type := 3, pos := "law.go:119", after := #[{ on := 0, ground := Ground.data }], guard := none }) rfl (fun K hK => ?_) AllReadyH.nil
                            go_simp
                            go_at_call 22
                            refine (HC _ R7.out).out.mono ?_
                            rintro _ wa ⟨rfl, Ra, ga⟩
                            dsimp only
                            have hGa : V.grownBy wa none := only_step hG7 ga (fun q hq => by cases hq; exact .inr hwg)
                            have hca : wa.cell? ⟨b, off + i, none⟩ = some (.int .i64 x) := hcx.out _ hGa
                            refine hK.out _ _ hca (fun hHeld2 => ?_)
                            clear hK K
                            try simp only [Act.put, List.setIfInBounds_toArray, List.set_cons_zero, List.set_cons_succ]
                            refine wpAnyH_take (i := 6) (oi := { dst := some 120, op := Op.binOp BinOp.eql 3 (Operand.tmp 115) (Operand.tmp 119) 3, type := 4, pos := "law.go:119", after := #[{ on := 1, ground := Ground.data }, { on := 5, ground := Ground.data }], guard := none }) (v := .bool false) rfl (by kernel_rfl) (by kernel_rfl) (by kernel_rfl) (fun _ _ _ h => h) (Or.inl ⟨by rfl, ?_⟩) hHeld2 ?_
                            · (intro W hSw; (try dsimp only at hSw); go_simp; try with_reducible rfl)
                            try simp only [Act.put, List.setIfInBounds_toArray, List.set_cons_zero, List.set_cons_succ]
                            refine wpAnyH_take (i := 7) (oi := { dst := some 121, op := Op.move (Operand.tmp 120), type := 4, pos := "law.go:119", after := #[{ on := 6, ground := Ground.data }, { on := 1, ground := Ground.chain }], guard := none }) (v := ?_) rfl (by kernel_rfl) (by kernel_rfl) (by kernel_rfl) (fun _ _ _ h => h) (Or.inl ⟨by rfl, ?_⟩) hHeld2 ?_
                            rotate_left
                            · (intro W hSw; (try dsimp only at hSw); go_simp; try with_reducible rfl)
                            try simp only [Act.put, List.setIfInBounds_toArray, List.set_cons_zero, List.set_cons_succ]
                            refine wpAnyH_take (i := 8) (oi := { dst := some 122, op := Op.move (Operand.tmp 14), type := 4, pos := "law.go:119", after := #[{ on := 7, ground := Ground.guard }], guard := some (7, true) }) (v := undef) rfl (by kernel_rfl) (by kernel_rfl) (by kernel_rfl) (fun _ _ _ h => h) (Or.inr ⟨by rfl, rfl⟩) hHeld2 ?_
                            try simp only [Act.put, List.setIfInBounds_toArray, List.set_cons_zero, List.set_cons_succ]
                            refine wpAnyH_take (i := 9) (oi := { dst := some 123, op := Op.pick (Operand.tmp 121) (Operand.tmp 122) (Operand.const (Value.bool false)), type := 4, pos := "law.go:119", after := #[{ on := 7, ground := Ground.data }, { on := 8, ground := Ground.data }], guard := none }) (v := ?_) rfl (by kernel_rfl) (by kernel_rfl) (by kernel_rfl) (fun _ _ _ h => h) (Or.inl ⟨by rfl, ?_⟩) hHeld2 ?_
                            rotate_left
                            · (intro W hSw; (try dsimp only at hSw); go_simp; try with_reducible rfl)
                            try simp only [Act.put, List.setIfInBounds_toArray, List.set_cons_zero, List.set_cons_succ]
                            refine wpAnyH_take (i := 10) (oi := { dst := some 14, op := Op.assign (Operand.tmp 123), type := 4, pos := "law.go:119", after := #[{ on := 9, ground := Ground.data }, { on := 7, ground := Ground.chain }, { on := 0, ground := Ground.phase }, { on := 1, ground := Ground.phase }, { on := 2, ground := Ground.phase }, { on := 3, ground := Ground.phase }, { on := 4, ground := Ground.phase }, { on := 5, ground := Ground.phase }, { on := 6, ground := Ground.phase }, { on := 7, ground := Ground.phase }, { on := 8, ground := Ground.phase }, { on := 9, ground := Ground.phase }], guard := none }) (v := ?_) rfl (by kernel_rfl) (by kernel_rfl) (by kernel_rfl) (fun _ _ _ h => h) (Or.inl ⟨by rfl, ?_⟩) hHeld2 ?_
                            rotate_left
                            · (intro W hSw; (try dsimp only at hSw); go_simp; try with_reducible rfl)
                            try simp only [Act.put, List.setIfInBounds_toArray, List.set_cons_zero, List.set_cons_succ]
                            refine wpAnyH_done (by kernel_rfl) ?_ _
                            go_wp2_with fail
                            go_roundw
                            case rel => exact ⟨i + 1, l2, e2, false, by omega, by go_num, rfl, Ra, HS3, HB2, by omega, hGa⟩
                            case measure => simp [intOf]; omega
                        · have ht : ¬ (i : Int) < (ns.length : Int) := by omega
                          have HS0 : Hid (St 3 (tx (ss.drop 0) ++ il (ls.map (·.2.1))) l' e ok) := by
                            have h := HS.out; rw [List.drop_of_length_le (by omega)] at h; exact h
                          have hl8 := hl
                          have hG8 := hG
                          have HB8 := HB
                          have R8 := R
                          clear HS hl hG HB R
                          go_wp2_with fail
                          go_loopw [14, 16] (fun sok si wr => ∃ (i : Nat) (l' : List Int) (e : Int) (ok : Bool), i ≤ ss.length ∧ si = .int .i64 i ∧ sok = .bool ok ∧ Rdr wr g l' e ∧ Hid (St 3 (tx (ss.drop i) ++ il (ls.map (·.2.1))) l' e ok) ∧ Hid (bytesOk l') ∧ l'.length ≤ 8000 ∧ V.grownBy wr none)
                            (fun _ si _ => ss.length - (intOf si).toNat)
                          case atStart => exact ⟨0, l', e, ok, Nat.zero_le _, rfl, rfl, R8, HS0, HB8, hl8, hG8⟩
                          case round =>
                            clear HS0 hl8 hG8 HB8 R8 hi hlt ht
                            obtain ⟨i, l', e, ok, hi, rfl, rfl, R, HS, HB, hl, hG⟩ := hrel
                            by_cases hlt : i < ss.length
                            · have ht : (i : Int) < (ss.length : Int) := by omega
                              have ht0 : (0 : Int) ≤ (i : Int) := by omega
                              have hes : IntKind.i64.wrap ((i : Int) + 1) = (i : Int) + 1 := by rw [IntKind.wrap_i64]; omega
                              obtain ⟨b, off, x, rfl, hxb, HD, hcx⟩ : ∃ b off x, B = some ⟨b, off, none⟩ ∧ Hid (x.size ≤ 200) ∧ Hid (tx (ss.drop i) = (enc (sb x).length ++ sb x) ++ tx (ss.drop (i + 1))) ∧ Hid (∀ W : World, V.grownBy W none → W.cell? ⟨b, off + i, none⟩ = some (.string x)) := by
                                have hx : (ss.map Value.string)[i]? = some (.string ss[i]) := by simp [hlt]
                                rcases HBs.out with h0 | ⟨b, off, hA, hb, hc⟩
                                · rw [h0] at hx; cases hx
                                · exact ⟨b, off, ss[i], hA, HSZ.out _ (List.getElem_mem hlt), by unfold Hid tx; rw [sb_len]; exact flat_drop _ ss i hlt, fun W hW => (World.cell?_of_block ((only_step hVg hW (fun _ h => by cases h)).block b hb (by simp))).trans (hc i _ hx)⟩
                              have HS' : Hid (St 3 (enc (sb x).length ++ sb x ++ (tx (ss.drop (i + 1)) ++ il (ls.map (·.2.1)))) l' e ok) := by
                                have h := HS.out; rw [HD.out, List.append_assoc] at h; exact h
                              obtain ⟨v, l2, e2, HC, hS2, hb2, hl2⟩ := back_text g (sb x) _ l' e ok 3 (by rw [sb_len]; have := hxb.out; omega) (sb_bytes x) HS'.out (by omega) HB.out
                              rw [nums_sb] at hS2
                              have HS2 := Lib.hid hS2
                              have HB2 := Lib.hid hb2
                              have hcx1 : wr.drew.cell? ⟨b, off + i, none⟩ = some (.string x) := hcx.out _ (only_drew hG)
                              have hG7 : V.grownBy wr.drew none := only_drew hG
                              have R7 : Hid (Rdr wr.drew g l' e) := R
                              clear hS2 hb2 HD HS HS' R
                              by_cases hv : v = x
                              · subst hv
                                have HS3 : Hid (St 3 (tx (ss.drop (i + 1)) ++ il (ls.map (·.2.1))) l2 e2 ok) := by have h := HS2.out; unfold Hid; simpa using h
                                clear HS2
                                go_wp2_with fail
                                go_region_held3 (fun V => V.cell? ⟨b, off + i, none⟩ = some (.string v)) (first | assumption) ((first
                                  | (go_at_call 24; refine (HC _ R7.out).out.mono ?_; rintro e wa ⟨rfl, Ra, ga⟩; have hGa : V.grownBy wa none := only_step hG7 ga (fun q hq => by cases hq; exact .inr hwg); have hca : wa.cell? ⟨b, off + i, none⟩ = some (.string v) := hcx.out _ hGa)))
                                go_wp2_with fail
                                go_roundw
                                case rel => exact ⟨i + 1, l2, e2, ok, by omega, by go_num, rfl, Ra, HS3, HB2, by omega, hGa⟩
                                case measure => simp [intOf]; omega
                              · have HS3 : Hid (St 3 (tx (ss.drop (i + 1)) ++ il (ls.map (·.2.1))) l2 e2 false) := by have h := HS2.out; unfold Hid; simpa [hv] using h
                                have hvb : (v.toList == x.toList) = false := str_ne hv
                                clear HS2
                                go_wp2_with fail
                                refine wp_region_held_drew (S := fun V => V.cell? ⟨b, off + i, none⟩ = some (.string x)) (by kernel_rfl) hcx1 (fun hHeld => ?_)
                                refine wpAnyH_take (i := 0) (oi := { dst := some 130, op := Op.move (Operand.tmp 13), type := 29, pos := "law.go:122", after := #[], guard := none }) (v := ?_) rfl (by kernel_rfl) (by kernel_rfl) (by kernel_rfl) (fun _ _ _ h => h) (Or.inl ⟨by rfl, ?_⟩) hHeld ?_
                                rotate_left
                                · (intro W hSw; (try dsimp only at hSw); go_simp; try with_reducible rfl)
                                try simp only [Act.put, List.setIfInBounds_toArray, List.set_cons_zero, List.set_cons_succ]
                                refine wpAnyH_take (i := 2) (oi := { dst := some 132, op := Op.move (Operand.tmp 1), type := 43, pos := "law.go:122", after := #[], guard := none }) (v := ?_) rfl (by kernel_rfl) (by kernel_rfl) (by kernel_rfl) (fun _ _ _ h => h) (Or.inl ⟨by rfl, ?_⟩) hHeld ?_
                                rotate_left
                                · (intro W hSw; (try dsimp only at hSw); go_simp; try with_reducible rfl)
                                try simp only [Act.put, List.setIfInBounds_toArray, List.set_cons_zero, List.set_cons_succ]
                                refine wpAnyH_take (i := 3) (oi := { dst := some 133, op := Op.move (Operand.tmp 16), type := 3, pos := "law.go:122", after := #[], guard := none }) (v := ?_) rfl (by kernel_rfl) (by kernel_rfl) (by kernel_rfl) (fun _ _ _ h => h) (Or.inl ⟨by rfl, ?_⟩) hHeld ?_
                                rotate_left
                                · (intro W hSw; (try dsimp only at hSw); go_simp; try with_reducible rfl)
                                try simp only [Act.put, List.setIfInBounds_toArray, List.set_cons_zero, List.set_cons_succ]
                                refine wpAnyH_take (i := 4) (oi := { dst := some 134, op := Op.indexAddr 43 (Operand.tmp 132) (Operand.tmp 133), type := 0, pos := "law.go:122", after := #[{ on := 2, ground := Ground.data }, { on := 3, ground := Ground.data }], guard := none }) (v := ?_) rfl (by kernel_rfl) (by kernel_rfl) (by kernel_rfl) (fun _ _ _ h => h) (Or.inl ⟨by rfl, ?_⟩) hHeld ?_
                                rotate_left
                                · (intro W hSw; (try dsimp only at hSw); go_simp; try with_reducible rfl)
                                try simp only [Act.put, List.setIfInBounds_toArray, List.set_cons_zero, List.set_cons_succ]
                                refine wpAnyH_take (i := 5) (oi := { dst := some 135, op := Op.load 9 (Operand.tmp 134), type := 9, pos := "law.go:122", after := #[{ on := 4, ground := Ground.data }], guard := none }) (v := ?_) rfl (by kernel_rfl) (by kernel_rfl) (by kernel_rfl) (fun _ _ _ h => h) (Or.inl ⟨by rfl, ?_⟩) hHeld ?_
                                rotate_left
                                · (intro W hSw; (try dsimp only at hSw); go_simp; try with_reducible rfl)
                                try simp only [Act.put, List.setIfInBounds_toArray, List.set_cons_zero, List.set_cons_succ]
                                refine wpAnyH_ready (rs := [1]) (by kernel_rfl) (by simp) ?_
                                refine AllReadyH.cons (o := { dst := some 131, op := Op.call { callee := Callee.value (Operand.func 24), args := #[Operand.tmp 130], argTypes := #[29] }, type := 9, pos := "law.go:122", after := #[{ on := 0, ground := Ground.data }], guard := none }) rfl (fun K hK => ?_) AllReadyH.nil
                                go_simp
                                go_at_call 24
                                refine (HC _ R7.out).out.mono ?_
                                rintro _ wa ⟨rfl, Ra, ga⟩
                                dsimp only
                                have hGa : V.grownBy wa none := only_step hG7 ga (fun q hq => by cases hq; exact .inr hwg)
                                have hca : wa.cell? ⟨b, off + i, none⟩ = some (.string x) := hcx.out _ hGa
                                refine hK.out _ _ hca (fun hHeld2 => ?_)
                                clear hK K
                                try simp only [Act.put, List.setIfInBounds_toArray, List.set_cons_zero, List.set_cons_succ]
                                refine wpAnyH_take (i := 6) (oi := { dst := some 136, op := Op.binOp BinOp.eql 9 (Operand.tmp 131) (Operand.tmp 135) 9, type := 4, pos := "law.go:122", after := #[{ on := 1, ground := Ground.data }, { on := 5, ground := Ground.data }], guard := none }) (v := .bool false) rfl (by kernel_rfl) (by kernel_rfl) (by kernel_rfl) (fun _ _ _ h => h) (Or.inl ⟨by rfl, ?_⟩) hHeld2 ?_
                                · (intro W hSw; (try dsimp only at hSw); go_simp; try with_reducible rfl)
                                try simp only [Act.put, List.setIfInBounds_toArray, List.set_cons_zero, List.set_cons_succ]
                                refine wpAnyH_take (i := 7) (oi := { dst := some 137, op := Op.move (Operand.tmp 136), type := 4, pos := "law.go:122", after := #[{ on := 6, ground := Ground.data }, { on := 1, ground := Ground.chain }], guard := none }) (v := ?_) rfl (by kernel_rfl) (by kernel_rfl) (by kernel_rfl) (fun _ _ _ h => h) (Or.inl ⟨by rfl, ?_⟩) hHeld2 ?_
                                rotate_left
                                · (intro W hSw; (try dsimp only at hSw); go_simp; try with_reducible rfl)
                                try simp only [Act.put, List.setIfInBounds_toArray, List.set_cons_zero, List.set_cons_succ]
                                refine wpAnyH_take (i := 8) (oi := { dst := some 138, op := Op.move (Operand.tmp 14), type := 4, pos := "law.go:122", after := #[{ on := 7, ground := Ground.guard }], guard := some (7, true) }) (v := undef) rfl (by kernel_rfl) (by kernel_rfl) (by kernel_rfl) (fun _ _ _ h => h) (Or.inr ⟨by rfl, rfl⟩) hHeld2 ?_
                                try simp only [Act.put, List.setIfInBounds_toArray, List.set_cons_zero, List.set_cons_succ]
                                refine wpAnyH_take (i := 9) (oi := { dst := some 139, op := Op.pick (Operand.tmp 137) (Operand.tmp 138) (Operand.const (Value.bool false)), type := 4, pos := "law.go:122", after := #[{ on := 7, ground := Ground.data }, { on := 8, ground := Ground.data }], guard := none }) (v := ?_) rfl (by kernel_rfl) (by kernel_rfl) (by kernel_rfl) (fun _ _ _ h => h) (Or.inl ⟨by rfl, ?_⟩) hHeld2 ?_
                                rotate_left
                                · (intro W hSw; (try dsimp only at hSw); go_simp; try with_reducible rfl)
                                try simp only [Act.put, List.setIfInBounds_toArray, List.set_cons_zero, List.set_cons_succ]
                                refine wpAnyH_take (i := 10) (oi := { dst := some 14, op := Op.assign (Operand.tmp 139), type := 4, pos := "law.go:122", after := #[{ on := 9, ground := Ground.data }, { on := 7, ground := Ground.chain }, { on := 0, ground := Ground.phase }, { on := 1, ground := Ground.phase }, { on := 2, ground := Ground.phase }, { on := 3, ground := Ground.phase }, { on := 4, ground := Ground.phase }, { on := 5, ground := Ground.phase }, { on := 6, ground := Ground.phase }, { on := 7, ground := Ground.phase }, { on := 8, ground := Ground.phase }, { on := 9, ground := Ground.phase }], guard := none }) (v := ?_) rfl (by kernel_rfl) (by kernel_rfl) (by kernel_rfl) (fun _ _ _ h => h) (Or.inl ⟨by rfl, ?_⟩) hHeld2 ?_
                                rotate_left
                                · (intro W hSw; (try dsimp only at hSw); go_simp; try with_reducible rfl)
                                try simp only [Act.put, List.setIfInBounds_toArray, List.set_cons_zero, List.set_cons_succ]
                                refine wpAnyH_done (by kernel_rfl) ?_ _
                                go_wp2_with fail
                                go_roundw
                                case rel => exact ⟨i + 1, l2, e2, false, by omega, by go_num, rfl, Ra, HS3, HB2, by omega, hGa⟩
                                case measure => simp [intOf]; omega
                            · have ht : ¬ (i : Int) < (ss.length : Int) := by omega
                              have HS0 : Hid (St 3 (il ((ls.map (·.2.1)).drop 0)) l' e ok) := by
                                have h := HS.out; rw [List.drop_of_length_le (by omega)] at h; exact h
                              have hl8 := hl
                              have hG8 := hG
                              have HB8 := HB
                              have R8 := R
                              clear HS hl hG HB R
                              go_wp2_with fail
                              go_loopw [14, 17] (fun sok si wr => ∃ (i : Nat) (l' : List Int) (e : Int) (ok : Bool), i ≤ ls.length ∧ si = .int .i64 i ∧ sok = .bool ok ∧ Rdr wr g l' e ∧ Hid (St 3 (il ((ls.map (·.2.1)).drop i)) l' e ok) ∧ Hid (bytesOk l') ∧ l'.length ≤ 8000 ∧ V.grownBy wr none)
                                (fun _ si _ => ls.length - (intOf si).toNat)
                              case atStart => exact ⟨0, l', e, ok, Nat.zero_le _, rfl, rfl, R8, HS0, HB8, hl8, hG8⟩
                              case round =>
                                clear HS0 hl8 hG8 HB8 R8 hi hlt ht
                                obtain ⟨i, l', e, ok, hi, rfl, rfl, R, HS, HB, hl, hG⟩ := hrel
                                by_cases hlt : i < ls.length
                                · have ht : (i : Int) < (ls.length : Int) := by omega
                                  have ht0 : (0 : Int) ≤ (i : Int) := by omega
                                  have hes : IntKind.i64.wrap ((i : Int) + 1) = (i : Int) + 1 := by rw [IntKind.wrap_i64]; omega
                                  obtain ⟨b, off, Ai, x, ci, rfl, hxl, hxb, hxi, HD, hcx⟩ : ∃ b off Ai x ci, C = some ⟨b, off, none⟩ ∧ x.length ≤ 50 ∧ Hid (∀ n ∈ x, -9223372036854775808 ≤ n ∧ n ≤ 9223372036854775807) ∧ Hid (Has w w.heap.size Ai (is x)) ∧
                                      Hid (il ((ls.map (·.2.1)).drop i) = (enc x.length ++ encs x) ++ il ((ls.map (·.2.1)).drop (i + 1))) ∧ Hid (∀ W : World, V.grownBy W none → W.cell? ⟨b, off + i, none⟩ = some (.slice Ai x.length ci)) := by
                                    have hx : (ls.map rowCell)[i]? = some (rowCell ls[i]) := by simp [hlt]
                                    rcases HC0.out with h0 | ⟨b, off, hA, hb, hc⟩
                                    · rw [h0] at hx; cases hx
                                    · have hm := List.getElem_mem hlt
                                      refine ⟨b, off, ls[i].1, ls[i].2.1, ls[i].2.2, hA, (HLB.out _ hm).1, (HLB.out _ hm).2.1, (HLB.out _ hm).2.2, ?_, fun W hW => (World.cell?_of_block ((only_step hVg hW (fun _ h => by cases h)).block b hb (by simp))).trans (hc i _ hx)⟩
                                      have h := flat_drop (fun l => enc l.length ++ encs l) (ls.map (·.2.1)) i (by simpa using hlt)
                                      unfold Hid; simpa [il] using h
                                  have HS' : Hid (St 3 (enc x.length ++ encs x ++ il ((ls.map (·.2.1)).drop (i + 1))) l' e ok) := by
                                    have h := HS.out; rw [HD.out] at h; exact h
                                  obtain ⟨v, l2, e2, HC, hvm, hS2, hb2, hl2⟩ := back_ints g x _ l' e ok 3 (by omega) hxb.out HS'.out (by omega) HB.out
                                  have HS2 := Lib.hid hS2
                                  have HB2 := Lib.hid hb2
                                  have hcx1 : wr.drew.cell? ⟨b, off + i, none⟩ = some (.slice Ai x.length ci) := hcx.out _ (only_drew hG)
                                  have hG7 : V.grownBy wr.drew none := only_drew hG
                                  have R7 : Hid (Rdr wr.drew g l' e) := R
                                  have HVM := Lib.hid hvm
                                  clear hS2 hb2 HD HS HS' R hvm
                                  have hdb : ∃ d : Bool, Hid (d = decide (v = x)) := ⟨_, rfl⟩
                                  obtain ⟨d, HDb⟩ := hdb
                                  have HS3 : Hid (St 3 (il ((ls.map (·.2.1)).drop (i + 1))) l2 e2 (d && ok)) := by have h := HS2.out; rw [← HDb.out] at h; exact h
                                  clear HS2
                                  have HCM : ∀ (W W1 : World) (A1 : Option Addr) (c1 : Nat), Has W1 W1.heap.size A1 (is v) → W1.grownBy W none → V.grownBy W none → Hid (Calls Try.prog 26 #[.slice A1 v.length c1, .slice Ai x.length ci] W fun e w' => e = .returned (.bool d) ∧ W.grownBy w' none) := fun W W1 A1 c1 h1 h2 h3 => by
                                    have h := ints_cmp A1 Ai c1 ci W1.heap.size w.heap.size v x W (h1.only h2 (Nat.le_refl _) (fun _ h => by cases h)) (hxi.out.only (only_step hVg h3 (fun _ h => by cases h)) (Nat.le_refl _) (fun _ h => by cases h)) h2.size (only_step hVg h3 (fun _ h => by cases h)).size HVM.out (by unfold maxLen; omega)
                                    rw [← HDb.out] at h
                                    exact h
                                  cases d
                                  · go_wp2_with fail
                                    refine wp_region_held_drew (S := fun V => V.cell? ⟨b, off + i, none⟩ = some (.slice Ai x.length ci)) (by kernel_rfl) hcx1 (fun hHeld => ?_)
                                    refine wpAnyH_take (i := 0) (oi := { dst := some 146, op := Op.move (Operand.tmp 13), type := 29, pos := "law.go:125", after := #[], guard := none }) (v := ?_) rfl (by kernel_rfl) (by kernel_rfl) (by kernel_rfl) (fun _ _ _ h => h) (Or.inl ⟨by rfl, ?_⟩) hHeld ?_
                                    rotate_left
                                    · (intro W hSw; (try dsimp only at hSw); go_simp; try with_reducible rfl)
                                    try simp only [Act.put, List.setIfInBounds_toArray, List.set_cons_zero, List.set_cons_succ]
                                    refine wpAnyH_take (i := 2) (oi := { dst := some 148, op := Op.move (Operand.tmp 2), type := 44, pos := "law.go:125", after := #[], guard := none }) (v := ?_) rfl (by kernel_rfl) (by kernel_rfl) (by kernel_rfl) (fun _ _ _ h => h) (Or.inl ⟨by rfl, ?_⟩) hHeld ?_
                                    rotate_left
                                    · (intro W hSw; (try dsimp only at hSw); go_simp; try with_reducible rfl)
                                    try simp only [Act.put, List.setIfInBounds_toArray, List.set_cons_zero, List.set_cons_succ]
                                    refine wpAnyH_take (i := 3) (oi := { dst := some 149, op := Op.move (Operand.tmp 17), type := 3, pos := "law.go:125", after := #[], guard := none }) (v := ?_) rfl (by kernel_rfl) (by kernel_rfl) (by kernel_rfl) (fun _ _ _ h => h) (Or.inl ⟨by rfl, ?_⟩) hHeld ?_
                                    rotate_left
                                    · (intro W hSw; (try dsimp only at hSw); go_simp; try with_reducible rfl)
                                    try simp only [Act.put, List.setIfInBounds_toArray, List.set_cons_zero, List.set_cons_succ]
                                    refine wpAnyH_take (i := 4) (oi := { dst := some 150, op := Op.indexAddr 44 (Operand.tmp 148) (Operand.tmp 149), type := 0, pos := "law.go:125", after := #[{ on := 2, ground := Ground.data }, { on := 3, ground := Ground.data }], guard := none }) (v := ?_) rfl (by kernel_rfl) (by kernel_rfl) (by kernel_rfl) (fun _ _ _ h => h) (Or.inl ⟨by rfl, ?_⟩) hHeld ?_
                                    rotate_left
                                    · (intro W hSw; (try dsimp only at hSw); go_simp; try with_reducible rfl)
                                    try simp only [Act.put, List.setIfInBounds_toArray, List.set_cons_zero, List.set_cons_succ]
                                    refine wpAnyH_take (i := 5) (oi := { dst := some 151, op := Op.load 23 (Operand.tmp 150), type := 23, pos := "law.go:125", after := #[{ on := 4, ground := Ground.data }], guard := none }) (v := ?_) rfl (by kernel_rfl) (by kernel_rfl) (by kernel_rfl) (fun _ _ _ h => h) (Or.inl ⟨by rfl, ?_⟩) hHeld ?_
                                    rotate_left
                                    · (intro W hSw; (try dsimp only at hSw); go_simp; try with_reducible rfl)
                                    try simp only [Act.put, List.setIfInBounds_toArray, List.set_cons_zero, List.set_cons_succ]
                                    refine wpAnyH_ready (rs := [1]) (by kernel_rfl) (by simp) ?_
                                    refine AllReadyH.cons (o := { dst := some 147, op := Op.call { callee := Callee.value (Operand.func 27), args := #[Operand.tmp 146], argTypes := #[29] }, type := 23, pos := "law.go:125", after := #[{ on := 0, ground := Ground.data }], guard := none }) rfl (fun K hK => ?_) AllReadyH.nil
                                    go_simp
                                    go_at_call 27
                                    refine (HC _ R7.out).out.mono ?_
                                    rintro _ wa ⟨⟨A1, c1, rfl, ha1⟩, Ra, ga⟩
                                    dsimp only
                                    have hGa : V.grownBy wa none := only_step hG7 ga (fun q hq => by cases hq; exact .inr hwg)
                                    have hca : wa.cell? ⟨b, off + i, none⟩ = some (.slice Ai x.length ci) := hcx.out _ hGa
                                    refine hK.out _ _ hca (fun hHeld2 => ?_)
                                    clear hK K
                                    try simp only [Act.put, List.setIfInBounds_toArray, List.set_cons_zero, List.set_cons_succ]
                                    refine wpAnyH_ready (rs := [6]) (by kernel_rfl) (by simp) ?_
                                    refine AllReadyH.cons (o := { dst := some 152, op := Op.call { callee := Callee.value (Operand.func 26), args := #[Operand.tmp 147, Operand.tmp 151], argTypes := #[23, 23] }, type := 4, pos := "law.go:125", after := #[{ on := 1, ground := Ground.data }, { on := 5, ground := Ground.data }, { on := 1, ground := Ground.chain }], guard := none }) rfl (fun K hK => ?_) AllReadyH.nil
                                    go_simp
                                    go_at_call 26
                                    refine (HCM _ wa A1 c1 ha1 (only_refl _ _) hGa).out.mono ?_
                                    rintro _ wb ⟨rfl, gb⟩
                                    dsimp only
                                    have hGb : V.grownBy wb none := only_step hGa gb (fun _ h => by cases h)
                                    have Rb := Ra.only gb (fun _ h => by cases h)
                                    have hcb : wb.cell? ⟨b, off + i, none⟩ = some (.slice Ai x.length ci) := hcx.out _ hGb
                                    refine hK.out _ _ hcb (fun hHeld3 => ?_)
                                    clear hK K
                                    try simp only [Act.put, List.setIfInBounds_toArray, List.set_cons_zero, List.set_cons_succ]
                                    refine wpAnyH_take (i := 7) (oi := { dst := some 153, op := Op.move (Operand.tmp 152), type := 4, pos := "law.go:125", after := #[{ on := 6, ground := Ground.data }, { on := 6, ground := Ground.chain }], guard := none }) (v := ?_) rfl (by kernel_rfl) (by kernel_rfl) (by kernel_rfl) (fun _ _ _ h => h) (Or.inl ⟨by rfl, ?_⟩) hHeld3 ?_
                                    rotate_left
                                    · (intro W hSw; (try dsimp only at hSw); go_simp; try with_reducible rfl)
                                    try simp only [Act.put, List.setIfInBounds_toArray, List.set_cons_zero, List.set_cons_succ]
                                    refine wpAnyH_take (i := 8) (oi := { dst := some 154, op := Op.move (Operand.tmp 14), type := 4, pos := "law.go:125", after := #[{ on := 7, ground := Ground.guard }], guard := some (7, true) }) (v := undef) rfl (by kernel_rfl) (by kernel_rfl) (by kernel_rfl) (fun _ _ _ h => h) (Or.inr ⟨by rfl, rfl⟩) hHeld3 ?_
                                    try simp only [Act.put, List.setIfInBounds_toArray, List.set_cons_zero, List.set_cons_succ]
                                    refine wpAnyH_take (i := 9) (oi := { dst := some 155, op := Op.pick (Operand.tmp 153) (Operand.tmp 154) (Operand.const (Value.bool false)), type := 4, pos := "law.go:125", after := #[{ on := 7, ground := Ground.data }, { on := 8, ground := Ground.data }], guard := none }) (v := ?_) rfl (by kernel_rfl) (by kernel_rfl) (by kernel_rfl) (fun _ _ _ h => h) (Or.inl ⟨by rfl, ?_⟩) hHeld3 ?_
                                    rotate_left
                                    · (intro W hSw; (try dsimp only at hSw); go_simp; try with_reducible rfl)
                                    try simp only [Act.put, List.setIfInBounds_toArray, List.set_cons_zero, List.set_cons_succ]
                                    refine wpAnyH_take (i := 10) (oi := { dst := some 14, op := Op.assign (Operand.tmp 155), type := 4, pos := "law.go:125", after := #[{ on := 9, ground := Ground.data }, { on := 7, ground := Ground.chain }, { on := 0, ground := Ground.phase }, { on := 1, ground := Ground.phase }, { on := 2, ground := Ground.phase }, { on := 3, ground := Ground.phase }, { on := 4, ground := Ground.phase }, { on := 5, ground := Ground.phase }, { on := 6, ground := Ground.phase }, { on := 7, ground := Ground.phase }, { on := 8, ground := Ground.phase }, { on := 9, ground := Ground.phase }], guard := none }) (v := ?_) rfl (by kernel_rfl) (by kernel_rfl) (by kernel_rfl) (fun _ _ _ h => h) (Or.inl ⟨by rfl, ?_⟩) hHeld3 ?_
                                    rotate_left
                                    · (intro W hSw; (try dsimp only at hSw); go_simp; try with_reducible rfl)
                                    try simp only [Act.put, List.setIfInBounds_toArray, List.set_cons_zero, List.set_cons_succ]
                                    refine wpAnyH_done (by kernel_rfl) ?_ _
                                    go_wp2_with fail
                                    go_roundw
                                    case rel => exact ⟨i + 1, l2, e2, false, by omega, by go_num, rfl, Rb, HS3, HB2, by omega, hGb⟩
                                    case measure => simp [intOf]; omega
                                  · have HS4 : Hid (St 3 (il ((ls.map (·.2.1)).drop (i + 1))) l2 e2 ok) := by have h := HS3.out; unfold Hid; simpa using h
                                    go_wp2_with fail
                                    go_region_held3 (fun V => V.cell? ⟨b, off + i, none⟩ = some (.slice Ai x.length ci)) (first | assumption) ((first
                                      | (go_at_call 27; refine (HC _ R7.out).out.mono ?_; rintro e wa ⟨⟨A1, c1, rfl, ha1⟩, Ra, ga⟩; have hGa : V.grownBy wa none := only_step hG7 ga (fun q hq => by cases hq; exact .inr hwg); have hca : wa.cell? ⟨b, off + i, none⟩ = some (.slice Ai x.length ci) := hcx.out _ hGa)
                                      | (go_at_call 26; refine (HCM _ wa A1 c1 ha1 (only_refl _ _) hGa).out.mono ?_; rintro e wb ⟨rfl, gb⟩; have hGb : V.grownBy wb none := only_step hGa gb (fun _ h => by cases h); have Rb := Ra.only gb (fun _ h => by cases h); have hcb : wb.cell? ⟨b, off + i, none⟩ = some (.slice Ai x.length ci) := hcx.out _ hGb)))
                                    go_wp2_with fail
                                    go_roundw
                                    case rel => exact ⟨i + 1, l2, e2, ok, by omega, by go_num, rfl, Rb, HS4, HB2, by omega, hGb⟩
                                    case measure => simp [intOf]; omega
                                · have ht : ¬ (i : Int) < (ls.length : Int) := by omega
                                  have HS9 : Hid (St 3 [] l' e ok) := by
                                    have h := HS.out; rw [List.drop_of_length_le (by simp; omega)] at h; exact h
                                  clear HS
                                  obtain ⟨en, hen⟩ : ∃ en, en = endOf l' e := ⟨_, rfl⟩
                                  have HE := end_any g l' e wr R (by omega)
                                  rw [← hen] at HE
                                  clear hen HS9
                                  go_wp2_with fail
                                  refine HE.mono ?_
                                  rintro _ w7 ⟨rfl, rfl⟩
                                  go_wp2_with fail
                                  go_roundw
                                  case rel => exact ⟨3, by omega, rfl, hG⟩
                                  case measure => simp [intOf]
                  · have hq : (0 : Int) < (E.length : Int) := by omega
                    obtain ⟨lx, hlx0⟩ : ∃ lx, lx = E.take (E.length - 1) := ⟨_, rfl⟩
                    have hlen : E.length - 1 = lx.length := by rw [hlx0, List.length_take]; omega
                    have hw : IntKind.i64.wrap ((E.length : Int) - 1) = (E.length : Int) - 1 := by rw [IntKind.wrap_i64]; omega
                    have hb0 : (0 : Int) ≤ (E.length : Int) - 1 := by omega
                    have hb1 : (E.length : Int) - 1 ≤ (c7 : Int) := by omega
                    have HX : Hid (Has wr wr.heap.size A7 (bs lx)) := by
                      have h := HXB.out.take (E.length - 1)
                      unfold Hid; rw [hlx0]
                      simpa [bs, List.map_take] using h
                    have HBx : Hid (bytesOk lx) := by rw [hlx0]; exact fun x hx => HBE.out x (List.mem_of_mem_take hx)
                    have hlx : lx.length ≤ 8000 := by omega
                    have hne : E ≠ [] := fun h => by rw [h] at hE0; exact hE0 rfl
                    have HS0 : Hid (St 2 (encs (ns.drop 0) ++ (tx ss ++ il (ls.map (·.2.1)))) lx 0 true) := .inr (.inr (.inl ⟨rfl, .inl ⟨rfl, by rw [show encs (ns.drop 0) ++ (tx ss ++ il (ls.map (·.2.1))) = E from HEq.out.symm]; exact hne, by rw [show encs (ns.drop 0) ++ (tx ss ++ il (ls.map (·.2.1))) = E from HEq.out.symm, hlx0, List.dropLast_eq_take]⟩⟩))
                    have g02 := g00
                    clear HXB g00 hE0 hlx0 hne
                    go_wp2_with fail
                    as_aux_lemma =>
                      refine (new_any _ _ _ _ HX.out (by omega)).mono ?_
                      rintro _ w3 ⟨g, rfl, R, hg, g3⟩
                      have g03 : V.grownBy w3 none := only_step g02 g3 (fun _ h => by cases h)
                      have hz3 := g03.size
                      have hz02 := g02.size
                      have hwg : V.heap.size ≤ g := by omega
                      clear HX g3 g02
                      go_wp2_with fail
                      go_loopw [14, 15] (fun sok si wr => ∃ (i : Nat) (l' : List Int) (e : Int) (ok : Bool), i ≤ ns.length ∧ si = .int .i64 i ∧ sok = .bool ok ∧ Rdr wr g l' e ∧ Hid (St 2 (encs (ns.drop i) ++ (tx ss ++ il (ls.map (·.2.1)))) l' e ok) ∧ Hid (bytesOk l') ∧ l'.length ≤ 8000 ∧ V.grownBy wr none)
                        (fun _ si _ => ns.length - (intOf si).toNat)
                      case atStart => exact ⟨0, _, 0, true, Nat.zero_le _, rfl, rfl, R, HS0, HBx, hlx, g03⟩
                      case round =>
                        obtain ⟨i, l', e, ok, hi, rfl, rfl, R, HS, HB, hl, hG⟩ := hrel
                        clear HS0 HBx hlx g03
                        by_cases hlt : i < ns.length
                        · have ht : (i : Int) < (ns.length : Int) := by omega
                          have ht0 : (0 : Int) ≤ (i : Int) := by omega
                          have hes : IntKind.i64.wrap ((i : Int) + 1) = (i : Int) + 1 := by rw [IntKind.wrap_i64]; omega
                          obtain ⟨b, off, x, rfl, hxb, HD, hcx⟩ : ∃ b off x, A = some ⟨b, off, none⟩ ∧ (-9223372036854775808 ≤ x ∧ x ≤ 9223372036854775807) ∧ Hid (encs (ns.drop i) = enc x ++ encs (ns.drop (i + 1))) ∧ Hid (∀ W : World, V.grownBy W none → W.cell? ⟨b, off + i, none⟩ = some (.int .i64 x)) := by
                            have hx : (is ns)[i]? = some (.int .i64 ns[i]) := by simp [is, hlt]
                            rcases HA.out with h0 | ⟨b, off, hA, hb, hc⟩
                            · rw [h0] at hx; cases hx
                            · exact ⟨b, off, ns[i], hA, HNB.out _ (List.getElem_mem hlt), encs_drop ns i hlt, fun W hW => (World.cell?_of_block ((only_step hVg hW (fun _ h => by cases h)).block b hb (by simp))).trans (hc i _ hx)⟩
                          have HS' : Hid (St 2 (enc x ++ (encs (ns.drop (i + 1)) ++ (tx ss ++ il (ls.map (·.2.1))))) l' e ok) := by
                            have h := HS.out; rw [HD.out, List.append_assoc] at h; exact h
                          obtain ⟨v, l2, e2, HC, hS2, hb2, hl2⟩ := back_int g x _ l' e ok 2 hxb.1 hxb.2 HS'.out (by omega) HB.out
                          have HS2 := Lib.hid hS2
                          have HB2 := Lib.hid hb2
                          have hcx1 : wr.drew.cell? ⟨b, off + i, none⟩ = some (.int .i64 x) := hcx.out _ (only_drew hG)
                          have hG7 : V.grownBy wr.drew none := only_drew hG
                          have R7 : Hid (Rdr wr.drew g l' e) := R
                          clear hS2 hb2 HD HS HS' R
                          by_cases hv : v = x
                          · subst hv
                            have HS3 : Hid (St 2 (encs (ns.drop (i + 1)) ++ (tx ss ++ il (ls.map (·.2.1)))) l2 e2 ok) := by have h := HS2.out; unfold Hid; simpa using h
                            clear HS2
                            go_wp2_with fail
                            go_region_held3 (fun V => V.cell? ⟨b, off + i, none⟩ = some (.int .i64 v)) (first | assumption) ((first
                              | (go_at_call 22; refine (HC _ R7.out).out.mono ?_; rintro e wa ⟨rfl, Ra, ga⟩; have hGa : V.grownBy wa none := only_step hG7 ga (fun q hq => by cases hq; exact .inr hwg); have hca : wa.cell? ⟨b, off + i, none⟩ = some (.int .i64 v) := hcx.out _ hGa)))
                            go_wp2_with fail
                            go_roundw
                            case rel => exact ⟨i + 1, l2, e2, ok, by omega, by go_num, rfl, Ra, HS3, HB2, by omega, hGa⟩
                            case measure => simp [intOf]; omega
                          · have HS3 : Hid (St 2 (encs (ns.drop (i + 1)) ++ (tx ss ++ il (ls.map (·.2.1)))) l2 e2 false) := by have h := HS2.out; unfold Hid; simpa [hv] using h
                            have hvb : (v == x) = false := by rw [beq_eq_false_iff_ne]; exact hv
                            clear HS2
                            go_wp2_with fail
                            refine wp_region_held_drew (S := fun V => V.cell? ⟨b, off + i, none⟩ = some (.int .i64 x)) (by kernel_rfl) hcx1 (fun hHeld => ?_)
                            refine wpAnyH_take (i := 0) (oi := { dst := some 114, op := Op.move (Operand.tmp 13), type := 29, pos := "law.go:119", after := #[], guard := none }) (v := ?_) rfl (by kernel_rfl) (by kernel_rfl) (by kernel_rfl) (fun _ _ _ h => h) (Or.inl ⟨by rfl, ?_⟩) hHeld ?_
                            rotate_left
                            · (intro W hSw; (try dsimp only at hSw); go_simp; try with_reducible rfl)
                            try simp only [Act.put, List.setIfInBounds_toArray, List.set_cons_zero, List.set_cons_succ]
                            refine wpAnyH_take (i := 2) (oi := { dst := some 116, op := Op.move (Operand.tmp 0), type := 23, pos := "law.go:119", after := #[], guard := none }) (v := ?_) rfl (by kernel_rfl) (by kernel_rfl) (by kernel_rfl) (fun _ _ _ h => h) (Or.inl ⟨by rfl, ?_⟩) hHeld ?_
                            rotate_left
                            · (intro W hSw; (try dsimp only at hSw); go_simp; try with_reducible rfl)
                            try simp only [Act.put, List.setIfInBounds_toArray, List.set_cons_zero, List.set_cons_succ]
                            refine wpAnyH_take (i := 3) (oi := { dst := some 117, op := Op.move (Operand.tmp 15), type := 3, pos := "law.go:119", after := #[], guard := none }) (v := ?_) rfl (by kernel_rfl) (by kernel_rfl) (by kernel_rfl) (fun _ _ _ h => h) (Or.inl ⟨by rfl, ?_⟩) hHeld ?_
                            rotate_left
                            · (intro W hSw; (try dsimp only at hSw); go_simp; try with_reducible rfl)
                            try simp only [Act.put, List.setIfInBounds_toArray, List.set_cons_zero, List.set_cons_succ]
                            refine wpAnyH_take (i := 4) (oi := { dst := some 118, op := Op.indexAddr 23 (Operand.tmp 116) (Operand.tmp 117), type := 0, pos := "law.go:119", after := #[{ on := 2, ground := Ground.data }, { on := 3, ground := Ground.data }], guard := none }) (v := ?_) rfl (by kernel_rfl) (by kernel_rfl) (by kernel_rfl) (fun _ _ _ h => h) (Or.inl ⟨by rfl, ?_⟩) hHeld ?_
                            rotate_left
                            · (intro W hSw; (try dsimp only at hSw); go_simp; try with_reducible rfl)
                            try simp only [Act.put, List.setIfInBounds_toArray, List.set_cons_zero, List.set_cons_succ]
                            refine wpAnyH_take (i := 5) (oi := { dst := some 119, op := Op.load 3 (Operand.tmp 118), type := 3, pos := "law.go:119", after := #[{ on := 4, ground := Ground.data }], guard := none }) (v := ?_) rfl (by kernel_rfl) (by kernel_rfl) (by kernel_rfl) (fun _ _ _ h => h) (Or.inl ⟨by rfl, ?_⟩) hHeld ?_
                            rotate_left
                            · (intro W hSw; (try dsimp only at hSw); go_simp; try with_reducible rfl)
                            try simp only [Act.put, List.setIfInBounds_toArray, List.set_cons_zero, List.set_cons_succ]
                            refine wpAnyH_ready (rs := [1]) (by kernel_rfl) (by simp) ?_
                            refine AllReadyH.cons (o := { dst := some 115, op := Op.call { callee := Callee.value (Operand.func 22), args := #[Operand.tmp 114], argTypes := #[29] }, type := 3, pos := "law.go:119", after := #[{ on := 0, ground := Ground.data }], guard := none }) rfl (fun K hK => ?_) AllReadyH.nil
                            go_simp
                            go_at_call 22
                            refine (HC _ R7.out).out.mono ?_
                            rintro _ wa ⟨rfl, Ra, ga⟩
                            dsimp only
                            have hGa : V.grownBy wa none := only_step hG7 ga (fun q hq => by cases hq; exact .inr hwg)
                            have hca : wa.cell? ⟨b, off + i, none⟩ = some (.int .i64 x) := hcx.out _ hGa
                            refine hK.out _ _ hca (fun hHeld2 => ?_)
                            clear hK K
                            try simp only [Act.put, List.setIfInBounds_toArray, List.set_cons_zero, List.set_cons_succ]
                            refine wpAnyH_take (i := 6) (oi := { dst := some 120, op := Op.binOp BinOp.eql 3 (Operand.tmp 115) (Operand.tmp 119) 3, type := 4, pos := "law.go:119", after := #[{ on := 1, ground := Ground.data }, { on := 5, ground := Ground.data }], guard := none }) (v := .bool false) rfl (by kernel_rfl) (by kernel_rfl) (by kernel_rfl) (fun _ _ _ h => h) (Or.inl ⟨by rfl, ?_⟩) hHeld2 ?_
                            · (intro W hSw; (try dsimp only at hSw); go_simp; try with_reducible rfl)
                            try simp only [Act.put, List.setIfInBounds_toArray, List.set_cons_zero, List.set_cons_succ]
                            refine wpAnyH_take (i := 7) (oi := { dst := some 121, op := Op.move (Operand.tmp 120), type := 4, pos := "law.go:119", after := #[{ on := 6, ground := Ground.data }, { on := 1, ground := Ground.chain }], guard := none }) (v := ?_) rfl (by kernel_rfl) (by kernel_rfl) (by kernel_rfl) (fun _ _ _ h => h) (Or.inl ⟨by rfl, ?_⟩) hHeld2 ?_
                            rotate_left
                            · (intro W hSw; (try dsimp only at hSw); go_simp; try with_reducible rfl)
                            try simp only [Act.put, List.setIfInBounds_toArray, List.set_cons_zero, List.set_cons_succ]
                            refine wpAnyH_take (i := 8) (oi := { dst := some 122, op := Op.move (Operand.tmp 14), type := 4, pos := "law.go:119", after := #[{ on := 7, ground := Ground.guard }], guard := some (7, true) }) (v := undef) rfl (by kernel_rfl) (by kernel_rfl) (by kernel_rfl) (fun _ _ _ h => h) (Or.inr ⟨by rfl, rfl⟩) hHeld2 ?_
                            try simp only [Act.put, List.setIfInBounds_toArray, List.set_cons_zero, List.set_cons_succ]
                            refine wpAnyH_take (i := 9) (oi := { dst := some 123, op := Op.pick (Operand.tmp 121) (Operand.tmp 122) (Operand.const (Value.bool false)), type := 4, pos := "law.go:119", after := #[{ on := 7, ground := Ground.data }, { on := 8, ground := Ground.data }], guard := none }) (v := ?_) rfl (by kernel_rfl) (by kernel_rfl) (by kernel_rfl) (fun _ _ _ h => h) (Or.inl ⟨by rfl, ?_⟩) hHeld2 ?_
                            rotate_left
                            · (intro W hSw; (try dsimp only at hSw); go_simp; try with_reducible rfl)
                            try simp only [Act.put, List.setIfInBounds_toArray, List.set_cons_zero, List.set_cons_succ]
                            refine wpAnyH_take (i := 10) (oi := { dst := some 14, op := Op.assign (Operand.tmp 123), type := 4, pos := "law.go:119", after := #[{ on := 9, ground := Ground.data }, { on := 7, ground := Ground.chain }, { on := 0, ground := Ground.phase }, { on := 1, ground := Ground.phase }, { on := 2, ground := Ground.phase }, { on := 3, ground := Ground.phase }, { on := 4, ground := Ground.phase }, { on := 5, ground := Ground.phase }, { on := 6, ground := Ground.phase }, { on := 7, ground := Ground.phase }, { on := 8, ground := Ground.phase }, { on := 9, ground := Ground.phase }], guard := none }) (v := ?_) rfl (by kernel_rfl) (by kernel_rfl) (by kernel_rfl) (fun _ _ _ h => h) (Or.inl ⟨by rfl, ?_⟩) hHeld2 ?_
                            rotate_left
                            · (intro W hSw; (try dsimp only at hSw); go_simp; try with_reducible rfl)
                            try simp only [Act.put, List.setIfInBounds_toArray, List.set_cons_zero, List.set_cons_succ]
                            refine wpAnyH_done (by kernel_rfl) ?_ _
                            go_wp2_with fail
                            go_roundw
                            case rel => exact ⟨i + 1, l2, e2, false, by omega, by go_num, rfl, Ra, HS3, HB2, by omega, hGa⟩
                            case measure => simp [intOf]; omega
                        · have ht : ¬ (i : Int) < (ns.length : Int) := by omega
                          have HS0 : Hid (St 2 (tx (ss.drop 0) ++ il (ls.map (·.2.1))) l' e ok) := by
                            have h := HS.out; rw [List.drop_of_length_le (by omega)] at h; exact h
                          have hl8 := hl
                          have hG8 := hG
                          have HB8 := HB
                          have R8 := R
                          clear HS hl hG HB R
                          go_wp2_with fail
                          go_loopw [14, 16] (fun sok si wr => ∃ (i : Nat) (l' : List Int) (e : Int) (ok : Bool), i ≤ ss.length ∧ si = .int .i64 i ∧ sok = .bool ok ∧ Rdr wr g l' e ∧ Hid (St 2 (tx (ss.drop i) ++ il (ls.map (·.2.1))) l' e ok) ∧ Hid (bytesOk l') ∧ l'.length ≤ 8000 ∧ V.grownBy wr none)
                            (fun _ si _ => ss.length - (intOf si).toNat)
                          case atStart => exact ⟨0, l', e, ok, Nat.zero_le _, rfl, rfl, R8, HS0, HB8, hl8, hG8⟩
                          case round =>
                            clear HS0 hl8 hG8 HB8 R8 hi hlt ht
                            obtain ⟨i, l', e, ok, hi, rfl, rfl, R, HS, HB, hl, hG⟩ := hrel
                            by_cases hlt : i < ss.length
                            · have ht : (i : Int) < (ss.length : Int) := by omega
                              have ht0 : (0 : Int) ≤ (i : Int) := by omega
                              have hes : IntKind.i64.wrap ((i : Int) + 1) = (i : Int) + 1 := by rw [IntKind.wrap_i64]; omega
                              obtain ⟨b, off, x, rfl, hxb, HD, hcx⟩ : ∃ b off x, B = some ⟨b, off, none⟩ ∧ Hid (x.size ≤ 200) ∧ Hid (tx (ss.drop i) = (enc (sb x).length ++ sb x) ++ tx (ss.drop (i + 1))) ∧ Hid (∀ W : World, V.grownBy W none → W.cell? ⟨b, off + i, none⟩ = some (.string x)) := by
                                have hx : (ss.map Value.string)[i]? = some (.string ss[i]) := by simp [hlt]
                                rcases HBs.out with h0 | ⟨b, off, hA, hb, hc⟩
                                · rw [h0] at hx; cases hx
                                · exact ⟨b, off, ss[i], hA, HSZ.out _ (List.getElem_mem hlt), by unfold Hid tx; rw [sb_len]; exact flat_drop _ ss i hlt, fun W hW => (World.cell?_of_block ((only_step hVg hW (fun _ h => by cases h)).block b hb (by simp))).trans (hc i _ hx)⟩
                              have HS' : Hid (St 2 (enc (sb x).length ++ sb x ++ (tx (ss.drop (i + 1)) ++ il (ls.map (·.2.1)))) l' e ok) := by
                                have h := HS.out; rw [HD.out, List.append_assoc] at h; exact h
                              obtain ⟨v, l2, e2, HC, hS2, hb2, hl2⟩ := back_text g (sb x) _ l' e ok 2 (by rw [sb_len]; have := hxb.out; omega) (sb_bytes x) HS'.out (by omega) HB.out
                              rw [nums_sb] at hS2
                              have HS2 := Lib.hid hS2
                              have HB2 := Lib.hid hb2
                              have hcx1 : wr.drew.cell? ⟨b, off + i, none⟩ = some (.string x) := hcx.out _ (only_drew hG)
                              have hG7 : V.grownBy wr.drew none := only_drew hG
                              have R7 : Hid (Rdr wr.drew g l' e) := R
                              clear hS2 hb2 HD HS HS' R
                              by_cases hv : v = x
                              · subst hv
                                have HS3 : Hid (St 2 (tx (ss.drop (i + 1)) ++ il (ls.map (·.2.1))) l2 e2 ok) := by have h := HS2.out; unfold Hid; simpa using h
                                clear HS2
                                go_wp2_with fail
                                go_region_held3 (fun V => V.cell? ⟨b, off + i, none⟩ = some (.string v)) (first | assumption) ((first
                                  | (go_at_call 24; refine (HC _ R7.out).out.mono ?_; rintro e wa ⟨rfl, Ra, ga⟩; have hGa : V.grownBy wa none := only_step hG7 ga (fun q hq => by cases hq; exact .inr hwg); have hca : wa.cell? ⟨b, off + i, none⟩ = some (.string v) := hcx.out _ hGa)))
                                go_wp2_with fail
                                go_roundw
                                case rel => exact ⟨i + 1, l2, e2, ok, by omega, by go_num, rfl, Ra, HS3, HB2, by omega, hGa⟩
                                case measure => simp [intOf]; omega
                              · have HS3 : Hid (St 2 (tx (ss.drop (i + 1)) ++ il (ls.map (·.2.1))) l2 e2 false) := by have h := HS2.out; unfold Hid; simpa [hv] using h
                                have hvb : (v.toList == x.toList) = false := str_ne hv
                                clear HS2
                                go_wp2_with fail
                                refine wp_region_held_drew (S := fun V => V.cell? ⟨b, off + i, none⟩ = some (.string x)) (by kernel_rfl) hcx1 (fun hHeld => ?_)
                                refine wpAnyH_take (i := 0) (oi := { dst := some 130, op := Op.move (Operand.tmp 13), type := 29, pos := "law.go:122", after := #[], guard := none }) (v := ?_) rfl (by kernel_rfl) (by kernel_rfl) (by kernel_rfl) (fun _ _ _ h => h) (Or.inl ⟨by rfl, ?_⟩) hHeld ?_
                                rotate_left
                                · (intro W hSw; (try dsimp only at hSw); go_simp; try with_reducible rfl)
                                try simp only [Act.put, List.setIfInBounds_toArray, List.set_cons_zero, List.set_cons_succ]
                                refine wpAnyH_take (i := 2) (oi := { dst := some 132, op := Op.move (Operand.tmp 1), type := 43, pos := "law.go:122", after := #[], guard := none }) (v := ?_) rfl (by kernel_rfl) (by kernel_rfl) (by kernel_rfl) (fun _ _ _ h => h) (Or.inl ⟨by rfl, ?_⟩) hHeld ?_
                                rotate_left
                                · (intro W hSw; (try dsimp only at hSw); go_simp; try with_reducible rfl)
                                try simp only [Act.put, List.setIfInBounds_toArray, List.set_cons_zero, List.set_cons_succ]
                                refine wpAnyH_take (i := 3) (oi := { dst := some 133, op := Op.move (Operand.tmp 16), type := 3, pos := "law.go:122", after := #[], guard := none }) (v := ?_) rfl (by kernel_rfl) (by kernel_rfl) (by kernel_rfl) (fun _ _ _ h => h) (Or.inl ⟨by rfl, ?_⟩) hHeld ?_
                                rotate_left
                                · (intro W hSw; (try dsimp only at hSw); go_simp; try with_reducible rfl)
                                try simp only [Act.put, List.setIfInBounds_toArray, List.set_cons_zero, List.set_cons_succ]
                                refine wpAnyH_take (i := 4) (oi := { dst := some 134, op := Op.indexAddr 43 (Operand.tmp 132) (Operand.tmp 133), type := 0, pos := "law.go:122", after := #[{ on := 2, ground := Ground.data }, { on := 3, ground := Ground.data }], guard := none }) (v := ?_) rfl (by kernel_rfl) (by kernel_rfl) (by kernel_rfl) (fun _ _ _ h => h) (Or.inl ⟨by rfl, ?_⟩) hHeld ?_
                                rotate_left
                                · (intro W hSw; (try dsimp only at hSw); go_simp; try with_reducible rfl)
                                try simp only [Act.put, List.setIfInBounds_toArray, List.set_cons_zero, List.set_cons_succ]
                                refine wpAnyH_take (i := 5) (oi := { dst := some 135, op := Op.load 9 (Operand.tmp 134), type := 9, pos := "law.go:122", after := #[{ on := 4, ground := Ground.data }], guard := none }) (v := ?_) rfl (by kernel_rfl) (by kernel_rfl) (by kernel_rfl) (fun _ _ _ h => h) (Or.inl ⟨by rfl, ?_⟩) hHeld ?_
                                rotate_left
                                · (intro W hSw; (try dsimp only at hSw); go_simp; try with_reducible rfl)
                                try simp only [Act.put, List.setIfInBounds_toArray, List.set_cons_zero, List.set_cons_succ]
                                refine wpAnyH_ready (rs := [1]) (by kernel_rfl) (by simp) ?_
                                refine AllReadyH.cons (o := { dst := some 131, op := Op.call { callee := Callee.value (Operand.func 24), args := #[Operand.tmp 130], argTypes := #[29] }, type := 9, pos := "law.go:122", after := #[{ on := 0, ground := Ground.data }], guard := none }) rfl (fun K hK => ?_) AllReadyH.nil
                                go_simp
                                go_at_call 24
                                refine (HC _ R7.out).out.mono ?_
                                rintro _ wa ⟨rfl, Ra, ga⟩
                                dsimp only
                                have hGa : V.grownBy wa none := only_step hG7 ga (fun q hq => by cases hq; exact .inr hwg)
                                have hca : wa.cell? ⟨b, off + i, none⟩ = some (.string x) := hcx.out _ hGa
                                refine hK.out _ _ hca (fun hHeld2 => ?_)
                                clear hK K
                                try simp only [Act.put, List.setIfInBounds_toArray, List.set_cons_zero, List.set_cons_succ]
                                refine wpAnyH_take (i := 6) (oi := { dst := some 136, op := Op.binOp BinOp.eql 9 (Operand.tmp 131) (Operand.tmp 135) 9, type := 4, pos := "law.go:122", after := #[{ on := 1, ground := Ground.data }, { on := 5, ground := Ground.data }], guard := none }) (v := .bool false) rfl (by kernel_rfl) (by kernel_rfl) (by kernel_rfl) (fun _ _ _ h => h) (Or.inl ⟨by rfl, ?_⟩) hHeld2 ?_
                                · (intro W hSw; (try dsimp only at hSw); go_simp; try with_reducible rfl)
                                try simp only [Act.put, List.setIfInBounds_toArray, List.set_cons_zero, List.set_cons_succ]
                                refine wpAnyH_take (i := 7) (oi := { dst := some 137, op := Op.move (Operand.tmp 136), type := 4, pos := "law.go:122", after := #[{ on := 6, ground := Ground.data }, { on := 1, ground := Ground.chain }], guard := none }) (v := ?_) rfl (by kernel_rfl) (by kernel_rfl) (by kernel_rfl) (fun _ _ _ h => h) (Or.inl ⟨by rfl, ?_⟩) hHeld2 ?_
                                rotate_left
                                · (intro W hSw; (try dsimp only at hSw); go_simp; try with_reducible rfl)
                                try simp only [Act.put, List.setIfInBounds_toArray, List.set_cons_zero, List.set_cons_succ]
                                refine wpAnyH_take (i := 8) (oi := { dst := some 138, op := Op.move (Operand.tmp 14), type := 4, pos := "law.go:122", after := #[{ on := 7, ground := Ground.guard }], guard := some (7, true) }) (v := undef) rfl (by kernel_rfl) (by kernel_rfl) (by kernel_rfl) (fun _ _ _ h => h) (Or.inr ⟨by rfl, rfl⟩) hHeld2 ?_
                                try simp only [Act.put, List.setIfInBounds_toArray, List.set_cons_zero, List.set_cons_succ]
                                refine wpAnyH_take (i := 9) (oi := { dst := some 139, op := Op.pick (Operand.tmp 137) (Operand.tmp 138) (Operand.const (Value.bool false)), type := 4, pos := "law.go:122", after := #[{ on := 7, ground := Ground.data }, { on := 8, ground := Ground.data }], guard := none }) (v := ?_) rfl (by kernel_rfl) (by kernel_rfl) (by kernel_rfl) (fun _ _ _ h => h) (Or.inl ⟨by rfl, ?_⟩) hHeld2 ?_
                                rotate_left
                                · (intro W hSw; (try dsimp only at hSw); go_simp; try with_reducible rfl)
                                try simp only [Act.put, List.setIfInBounds_toArray, List.set_cons_zero, List.set_cons_succ]
                                refine wpAnyH_take (i := 10) (oi := { dst := some 14, op := Op.assign (Operand.tmp 139), type := 4, pos := "law.go:122", after := #[{ on := 9, ground := Ground.data }, { on := 7, ground := Ground.chain }, { on := 0, ground := Ground.phase }, { on := 1, ground := Ground.phase }, { on := 2, ground := Ground.phase }, { on := 3, ground := Ground.phase }, { on := 4, ground := Ground.phase }, { on := 5, ground := Ground.phase }, { on := 6, ground := Ground.phase }, { on := 7, ground := Ground.phase }, { on := 8, ground := Ground.phase }, { on := 9, ground := Ground.phase }], guard := none }) (v := ?_) rfl (by kernel_rfl) (by kernel_rfl) (by kernel_rfl) (fun _ _ _ h => h) (Or.inl ⟨by rfl, ?_⟩) hHeld2 ?_
                                rotate_left
                                · (intro W hSw; (try dsimp only at hSw); go_simp; try with_reducible rfl)
                                try simp only [Act.put, List.setIfInBounds_toArray, List.set_cons_zero, List.set_cons_succ]
                                refine wpAnyH_done (by kernel_rfl) ?_ _
                                go_wp2_with fail
                                go_roundw
                                case rel => exact ⟨i + 1, l2, e2, false, by omega, by go_num, rfl, Ra, HS3, HB2, by omega, hGa⟩
                                case measure => simp [intOf]; omega
                            · have ht : ¬ (i : Int) < (ss.length : Int) := by omega
                              have HS0 : Hid (St 2 (il ((ls.map (·.2.1)).drop 0)) l' e ok) := by
                                have h := HS.out; rw [List.drop_of_length_le (by omega)] at h; exact h
                              have hl8 := hl
                              have hG8 := hG
                              have HB8 := HB
                              have R8 := R
                              clear HS hl hG HB R
                              go_wp2_with fail
                              go_loopw [14, 17] (fun sok si wr => ∃ (i : Nat) (l' : List Int) (e : Int) (ok : Bool), i ≤ ls.length ∧ si = .int .i64 i ∧ sok = .bool ok ∧ Rdr wr g l' e ∧ Hid (St 2 (il ((ls.map (·.2.1)).drop i)) l' e ok) ∧ Hid (bytesOk l') ∧ l'.length ≤ 8000 ∧ V.grownBy wr none)
                                (fun _ si _ => ls.length - (intOf si).toNat)
                              case atStart => exact ⟨0, l', e, ok, Nat.zero_le _, rfl, rfl, R8, HS0, HB8, hl8, hG8⟩
                              case round =>
                                clear HS0 hl8 hG8 HB8 R8 hi hlt ht
                                obtain ⟨i, l', e, ok, hi, rfl, rfl, R, HS, HB, hl, hG⟩ := hrel
                                by_cases hlt : i < ls.length
                                · have ht : (i : Int) < (ls.length : Int) := by omega
                                  have ht0 : (0 : Int) ≤ (i : Int) := by omega
                                  have hes : IntKind.i64.wrap ((i : Int) + 1) = (i : Int) + 1 := by rw [IntKind.wrap_i64]; omega
                                  obtain ⟨b, off, Ai, x, ci, rfl, hxl, hxb, hxi, HD, hcx⟩ : ∃ b off Ai x ci, C = some ⟨b, off, none⟩ ∧ x.length ≤ 50 ∧ Hid (∀ n ∈ x, -9223372036854775808 ≤ n ∧ n ≤ 9223372036854775807) ∧ Hid (Has w w.heap.size Ai (is x)) ∧
                                      Hid (il ((ls.map (·.2.1)).drop i) = (enc x.length ++ encs x) ++ il ((ls.map (·.2.1)).drop (i + 1))) ∧ Hid (∀ W : World, V.grownBy W none → W.cell? ⟨b, off + i, none⟩ = some (.slice Ai x.length ci)) := by
                                    have hx : (ls.map rowCell)[i]? = some (rowCell ls[i]) := by simp [hlt]
                                    rcases HC0.out with h0 | ⟨b, off, hA, hb, hc⟩
                                    · rw [h0] at hx; cases hx
                                    · have hm := List.getElem_mem hlt
                                      refine ⟨b, off, ls[i].1, ls[i].2.1, ls[i].2.2, hA, (HLB.out _ hm).1, (HLB.out _ hm).2.1, (HLB.out _ hm).2.2, ?_, fun W hW => (World.cell?_of_block ((only_step hVg hW (fun _ h => by cases h)).block b hb (by simp))).trans (hc i _ hx)⟩
                                      have h := flat_drop (fun l => enc l.length ++ encs l) (ls.map (·.2.1)) i (by simpa using hlt)
                                      unfold Hid; simpa [il] using h
                                  have HS' : Hid (St 2 (enc x.length ++ encs x ++ il ((ls.map (·.2.1)).drop (i + 1))) l' e ok) := by
                                    have h := HS.out; rw [HD.out] at h; exact h
                                  obtain ⟨v, l2, e2, HC, hvm, hS2, hb2, hl2⟩ := back_ints g x _ l' e ok 2 (by omega) hxb.out HS'.out (by omega) HB.out
                                  have HS2 := Lib.hid hS2
                                  have HB2 := Lib.hid hb2
                                  have hcx1 : wr.drew.cell? ⟨b, off + i, none⟩ = some (.slice Ai x.length ci) := hcx.out _ (only_drew hG)
                                  have hG7 : V.grownBy wr.drew none := only_drew hG
                                  have R7 : Hid (Rdr wr.drew g l' e) := R
                                  have HVM := Lib.hid hvm
                                  clear hS2 hb2 HD HS HS' R hvm
                                  have hdb : ∃ d : Bool, Hid (d = decide (v = x)) := ⟨_, rfl⟩
                                  obtain ⟨d, HDb⟩ := hdb
                                  have HS3 : Hid (St 2 (il ((ls.map (·.2.1)).drop (i + 1))) l2 e2 (d && ok)) := by have h := HS2.out; rw [← HDb.out] at h; exact h
                                  clear HS2
                                  have HCM : ∀ (W W1 : World) (A1 : Option Addr) (c1 : Nat), Has W1 W1.heap.size A1 (is v) → W1.grownBy W none → V.grownBy W none → Hid (Calls Try.prog 26 #[.slice A1 v.length c1, .slice Ai x.length ci] W fun e w' => e = .returned (.bool d) ∧ W.grownBy w' none) := fun W W1 A1 c1 h1 h2 h3 => by
                                    have h := ints_cmp A1 Ai c1 ci W1.heap.size w.heap.size v x W (h1.only h2 (Nat.le_refl _) (fun _ h => by cases h)) (hxi.out.only (only_step hVg h3 (fun _ h => by cases h)) (Nat.le_refl _) (fun _ h => by cases h)) h2.size (only_step hVg h3 (fun _ h => by cases h)).size HVM.out (by unfold maxLen; omega)
                                    rw [← HDb.out] at h
                                    exact h
                                  cases d
                                  · go_wp2_with fail
                                    refine wp_region_held_drew (S := fun V => V.cell? ⟨b, off + i, none⟩ = some (.slice Ai x.length ci)) (by kernel_rfl) hcx1 (fun hHeld => ?_)
                                    refine wpAnyH_take (i := 0) (oi := { dst := some 146, op := Op.move (Operand.tmp 13), type := 29, pos := "law.go:125", after := #[], guard := none }) (v := ?_) rfl (by kernel_rfl) (by kernel_rfl) (by kernel_rfl) (fun _ _ _ h => h) (Or.inl ⟨by rfl, ?_⟩) hHeld ?_
                                    rotate_left
                                    · (intro W hSw; (try dsimp only at hSw); go_simp; try with_reducible rfl)
                                    try simp only [Act.put, List.setIfInBounds_toArray, List.set_cons_zero, List.set_cons_succ]
                                    refine wpAnyH_take (i := 2) (oi := { dst := some 148, op := Op.move (Operand.tmp 2), type := 44, pos := "law.go:125", after := #[], guard := none }) (v := ?_) rfl (by kernel_rfl) (by kernel_rfl) (by kernel_rfl) (fun _ _ _ h => h) (Or.inl ⟨by rfl, ?_⟩) hHeld ?_
                                    rotate_left
                                    · (intro W hSw; (try dsimp only at hSw); go_simp; try with_reducible rfl)
                                    try simp only [Act.put, List.setIfInBounds_toArray, List.set_cons_zero, List.set_cons_succ]
                                    refine wpAnyH_take (i := 3) (oi := { dst := some 149, op := Op.move (Operand.tmp 17), type := 3, pos := "law.go:125", after := #[], guard := none }) (v := ?_) rfl (by kernel_rfl) (by kernel_rfl) (by kernel_rfl) (fun _ _ _ h => h) (Or.inl ⟨by rfl, ?_⟩) hHeld ?_
                                    rotate_left
                                    · (intro W hSw; (try dsimp only at hSw); go_simp; try with_reducible rfl)
                                    try simp only [Act.put, List.setIfInBounds_toArray, List.set_cons_zero, List.set_cons_succ]
                                    refine wpAnyH_take (i := 4) (oi := { dst := some 150, op := Op.indexAddr 44 (Operand.tmp 148) (Operand.tmp 149), type := 0, pos := "law.go:125", after := #[{ on := 2, ground := Ground.data }, { on := 3, ground := Ground.data }], guard := none }) (v := ?_) rfl (by kernel_rfl) (by kernel_rfl) (by kernel_rfl) (fun _ _ _ h => h) (Or.inl ⟨by rfl, ?_⟩) hHeld ?_
                                    rotate_left
                                    · (intro W hSw; (try dsimp only at hSw); go_simp; try with_reducible rfl)
                                    try simp only [Act.put, List.setIfInBounds_toArray, List.set_cons_zero, List.set_cons_succ]
                                    refine wpAnyH_take (i := 5) (oi := { dst := some 151, op := Op.load 23 (Operand.tmp 150), type := 23, pos := "law.go:125", after := #[{ on := 4, ground := Ground.data }], guard := none }) (v := ?_) rfl (by kernel_rfl) (by kernel_rfl) (by kernel_rfl) (fun _ _ _ h => h) (Or.inl ⟨by rfl, ?_⟩) hHeld ?_
                                    rotate_left
                                    · (intro W hSw; (try dsimp only at hSw); go_simp; try with_reducible rfl)
                                    try simp only [Act.put, List.setIfInBounds_toArray, List.set_cons_zero, List.set_cons_succ]
                                    refine wpAnyH_ready (rs := [1]) (by kernel_rfl) (by simp) ?_
                                    refine AllReadyH.cons (o := { dst := some 147, op := Op.call { callee := Callee.value (Operand.func 27), args := #[Operand.tmp 146], argTypes := #[29] }, type := 23, pos := "law.go:125", after := #[{ on := 0, ground := Ground.data }], guard := none }) rfl (fun K hK => ?_) AllReadyH.nil
                                    go_simp
                                    go_at_call 27
                                    refine (HC _ R7.out).out.mono ?_
                                    rintro _ wa ⟨⟨A1, c1, rfl, ha1⟩, Ra, ga⟩
                                    dsimp only
                                    have hGa : V.grownBy wa none := only_step hG7 ga (fun q hq => by cases hq; exact .inr hwg)
                                    have hca : wa.cell? ⟨b, off + i, none⟩ = some (.slice Ai x.length ci) := hcx.out _ hGa
                                    refine hK.out _ _ hca (fun hHeld2 => ?_)
                                    clear hK K
                                    try simp only [Act.put, List.setIfInBounds_toArray, List.set_cons_zero, List.set_cons_succ]
                                    refine wpAnyH_ready (rs := [6]) (by kernel_rfl) (by simp) ?_
                                    refine AllReadyH.cons (o := { dst := some 152, op := Op.call { callee := Callee.value (Operand.func 26), args := #[Operand.tmp 147, Operand.tmp 151], argTypes := #[23, 23] }, type := 4, pos := "law.go:125", after := #[{ on := 1, ground := Ground.data }, { on := 5, ground := Ground.data }, { on := 1, ground := Ground.chain }], guard := none }) rfl (fun K hK => ?_) AllReadyH.nil
                                    go_simp
                                    go_at_call 26
                                    refine (HCM _ wa A1 c1 ha1 (only_refl _ _) hGa).out.mono ?_
                                    rintro _ wb ⟨rfl, gb⟩
                                    dsimp only
                                    have hGb : V.grownBy wb none := only_step hGa gb (fun _ h => by cases h)
                                    have Rb := Ra.only gb (fun _ h => by cases h)
                                    have hcb : wb.cell? ⟨b, off + i, none⟩ = some (.slice Ai x.length ci) := hcx.out _ hGb
                                    refine hK.out _ _ hcb (fun hHeld3 => ?_)
                                    clear hK K
                                    try simp only [Act.put, List.setIfInBounds_toArray, List.set_cons_zero, List.set_cons_succ]
                                    refine wpAnyH_take (i := 7) (oi := { dst := some 153, op := Op.move (Operand.tmp 152), type := 4, pos := "law.go:125", after := #[{ on := 6, ground := Ground.data }, { on := 6, ground := Ground.chain }], guard := none }) (v := ?_) rfl (by kernel_rfl) (by kernel_rfl) (by kernel_rfl) (fun _ _ _ h => h) (Or.inl ⟨by rfl, ?_⟩) hHeld3 ?_
                                    rotate_left
                                    · (intro W hSw; (try dsimp only at hSw); go_simp; try with_reducible rfl)
                                    try simp only [Act.put, List.setIfInBounds_toArray, List.set_cons_zero, List.set_cons_succ]
                                    refine wpAnyH_take (i := 8) (oi := { dst := some 154, op := Op.move (Operand.tmp 14), type := 4, pos := "law.go:125", after := #[{ on := 7, ground := Ground.guard }], guard := some (7, true) }) (v := undef) rfl (by kernel_rfl) (by kernel_rfl) (by kernel_rfl) (fun _ _ _ h => h) (Or.inr ⟨by rfl, rfl⟩) hHeld3 ?_
                                    try simp only [Act.put, List.setIfInBounds_toArray, List.set_cons_zero, List.set_cons_succ]
                                    refine wpAnyH_take (i := 9) (oi := { dst := some 155, op := Op.pick (Operand.tmp 153) (Operand.tmp 154) (Operand.const (Value.bool false)), type := 4, pos := "law.go:125", after := #[{ on := 7, ground := Ground.data }, { on := 8, ground := Ground.data }], guard := none }) (v := ?_) rfl (by kernel_rfl) (by kernel_rfl) (by kernel_rfl) (fun _ _ _ h => h) (Or.inl ⟨by rfl, ?_⟩) hHeld3 ?_
                                    rotate_left
                                    · (intro W hSw; (try dsimp only at hSw); go_simp; try with_reducible rfl)
                                    try simp only [Act.put, List.setIfInBounds_toArray, List.set_cons_zero, List.set_cons_succ]
                                    refine wpAnyH_take (i := 10) (oi := { dst := some 14, op := Op.assign (Operand.tmp 155), type := 4, pos := "law.go:125", after := #[{ on := 9, ground := Ground.data }, { on := 7, ground := Ground.chain }, { on := 0, ground := Ground.phase }, { on := 1, ground := Ground.phase }, { on := 2, ground := Ground.phase }, { on := 3, ground := Ground.phase }, { on := 4, ground := Ground.phase }, { on := 5, ground := Ground.phase }, { on := 6, ground := Ground.phase }, { on := 7, ground := Ground.phase }, { on := 8, ground := Ground.phase }, { on := 9, ground := Ground.phase }], guard := none }) (v := ?_) rfl (by kernel_rfl) (by kernel_rfl) (by kernel_rfl) (fun _ _ _ h => h) (Or.inl ⟨by rfl, ?_⟩) hHeld3 ?_
                                    rotate_left
                                    · (intro W hSw; (try dsimp only at hSw); go_simp; try with_reducible rfl)
                                    try simp only [Act.put, List.setIfInBounds_toArray, List.set_cons_zero, List.set_cons_succ]
                                    refine wpAnyH_done (by kernel_rfl) ?_ _
                                    go_wp2_with fail
                                    go_roundw
                                    case rel => exact ⟨i + 1, l2, e2, false, by omega, by go_num, rfl, Rb, HS3, HB2, by omega, hGb⟩
                                    case measure => simp [intOf]; omega
                                  · have HS4 : Hid (St 2 (il ((ls.map (·.2.1)).drop (i + 1))) l2 e2 ok) := by have h := HS3.out; unfold Hid; simpa using h
                                    go_wp2_with fail
                                    go_region_held3 (fun V => V.cell? ⟨b, off + i, none⟩ = some (.slice Ai x.length ci)) (first | assumption) ((first
                                      | (go_at_call 27; refine (HC _ R7.out).out.mono ?_; rintro e wa ⟨⟨A1, c1, rfl, ha1⟩, Ra, ga⟩; have hGa : V.grownBy wa none := only_step hG7 ga (fun q hq => by cases hq; exact .inr hwg); have hca : wa.cell? ⟨b, off + i, none⟩ = some (.slice Ai x.length ci) := hcx.out _ hGa)
                                      | (go_at_call 26; refine (HCM _ wa A1 c1 ha1 (only_refl _ _) hGa).out.mono ?_; rintro e wb ⟨rfl, gb⟩; have hGb : V.grownBy wb none := only_step hGa gb (fun _ h => by cases h); have Rb := Ra.only gb (fun _ h => by cases h); have hcb : wb.cell? ⟨b, off + i, none⟩ = some (.slice Ai x.length ci) := hcx.out _ hGb)))
                                    go_wp2_with fail
                                    go_roundw
                                    case rel => exact ⟨i + 1, l2, e2, ok, by omega, by go_num, rfl, Rb, HS4, HB2, by omega, hGb⟩
                                    case measure => simp [intOf]; omega
                                · have ht : ¬ (i : Int) < (ls.length : Int) := by omega
                                  have HS9 : Hid (St 2 [] l' e ok) := by
                                    have h := HS.out; rw [List.drop_of_length_le (by simp; omega)] at h; exact h
                                  clear HS
                                  obtain he : e = 8 := by
                                    rcases HS9.out with h | h | h | h
                                    · exact absurd h.1 (by decide)
                                    · exact absurd h.1 (by decide)
                                    · rcases h.2 with h | h
                                      · exact absurd rfl h.2.1
                                      · exact h
                                    · exact absurd h (by decide)
                                  subst he
                                  have hend : endOf l' 8 = 8 := endOf_ne (by decide)
                                  have HE := end_any g l' 8 wr R (by omega)
                                  rw [hend] at HE
                                  clear hend HS9
                                  go_wp2_with fail
                                  refine HE.mono ?_
                                  rintro _ w7 ⟨rfl, rfl⟩
                                  go_wp2_with fail
                                  go_roundw
                                  case rel => exact ⟨3, by omega, rfl, hG⟩
                                  case measure => simp [intOf]
                · go_wp2_with fail
                  go_ret
                  exact ⟨rfl, only_step hVg g00 (fun _ h => by cases h)⟩
set_option maxRecDepth 100000 in
theorem codeBack_walk (A B C : Option Addr) (c d e : Nat) (ns : List Int) (ss : List ByteArray) (ls : List (Option Addr × List Int × Nat)) (w : World)
    (hA : Has w w.heap.size A (is ns)) (hB : Has w w.heap.size B (ss.map Value.string)) (hC : Has w w.heap.size C (ls.map rowCell)) (hnb : ∀ n ∈ ns, -9223372036854775808 ≤ n ∧ n ≤ 9223372036854775807)
    (hrow : ∀ x ∈ ls, RowOk w x) (hsz : ∀ s ∈ ss, s.size ≤ 9223372036854775807) (hlz : ∀ x ∈ ls, x.2.1.length ≤ 9223372036854775807) :
    Calls Try.prog 5 #[.slice A ns.length c, .slice B ss.length d, .slice C ls.length e] w fun e w' => e = .returned (.bool true) ∧ w.grownBy w' none := by
  by_cases h1 : ns.length ≤ 20
  · by_cases h2 : ss.length ≤ 10
    · by_cases h3 : ls.length ≤ 10
      · exact back_core A B C c d e ns ss ls w hA hB hC hnb hrow h1 h2 h3 hsz hlz
      · have t1 : ¬ (20 : Int) < (ns.length : Int) := by omega
        have t2 : ¬ (10 : Int) < (ss.length : Int) := by omega
        have t3 : (10 : Int) < (ls.length : Int) := by omega
        clear hA hB hC hnb hrow hsz hlz
        go_enter Try.func5, Try.ntmps5
        go_wp2_with (go_at_call 12; refine (known_any _).mono ?_; rintro e w1 ⟨rfl, g1⟩)
        go_ret
        exact ⟨rfl, g1⟩
    · have t1 : ¬ (20 : Int) < (ns.length : Int) := by omega
      have t2 : (10 : Int) < (ss.length : Int) := by omega
      clear hA hB hC hnb hrow hsz hlz
      go_enter Try.func5, Try.ntmps5
      go_wp2_with (go_at_call 12; refine (known_any _).mono ?_; rintro e w1 ⟨rfl, g1⟩)
      go_ret
      exact ⟨rfl, g1⟩
  · have t1 : (20 : Int) < (ns.length : Int) := by omega
    clear hA hB hC hnb hrow hsz hlz
    go_enter Try.func5, Try.ntmps5
    go_wp2_with (go_at_call 12; refine (known_any _).mono ?_; rintro e w1 ⟨rfl, g1⟩)
    go_ret
    exact ⟨rfl, g1⟩
end Go.Proofs.Ytjcanlnnadnodaa
