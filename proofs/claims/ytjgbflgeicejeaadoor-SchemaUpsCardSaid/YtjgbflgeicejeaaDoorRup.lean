/- Contracts of the reference's Up and Pick of chapter 8. No condition beyond the size that a string has. -/
import Derived.Test.YtjgbflgeicejeaaDoorSst
namespace Go.Proofs.YtjgbflgeicejeaaDoor
open Go.RowKit Go.Lib

theorem bytes_start (s : ByteArray) (w : World) : ∃ (cap : Nat) (row : Array Value), (convert 9 36 (.string s)).run Tryd.prog w = .ok (.slice (some ⟨w.heap.size, 0, none⟩) s.size cap) (w.drew.alloc (.cells row 5 (row.size, row.size + 1))) ∧
    (∀ j (x : UInt8), (lowTo 0 (bl s))[j]? = some x → (w.drew.alloc (.cells row 5 (row.size, row.size + 1))).cell? ⟨w.heap.size, j, none⟩ = some (.int .u8 x.toNat) ∧ (w.drew.alloc (.cells row 5 (row.size, row.size + 1))).frozen? ⟨w.heap.size, j, none⟩ = false) ∧
    w.grownBy (w.drew.alloc (.cells row 5 (row.size, row.size + 1))) none := by
  refine ⟨_, _, run_bytes_of_string (P := Tryd.prog) w 9 36 5 s Tryd.underlying9 Tryd.underlying36 Tryd.underlying5, fun j x hx => ?_, ?_⟩
  · rw [lowTo_zero] at hx
    have h1 : (bytesRow s (grownCap w s.size 0 5))[j]? = some (Value.int .u8 x.toNat) := by
      unfold bytesRow
      have hj : j < s.size := by rw [← bl_len]; exact (List.getElem?_eq_some_iff.1 hx).1
      rw [Array.getElem?_append_left (by simp; exact hj)]
      simp only [Array.getElem?_map]
      have : s.data[j]? = some x := by rw [← Array.getElem?_toList]; exact hx
      rw [this]; rfl
    have hb := alloc_new (w := w.drew) (o := .cells (bytesRow s (grownCap w s.size 0 5)) 5 ((bytesRow s (grownCap w s.size 0 5)).size, (bytesRow s (grownCap w s.size 0 5)).size + 1))
    exact ⟨cell_of hb h1, frozen_of hb (Array.getElem?_eq_some_iff.1 h1).1⟩
  · exact ⟨rfl, rfl, rfl, by simp [World.alloc], fun i hi _ => alloc_old (w := w.drew) hi⟩

set_option maxRecDepth 100000 in
set_option maxHeartbeats 1000000 in
theorem rup_any (s : ByteArray) (f t : Int) (hs : s.size ≤ maxLen) (w : World) :
    Calls Tryd.prog 10 #[.string s, .int .i64 f, .int .i64 t] w fun e w' => e = .returned (.tuple #[.string (upS s f t), .int .i64 (chk f t)]) ∧ w.grownBy w' none := by
  have HF := fun w => Lib.hid (version_any f w)
  have HT := fun w => Lib.hid (version_any t w)
  by_cases h0 : chk f t = 0
  · have hv : upS s f t = ofB (upL (bl s) f t) := by unfold upS; rw [if_pos h0]
    rw [hv, h0]
    obtain ⟨hf, ht, hft⟩ := chk_zero h0
    have vf : isV f = true := by simp [isV]; omega
    have vt : isV t = true := by simp [isV]; omega
    rw [vf] at HF
    rw [vt] at HT
    clear hv h0 vf vt
    unfold maxLen at hs
    rcases hf with rfl | rfl | rfl <;> rcases ht with rfl | rfl | rfl
    · clear hft
      have hu : ∀ l, upL l 1 1 = l := fun l => by simp [upL]
      rw [hu, ofB_bl]
      clear hu
      go_enter Tryd.func10, Tryd.ntmps10
      go_wp2_with fail
      refine (HF _).out.mono ?_
      rintro _ w1 ⟨rfl, rfl⟩
      go_wp2_with fail
      refine (HT _).out.mono ?_
      rintro _ w1 ⟨rfl, rfl⟩
      go_wp2_with fail
      go_ret2
      exact ⟨rfl, only_refl _ _⟩
    · clear hft
      have hu : ∀ l, upL l 1 2 = low l := fun l => by simp [upL]
      rw [hu]
      clear hu
      obtain ⟨cap, row, hcv2, HC0, HG0⟩ := bytes_start s w
      have HC0 := Lib.hid HC0
      go_enter Tryd.func10, Tryd.ntmps10
      go_wp2_with fail
      refine (HF _).out.mono ?_
      rintro _ w1 ⟨rfl, rfl⟩
      go_wp2_with fail
      refine (HT _).out.mono ?_
      rintro _ w1 ⟨rfl, rfl⟩
      go_wp2_with fail
      go_loopw [9] (fun si wr => ∃ i : Nat, i ≤ s.size ∧ si = .int .i64 i ∧ Hid (∀ j (x : UInt8), (lowTo i (bl s))[j]? = some x → wr.cell? ⟨w.heap.size, j, none⟩ = some (.int .u8 x.toNat) ∧ wr.frozen? ⟨w.heap.size, j, none⟩ = false) ∧ w.grownBy wr none)
        (fun si _ => s.size - (intOf si).toNat)
      case atStart => exact ⟨0, Nat.zero_le _, rfl, HC0, HG0⟩
      case round =>
        obtain ⟨i, hi, rfl, HC, hG⟩ := hrel
        by_cases hlt : i < s.size
        · have hlp : i < (bl s).length := by rw [bl_len]; exact hlt
          obtain ⟨x0, hx0⟩ : ∃ x0, x0 = (bl s)[i]'hlp := ⟨_, rfl⟩
          obtain ⟨c, hc⟩ : ∃ c : Nat, c = x0.toNat := ⟨_, rfl⟩
          have hcb : c ≤ 255 := by rw [hc]; have := x0.toNat_lt; omega
          have h01 := HC.out i x0 (by rw [lowTo_at _ _ _ hlp, if_neg (by omega), hx0])
          rw [← hc] at h01
          obtain ⟨hcell, hfro⟩ := h01
          have HSet := Lib.hid (lowTo_set i (bl s) hlp)
          have HX0 := Lib.hid hx0
          have HC1 := Lib.hid hc
          have hb0 : (0 : Int) ≤ (i : Int) := by omega
          have hb1 : (i : Int) < (s.size : Int) := by omega
          have hes : IntKind.i64.wrap ((i : Int) + 1) = (i : Int) + 1 := by rw [IntKind.wrap_i64]; omega
          clear hx0 hc
          by_cases hgr : 65 ≤ c ∧ c ≤ 90
          · have hr1 : (65 : Int) ≤ (c : Int) := by omega
            have hr2 : (c : Int) ≤ 90 := by omega
            have hw1 : IntKind.u8.wrap ((c : Int) - 65) = (c : Int) - 65 := by
              have := IntKind.wrap_u8 ((c : Int) - 65)
              rw [this]; omega
            have hw2 : IntKind.u8.wrap ((c : Int) - 65 + 97) = (c : Int) - 65 + 97 := by
              have := IntKind.wrap_u8 ((c : Int) - 65 + 97)
              rw [this]; omega
            have HLow : Hid (((lowB x0).toNat : Int) = (c : Int) - 65 + 97) := by
              unfold Hid lowB
              rw [if_pos (by rw [← HC1.out]; exact hgr), UInt8.toNat_add, ← HC1.out]
              simp; omega
            go_wp2_with fail
            go_roundw
            case rel =>
              refine ⟨i + 1, by omega, by go_num, fun j x hx => ?_, only_set hG (.inr (Nat.le_refl _)) _⟩
              rw [← HSet.out, List.getElem?_set, ← HX0.out] at hx
              by_cases hjp : i = j
              · subst hjp
                rw [if_pos rfl, if_pos (by rw [lowTo_len]; exact hlp)] at hx
                injection hx with hx
                subst hx
                exact ⟨by rw [World.cell?_setCell_same' _ _ _ (by rw [hcell]; rfl), HLow.out], (World.frozen?_setCell _ _ _ _).trans hfro⟩
              · rw [if_neg hjp] at hx
                have h := HC.out j x hx
                exact ⟨(World.cell?_setCell_other _ _ _ _ (by simp)).trans h.1, (World.frozen?_setCell _ _ _ _).trans h.2⟩
            case measure => simp [intOf]; omega
          · have HL : Hid (lowTo (i + 1) (bl s) = lowTo i (bl s)) := lowTo_skip i 1 (bl s) (fun j hj x hx => by
              rw [show i + j = i by omega, List.getElem?_eq_getElem hlp, ← HX0.out] at hx
              injection hx with hx
              subst hx
              unfold lowB
              rw [if_neg (by rw [← HC1.out]; exact hgr)])
            have HC2 : Hid (∀ j (x : UInt8), (lowTo (i + 1) (bl s))[j]? = some x → wr.cell? ⟨w.heap.size, j, none⟩ = some (.int .u8 x.toNat) ∧ wr.frozen? ⟨w.heap.size, j, none⟩ = false) := by rw [HL.out]; exact HC
            by_cases h65 : 65 ≤ c
            · have hr1 : (65 : Int) ≤ (c : Int) := by omega
              have hr2 : ¬ (c : Int) ≤ 90 := by omega
              go_wp2_with fail
              go_roundw
              case rel => exact ⟨i + 1, by omega, by go_num, HC2, hG⟩
              case measure => simp [intOf]; omega
            · have hr1 : ¬ (65 : Int) ≤ (c : Int) := by omega
              go_wp2_with fail
              go_roundw
              case rel => exact ⟨i + 1, by omega, by go_num, HC2, hG⟩
              case measure => simp [intOf]; omega
        · have hb1 : ¬ (i : Int) < (s.size : Int) := by omega
          have hcv : (convert 36 9 (.slice (some ⟨w.heap.size, 0, none⟩) s.size cap)).run Tryd.prog wr = .ok (.string (ofB (low (bl s)))) wr := by
            have h := run_convert_bytes_back (P := Tryd.prog) wr 36 9 5 ⟨w.heap.size, 0, none⟩ cap (low (bl s)) Tryd.underlying36 Tryd.underlying5 Tryd.underlying9 (fun j hj => by
              have h := (HC.out j (low (bl s))[j] (by rw [lowTo_end _ _ (by rw [bl_len]; exact hlt)]; exact List.getElem?_eq_getElem hj)).1
              rw [Addr.add_lit]; simpa using h)
            have hll : (low (bl s)).length = s.size := by simp [low, bl_len]
            rw [hll] at h
            exact h
          go_wp2_with fail
          go_ret2
          exact ⟨rfl, hG⟩
    · clear hft
      have hu : ∀ l, upL l 1 3 = tm (low l) := fun l => by simp [upL]
      rw [hu]
      clear hu
      obtain ⟨cap, row, hcv2, HC0, HG0⟩ := bytes_start s w
      have HC0 := Lib.hid HC0
      go_enter Tryd.func10, Tryd.ntmps10
      go_wp2_with fail
      refine (HF _).out.mono ?_
      rintro _ w1 ⟨rfl, rfl⟩
      go_wp2_with fail
      refine (HT _).out.mono ?_
      rintro _ w1 ⟨rfl, rfl⟩
      go_wp2_with fail
      go_loopw [9] (fun si wr => ∃ i : Nat, i ≤ s.size ∧ si = .int .i64 i ∧ Hid (∀ j (x : UInt8), (lowTo i (bl s))[j]? = some x → wr.cell? ⟨w.heap.size, j, none⟩ = some (.int .u8 x.toNat) ∧ wr.frozen? ⟨w.heap.size, j, none⟩ = false) ∧ w.grownBy wr none)
        (fun si _ => s.size - (intOf si).toNat)
      case atStart => exact ⟨0, Nat.zero_le _, rfl, HC0, HG0⟩
      case round =>
        obtain ⟨i, hi, rfl, HC, hG⟩ := hrel
        by_cases hlt : i < s.size
        · have hlp : i < (bl s).length := by rw [bl_len]; exact hlt
          obtain ⟨x0, hx0⟩ : ∃ x0, x0 = (bl s)[i]'hlp := ⟨_, rfl⟩
          obtain ⟨c, hc⟩ : ∃ c : Nat, c = x0.toNat := ⟨_, rfl⟩
          have hcb : c ≤ 255 := by rw [hc]; have := x0.toNat_lt; omega
          have h01 := HC.out i x0 (by rw [lowTo_at _ _ _ hlp, if_neg (by omega), hx0])
          rw [← hc] at h01
          obtain ⟨hcell, hfro⟩ := h01
          have HSet := Lib.hid (lowTo_set i (bl s) hlp)
          have HX0 := Lib.hid hx0
          have HC1 := Lib.hid hc
          have hb0 : (0 : Int) ≤ (i : Int) := by omega
          have hb1 : (i : Int) < (s.size : Int) := by omega
          have hes : IntKind.i64.wrap ((i : Int) + 1) = (i : Int) + 1 := by rw [IntKind.wrap_i64]; omega
          clear hx0 hc
          by_cases hgr : 65 ≤ c ∧ c ≤ 90
          · have hr1 : (65 : Int) ≤ (c : Int) := by omega
            have hr2 : (c : Int) ≤ 90 := by omega
            have hw1 : IntKind.u8.wrap ((c : Int) - 65) = (c : Int) - 65 := by
              have := IntKind.wrap_u8 ((c : Int) - 65)
              rw [this]; omega
            have hw2 : IntKind.u8.wrap ((c : Int) - 65 + 97) = (c : Int) - 65 + 97 := by
              have := IntKind.wrap_u8 ((c : Int) - 65 + 97)
              rw [this]; omega
            have HLow : Hid (((lowB x0).toNat : Int) = (c : Int) - 65 + 97) := by
              unfold Hid lowB
              rw [if_pos (by rw [← HC1.out]; exact hgr), UInt8.toNat_add, ← HC1.out]
              simp; omega
            go_wp2_with fail
            go_roundw
            case rel =>
              refine ⟨i + 1, by omega, by go_num, fun j x hx => ?_, only_set hG (.inr (Nat.le_refl _)) _⟩
              rw [← HSet.out, List.getElem?_set, ← HX0.out] at hx
              by_cases hjp : i = j
              · subst hjp
                rw [if_pos rfl, if_pos (by rw [lowTo_len]; exact hlp)] at hx
                injection hx with hx
                subst hx
                exact ⟨by rw [World.cell?_setCell_same' _ _ _ (by rw [hcell]; rfl), HLow.out], (World.frozen?_setCell _ _ _ _).trans hfro⟩
              · rw [if_neg hjp] at hx
                have h := HC.out j x hx
                exact ⟨(World.cell?_setCell_other _ _ _ _ (by simp)).trans h.1, (World.frozen?_setCell _ _ _ _).trans h.2⟩
            case measure => simp [intOf]; omega
          · have HL : Hid (lowTo (i + 1) (bl s) = lowTo i (bl s)) := lowTo_skip i 1 (bl s) (fun j hj x hx => by
              rw [show i + j = i by omega, List.getElem?_eq_getElem hlp, ← HX0.out] at hx
              injection hx with hx
              subst hx
              unfold lowB
              rw [if_neg (by rw [← HC1.out]; exact hgr)])
            have HC2 : Hid (∀ j (x : UInt8), (lowTo (i + 1) (bl s))[j]? = some x → wr.cell? ⟨w.heap.size, j, none⟩ = some (.int .u8 x.toNat) ∧ wr.frozen? ⟨w.heap.size, j, none⟩ = false) := by rw [HL.out]; exact HC
            by_cases h65 : 65 ≤ c
            · have hr1 : (65 : Int) ≤ (c : Int) := by omega
              have hr2 : ¬ (c : Int) ≤ 90 := by omega
              go_wp2_with fail
              go_roundw
              case rel => exact ⟨i + 1, by omega, by go_num, HC2, hG⟩
              case measure => simp [intOf]; omega
            · have hr1 : ¬ (65 : Int) ≤ (c : Int) := by omega
              go_wp2_with fail
              go_roundw
              case rel => exact ⟨i + 1, by omega, by go_num, HC2, hG⟩
              case measure => simp [intOf]; omega
        · have hb1 : ¬ (i : Int) < (s.size : Int) := by omega
          have hcv : (convert 36 9 (.slice (some ⟨w.heap.size, 0, none⟩) s.size cap)).run Tryd.prog wr = .ok (.string (ofB (low (bl s)))) wr := by
            have h := run_convert_bytes_back (P := Tryd.prog) wr 36 9 5 ⟨w.heap.size, 0, none⟩ cap (low (bl s)) Tryd.underlying36 Tryd.underlying5 Tryd.underlying9 (fun j hj => by
              have h := (HC.out j (low (bl s))[j] (by rw [lowTo_end _ _ (by rw [bl_len]; exact hlt)]; exact List.getElem?_eq_getElem hj)).1
              rw [Addr.add_lit]; simpa using h)
            have hll : (low (bl s)).length = s.size := by simp [low, bl_len]
            rw [hll] at h
            exact h
          go_wp2_with fail
          obtain ⟨T1, hT1⟩ : ∃ T1, T1 = ofB (low (bl s)) := ⟨_, rfl⟩
          have hT1s : T1.size ≤ s.size := by rw [hT1, ofB_size, low_len, bl_len]; exact Nat.le_refl _
          have HT1 : Hid (low (bl s) = bl T1) := by unfold Hid; rw [hT1, bl_ofB]
          rw [← hT1]
          have HR1 : Hid (ofB (tm (low (bl s))) = ofB (tm (bl T1))) := by unfold Hid; rw [HT1.out]
          clear hT1 hcv
          obtain ⟨V, hV⟩ : ∃ V, V = wr := ⟨_, rfl⟩
          subst hV
          go_loopw [0] (fun st wx => ∃ t : ByteArray, st = .string t ∧ t.size ≤ T1.size ∧ Hid (tl (bl t) = tl (bl T1)) ∧ V = wx) (fun st _ => strSize st)
          case atStart => exact ⟨T1, rfl, Nat.le_refl _, Lib.hid rfl, rfl⟩
          case round =>
            obtain ⟨t, rfl, hts, HTt, rfl⟩ := hrel
            by_cases h0 : 0 < t.size
            · have h1 : (0 : Int) < (t.size : Int) := by omega
              by_cases hb : (((t[0]'h0).toNat : Int) == 32) = true
              · have HS := Lib.hid (tl_step t h0 hb)
                go_wp2_with fail
                go_roundw
                case rel => exact ⟨_, rfl, by simp; omega, HS.out.trans HTt.out, trivial⟩
                case measure => simp [strSize]; omega
              · have hb' : (((t[0]'h0).toNat : Int) == 32) = false := by simpa using hb
                have HS : Hid (bl t = tl (bl T1)) := (tl_stop t h0 hb').symm.trans HTt.out
                clear hb HTt
                go_wp2_with fail
                go_loopw [0] (fun st wx => ∃ u : ByteArray, st = .string u ∧ u.size ≤ t.size ∧ Hid (tr (bl u) = tr (bl t)) ∧ V = wx) (fun st _ => strSize st)
                case atStart => exact ⟨t, rfl, Nat.le_refl _, Lib.hid rfl, rfl⟩
                case round =>
                  obtain ⟨u, rfl, hus, HTu, rfl⟩ := hrel
                  by_cases k0 : 0 < u.size
                  · have k1 : (0 : Int) < (u.size : Int) := by omega
                    have k2 : u.size - 1 < u.size := by omega
                    have hw : IntKind.i64.wrap ((u.size : Int) - 1) = (u.size : Int) - 1 := by rw [IntKind.wrap_i64]; omega
                    have hi0 : (0 : Int) ≤ (u.size : Int) - 1 := by omega
                    have hi1 : (u.size : Int) - 1 < (u.size : Int) := by omega
                    have hi2 : (u.size : Int) - 1 ≤ (u.size : Int) := by omega
                    by_cases hb : (((u[u.size - 1]'k2).toNat : Int) == 32) = true
                    · have HSu := Lib.hid (tr_step u k2 hb)
                      go_wp2_with fail
                      go_roundw
                      case rel => exact ⟨_, rfl, by simp; omega, HSu.out.trans HTu.out, trivial⟩
                      case measure => simp [strSize]; omega
                    · have hb' : (((u[u.size - 1]'k2).toNat : Int) == 32) = false := by simpa using hb
                      have HSu : Hid (u = ofB (tm (bl T1))) := by
                        unfold Hid tm
                        rw [tl_tr, ← HS.out, ← HTu.out, tr_stop u k2 hb', ofB_bl]
                      clear hb
                      go_wp2_with fail
                      go_ret2
                      exact ⟨by show Ending.returned (Value.tuple #[.string u, .int .i64 0]) = _; rw [HR1.out, HSu.out], hG⟩
                  · have k1 : ¬ (0 : Int) < (u.size : Int) := by omega
                    have HSu : Hid (u = ofB (tm (bl T1))) := by
                      unfold Hid tm
                      rw [tl_tr, ← HS.out, ← HTu.out, tr_nil u k0, ofB_bl]
                    go_wp2_with fail
                    go_ret2
                    exact ⟨by show Ending.returned (Value.tuple #[.string u, .int .i64 0]) = _; rw [HR1.out, HSu.out], hG⟩
            · have h1 : ¬ (0 : Int) < (t.size : Int) := by omega
              have HS : Hid (bl t = tl (bl T1)) := (tl_nil t h0).symm.trans HTt.out
              clear HTt h0
              go_wp2_with fail
              go_loopw [0] (fun st wx => ∃ u : ByteArray, st = .string u ∧ u.size ≤ t.size ∧ Hid (tr (bl u) = tr (bl t)) ∧ V = wx) (fun st _ => strSize st)
              case atStart => exact ⟨t, rfl, Nat.le_refl _, Lib.hid rfl, rfl⟩
              case round =>
                obtain ⟨u, rfl, hus, HTu, rfl⟩ := hrel
                by_cases k0 : 0 < u.size
                · exfalso; omega
                · have k1 : ¬ (0 : Int) < (u.size : Int) := by omega
                  have HSu : Hid (u = ofB (tm (bl T1))) := by
                    unfold Hid tm
                    rw [tl_tr, ← HS.out, ← HTu.out, tr_nil u k0, ofB_bl]
                  go_wp2_with fail
                  go_ret2
                  exact ⟨by show Ending.returned (Value.tuple #[.string u, .int .i64 0]) = _; rw [HR1.out, HSu.out], hG⟩
    · exfalso; omega
    · clear hft
      have hu : ∀ l, upL l 2 2 = l := fun l => by simp [upL]
      rw [hu, ofB_bl]
      clear hu
      go_enter Tryd.func10, Tryd.ntmps10
      go_wp2_with fail
      refine (HF _).out.mono ?_
      rintro _ w1 ⟨rfl, rfl⟩
      go_wp2_with fail
      refine (HT _).out.mono ?_
      rintro _ w1 ⟨rfl, rfl⟩
      go_wp2_with fail
      go_ret2
      exact ⟨rfl, only_refl _ _⟩
    · clear hft
      have hu : ∀ l, upL l 2 3 = tm l := fun l => by simp [upL]
      rw [hu]
      clear hu
      go_enter Tryd.func10, Tryd.ntmps10
      go_wp2_with fail
      refine (HF _).out.mono ?_
      rintro _ w1 ⟨rfl, rfl⟩
      go_wp2_with fail
      refine (HT _).out.mono ?_
      rintro _ w1 ⟨rfl, rfl⟩
      go_wp2_with fail
      go_loopw [0] (fun st wx => ∃ t : ByteArray, st = .string t ∧ t.size ≤ s.size ∧ Hid (tl (bl t) = tl (bl s)) ∧ w = wx) (fun st _ => strSize st)
      case atStart => exact ⟨s, rfl, Nat.le_refl _, Lib.hid rfl, rfl⟩
      case round =>
        obtain ⟨t, rfl, hts, HTt, rfl⟩ := hrel
        by_cases h0 : 0 < t.size
        · have h1 : (0 : Int) < (t.size : Int) := by omega
          by_cases hb : (((t[0]'h0).toNat : Int) == 32) = true
          · have HS := Lib.hid (tl_step t h0 hb)
            go_wp2_with fail
            go_roundw
            case rel => exact ⟨_, rfl, by simp; omega, HS.out.trans HTt.out, trivial⟩
            case measure => simp [strSize]; omega
          · have hb' : (((t[0]'h0).toNat : Int) == 32) = false := by simpa using hb
            have HS : Hid (bl t = tl (bl s)) := (tl_stop t h0 hb').symm.trans HTt.out
            clear hb HTt
            go_wp2_with fail
            go_loopw [0] (fun st wx => ∃ u : ByteArray, st = .string u ∧ u.size ≤ t.size ∧ Hid (tr (bl u) = tr (bl t)) ∧ w = wx) (fun st _ => strSize st)
            case atStart => exact ⟨t, rfl, Nat.le_refl _, Lib.hid rfl, rfl⟩
            case round =>
              obtain ⟨u, rfl, hus, HTu, rfl⟩ := hrel
              by_cases k0 : 0 < u.size
              · have k1 : (0 : Int) < (u.size : Int) := by omega
                have k2 : u.size - 1 < u.size := by omega
                have hw : IntKind.i64.wrap ((u.size : Int) - 1) = (u.size : Int) - 1 := by rw [IntKind.wrap_i64]; omega
                have hi0 : (0 : Int) ≤ (u.size : Int) - 1 := by omega
                have hi1 : (u.size : Int) - 1 < (u.size : Int) := by omega
                have hi2 : (u.size : Int) - 1 ≤ (u.size : Int) := by omega
                by_cases hb : (((u[u.size - 1]'k2).toNat : Int) == 32) = true
                · have HSu := Lib.hid (tr_step u k2 hb)
                  go_wp2_with fail
                  go_roundw
                  case rel => exact ⟨_, rfl, by simp; omega, HSu.out.trans HTu.out, trivial⟩
                  case measure => simp [strSize]; omega
                · have hb' : (((u[u.size - 1]'k2).toNat : Int) == 32) = false := by simpa using hb
                  have HSu : Hid (u = ofB (tm (bl s))) := by
                    unfold Hid tm
                    rw [tl_tr, ← HS.out, ← HTu.out, tr_stop u k2 hb', ofB_bl]
                  clear hb
                  go_wp2_with fail
                  go_ret2
                  exact ⟨by show Ending.returned (Value.tuple #[.string u, .int .i64 0]) = _; rw [HSu.out], only_refl _ _⟩
              · have k1 : ¬ (0 : Int) < (u.size : Int) := by omega
                have HSu : Hid (u = ofB (tm (bl s))) := by
                  unfold Hid tm
                  rw [tl_tr, ← HS.out, ← HTu.out, tr_nil u k0, ofB_bl]
                go_wp2_with fail
                go_ret2
                exact ⟨by show Ending.returned (Value.tuple #[.string u, .int .i64 0]) = _; rw [HSu.out], only_refl _ _⟩
        · have h1 : ¬ (0 : Int) < (t.size : Int) := by omega
          have HS : Hid (bl t = tl (bl s)) := (tl_nil t h0).symm.trans HTt.out
          clear HTt h0
          go_wp2_with fail
          go_loopw [0] (fun st wx => ∃ u : ByteArray, st = .string u ∧ u.size ≤ t.size ∧ Hid (tr (bl u) = tr (bl t)) ∧ w = wx) (fun st _ => strSize st)
          case atStart => exact ⟨t, rfl, Nat.le_refl _, Lib.hid rfl, rfl⟩
          case round =>
            obtain ⟨u, rfl, hus, HTu, rfl⟩ := hrel
            by_cases k0 : 0 < u.size
            · exfalso; omega
            · have k1 : ¬ (0 : Int) < (u.size : Int) := by omega
              have HSu : Hid (u = ofB (tm (bl s))) := by
                unfold Hid tm
                rw [tl_tr, ← HS.out, ← HTu.out, tr_nil u k0, ofB_bl]
              go_wp2_with fail
              go_ret2
              exact ⟨by show Ending.returned (Value.tuple #[.string u, .int .i64 0]) = _; rw [HSu.out], only_refl _ _⟩
    · exfalso; omega
    · exfalso; omega
    · clear hft
      have hu : ∀ l, upL l 3 3 = l := fun l => by simp [upL]
      rw [hu, ofB_bl]
      clear hu
      go_enter Tryd.func10, Tryd.ntmps10
      go_wp2_with fail
      refine (HF _).out.mono ?_
      rintro _ w1 ⟨rfl, rfl⟩
      go_wp2_with fail
      refine (HT _).out.mono ?_
      rintro _ w1 ⟨rfl, rfl⟩
      go_wp2_with fail
      go_ret2
      exact ⟨rfl, only_refl _ _⟩
  · have hv : upS s f t = { data := #[] } := by unfold upS; rw [if_neg h0]
    rw [hv]
    clear hv
    cases vf : isV f
    · have hc : chk f t = 1 := by simp [chk, vf]
      rw [hc]
      rw [vf] at HF
      clear hc vf h0 HT
      go_enter Tryd.func10, Tryd.ntmps10
      go_wp2_with fail
      refine (HF _).out.mono ?_
      rintro _ w1 ⟨rfl, rfl⟩
      go_wp2_with fail
      go_ret2
      exact ⟨rfl, only_refl _ _⟩
    · cases vt : isV t
      · have hc : chk f t = 1 := by simp [chk, vt]
        rw [hc]
        rw [vf] at HF
        rw [vt] at HT
        clear hc vf vt h0
        go_enter Tryd.func10, Tryd.ntmps10
        go_wp2_with fail
        refine (HF _).out.mono ?_
        rintro _ w1 ⟨rfl, rfl⟩
        go_wp2_with fail
        refine (HT _).out.mono ?_
        rintro _ w1 ⟨rfl, rfl⟩
        go_wp2_with fail
        go_ret2
        exact ⟨rfl, only_refl _ _⟩
      · have hlt : t < f := by
          by_cases h : t < f
          · exact h
          · exact absurd (by simp [chk, vf, vt, h]) h0
        have hc : chk f t = 13 := by simp [chk, vf, vt, hlt]
        rw [hc]
        rw [vf] at HF
        rw [vt] at HT
        clear hc vf vt h0
        go_enter Tryd.func10, Tryd.ntmps10
        go_wp2_with fail
        refine (HF _).out.mono ?_
        rintro _ w1 ⟨rfl, rfl⟩
        go_wp2_with fail
        refine (HT _).out.mono ?_
        rintro _ w1 ⟨rfl, rfl⟩
        go_wp2_with fail
        go_ret2
        exact ⟨rfl, only_refl _ _⟩
theorem rpick_any (f t : Int) (w : World) :
    Calls Tryd.prog 12 #[.int .i64 f, .int .i64 t] w fun e w' => e = .returned (.tuple #[.int .i64 (if chk f t = 0 then f else 0), .int .i64 (chk f t)]) ∧ w = w' := by
  have HF := fun w => Lib.hid (version_any f w)
  have HT := fun w => Lib.hid (version_any t w)
  cases vf : isV f
  · have hc : chk f t = 1 := by simp [chk, vf]
    rw [hc, if_neg (by decide)]
    rw [vf] at HF
    clear hc vf HT
    go_enter Tryd.func12, Tryd.ntmps12
    go_wp2_with fail
    refine (HF _).out.mono ?_
    rintro _ w1 ⟨rfl, rfl⟩
    go_wp2_with fail
    go_ret2
    exact ⟨rfl, rfl⟩
  · cases vt : isV t
    · have hc : chk f t = 1 := by simp [chk, vt]
      rw [hc, if_neg (by decide)]
      rw [vf] at HF
      rw [vt] at HT
      clear hc vf vt
      go_enter Tryd.func12, Tryd.ntmps12
      go_wp2_with fail
      refine (HF _).out.mono ?_
      rintro _ w1 ⟨rfl, rfl⟩
      go_wp2_with fail
      refine (HT _).out.mono ?_
      rintro _ w1 ⟨rfl, rfl⟩
      go_wp2_with fail
      go_ret2
      exact ⟨rfl, rfl⟩
    · by_cases hlt : t < f
      · have hc : chk f t = 13 := by simp [chk, vf, vt, hlt]
        rw [hc, if_neg (by decide)]
        rw [vf] at HF
        rw [vt] at HT
        clear hc vf vt
        go_enter Tryd.func12, Tryd.ntmps12
        go_wp2_with fail
        refine (HF _).out.mono ?_
        rintro _ w1 ⟨rfl, rfl⟩
        go_wp2_with fail
        refine (HT _).out.mono ?_
        rintro _ w1 ⟨rfl, rfl⟩
        go_wp2_with fail
        go_ret2
        exact ⟨rfl, rfl⟩
      · have hc : chk f t = 0 := by simp [chk, vf, vt, hlt]
        rw [hc, if_pos rfl]
        rw [vf] at HF
        rw [vt] at HT
        clear hc vf vt
        go_enter Tryd.func12, Tryd.ntmps12
        go_wp2_with fail
        refine (HF _).out.mono ?_
        rintro _ w1 ⟨rfl, rfl⟩
        go_wp2_with fail
        refine (HT _).out.mono ?_
        rintro _ w1 ⟨rfl, rfl⟩
        go_wp2_with fail
        go_ret2
        exact ⟨rfl, rfl⟩
end Go.Proofs.YtjgbflgeicejeaaDoor
