/- The walk of DiskRoom: it returns true for every input. No condition. -/
import Derived.Test.YtmjfemnjkgfgfaaStops
namespace Go.Proofs.Ytmjfemnjkgfgfaa
open Go.RowKit Go.Deep

/-- How a disk of R bytes stands behind i rounds: its log has lo bytes, its snapshot sp. -/
structure Rv (R : Int) (lo sp i : Nat) (d : DS) : Prop where
  rm : d.rm = R
  st : d.st = 0
  dd : d.dd = false
  l : d.L.length = lo
  s : d.S.length = sp
  sy : 0 ≤ d.sy ∧ d.sy ≤ lo
  sn : 0 ≤ d.sn ∧ d.sn ≤ i
  op : 0 ≤ d.op ∧ d.op ≤ i
  lo : lo ≤ 200
  sp : sp ≤ 200
  r0 : 1 ≤ R ∧ R ≤ 200
  i0 : i ≤ 30
theorem Rv.ok {R : Int} {lo sp i : Nat} {d : DS} (h : Rv R lo sp i d) : Ok d := by
  have h1 := h.rm; have h2 := h.st; have h3 := h.l; have h4 := h.s; have h5 := h.sy; have h6 := h.sn; have h7 := h.op; have h8 := h.lo; have h9 := h.sp; have h10 := h.r0; have h11 := h.i0
  exact ⟨by omega, by omega, by omega, by omega, by omega, by omega, by omega⟩
theorem Rv.wait {R : Int} {lo sp i : Nat} {d : DS} (h : Rv R lo sp i d) (hi : i < 30) : Rv R lo sp (i + 1) d :=
  ⟨h.rm, h.st, h.dd, h.l, h.s, h.sy, by have := h.sn; omega, by have := h.op; omega, h.lo, h.sp, h.r0, by omega⟩
theorem never (sn : Int) : goes 0 sn = false := by rw [goes_iff, decide_eq_false_iff_not]; omega
theorem Rv.spend {R : Int} {lo sp lo' sp' i : Nat} {d d' : DS} (h : Rv R lo sp i d) (hi : i < 30) (e1 : d'.rm = d.rm) (e2 : d'.st = d.st) (e3 : d'.sn = d.sn + 1) (e4 : d'.op = spO d.st d.sn d.op) (e5 : d'.dd = (d.dd || goes d.st d.sn))
    (l1 : d'.L.length = lo') (s1 : d'.S.length = sp') (y1 : 0 ≤ d'.sy ∧ d'.sy ≤ lo') (l2 : lo' ≤ 200) (s2 : sp' ≤ 200) : Rv R lo' sp' (i + 1) d' ∧ spR d.st d.sn = 0 := by
  have hg : goes d.st d.sn = false := by rw [h.st]; exact never _
  have h6 := h.sn; have h7 := h.op
  exact ⟨⟨by rw [e1, h.rm], by rw [e2, h.st], by rw [e5, hg, h.dd]; rfl, l1, s1, y1, by omega, by rw [e4, spO, if_neg (by rw [hg]; decide)]; omega, l2, s2, h.r0, by omega⟩, by rw [spR, if_neg (by rw [hg]; decide)]⟩
theorem Rv.append {R : Int} {lo sp i k : Nat} {d : DS} (h : Rv R lo sp i d) (hi : i < 30) (hf : ¬ R < (lo : Int) + sp + k) : Rv R (lo + k) sp (i + 1) (appendS d (List.replicate k 0)) ∧ appendE d (List.replicate k 0) = 0 := by
  have h1 := h.rm; have h3 := h.l; have h4 := h.s; have h5 := h.sy; have h9 := h.r0
  have hf2 : ¬ d.rm < (d.L.length : Int) + d.S.length + (List.replicate k (0 : Int)).length := by rw [List.length_replicate]; omega
  rw [show appendS d (List.replicate k 0) = spendS { d with L := d.L ++ List.replicate k 0 } by unfold appendS; rw [if_neg (by rw [h.dd]; simp only [Bool.false_eq_true, false_or]; exact hf2)], show appendE d (List.replicate k 0) = spendE d by unfold appendE; rw [if_neg (by rw [h.dd]; decide), if_neg hf2]]
  exact h.spend hi rfl rfl rfl rfl rfl (by show (d.L ++ List.replicate k 0).length = _; rw [List.length_append, List.length_replicate]; omega) h4 (by show 0 ≤ d.sy ∧ d.sy ≤ _; omega) (by omega) h.sp
theorem Rv.swap {R : Int} {lo sp i k : Nat} {d : DS} (h : Rv R lo sp i d) (hi : i < 30) (hf : ¬ R < (k : Int)) : Rv R 0 k (i + 1) (swapS d (List.replicate k 0)) ∧ swapE d (List.replicate k 0) = 0 := by
  have h1 := h.rm; have h9 := h.r0
  have hf2 : ¬ d.rm < ((List.replicate k (0 : Int)).length : Int) := by rw [List.length_replicate]; omega
  have hdn : doneB d = true := by unfold doneB; rw [h.st, never]; rfl
  rw [show swapS d (List.replicate k 0) = keepS { spendS d with S := List.replicate k 0 } 0 by unfold swapS; rw [if_neg (by rw [h.dd]; simp only [Bool.false_eq_true, false_or]; exact hf2), if_pos hdn], show swapE d (List.replicate k 0) = spR d.st d.sn by unfold swapE; rw [if_neg (by rw [h.dd]; decide), if_neg hf2]]
  exact h.spend hi rfl rfl rfl rfl rfl (by show (d.L.take 0).length = 0; rfl) (by show (List.replicate k (0 : Int)).length = k; exact List.length_replicate) ⟨Int.le_refl _, Int.le_refl _⟩ (by omega) (by omega)
theorem Rv.cut {R : Int} {lo sp i k : Nat} {d : DS} (h : Rv R lo sp i d) (hi : i < 30) (hf : ¬ lo < k) : Rv R k sp (i + 1) (cutS d (k : Int)) ∧ cutE d (k : Int) = 0 := by
  have h3 := h.l; have h8 := h.lo
  have hf2 : ¬ ((k : Int) < 0 ∨ (d.L.length : Int) < (k : Int)) := by omega
  have hdn : doneB d = true := by unfold doneB; rw [h.st, never]; rfl
  rw [show cutS d (k : Int) = keepS (spendS d) k by unfold cutS; rw [if_neg (by rw [h.dd]; simp only [Bool.false_eq_true, false_or]; exact hf2), if_pos hdn, Int.toNat_natCast], show cutE d (k : Int) = spR d.st d.sn by unfold cutE; rw [if_neg (by rw [h.dd]; decide), if_neg hf2]]
  exact h.spend hi rfl rfl rfl rfl rfl (by show (d.L.take k).length = k; rw [List.length_take]; omega) h.s ⟨by show (0 : Int) ≤ (k : Int); omega, Int.le_refl _⟩ (by omega) h.sp

set_option maxRecDepth 100000 in
set_option maxHeartbeats 4000000 in
theorem diskRoom_walk (n : Int) (A : Option Addr) (cap : Nat) (sizes : List Int) (w : World) (n1 : -9223372036854775808 ≤ n) (n2 : n ≤ 9223372036854775807) (hA : Has w w.heap.size A (sizes.map (Value.int .i64))) (_ : sizes.length ≤ maxLen)
    (hkb : ∀ x ∈ sizes, -9223372036854775808 ≤ x ∧ x ≤ 9223372036854775807) :
    Calls Try.prog 7 #[.int .i64 n, .slice A sizes.length cap] w fun e w' => e = .returned (.bool true) ∧ Below w.heap.size w w' := by

  have KN := fun W => Lib.hid (known_any W)
  have WN := fun W => Lib.hid (within_any n 200 n1 n2 (by omega) (by omega) W)
  have pn1 := Int.emod_nonneg n (show (200 : Int) ≠ 0 by decide)
  have pn2 := Int.emod_lt_of_pos n (show (0 : Int) < 200 by decide)
  obtain ⟨q, hq⟩ : ∃ q, q = n % 200 := ⟨_, rfl⟩
  rw [← hq] at WN pn1 pn2
  have hw0 : IntKind.i64.wrap (1 + q) = 1 + q := by rw [IntKind.wrap_i64]; omega
  have HA := Lib.hid hA
  have HKB := Lib.hid hkb
  clear hq hA hkb
  go_enter Try.func7, Try.ntmps7
  go_wp2_with fail
  refine (KN _).out.mono ?_
  rintro _ w1 ⟨rfl, b1⟩
  have z1 := b1.size
  go_wp2_with fail
  refine (WN _).out.mono ?_
  rintro _ w3 ⟨rfl, rfl⟩
  have NW := Lib.hid (new_any w.heap.size (1 + q) w1 (by omega) (by omega) z1)
  go_wp2_with fail
  refine NW.out.mono ?_
  rintro _ w2 ⟨g, rfl, D2, g2⟩
  have hgB := D2.lt
  have b2 : Below w.heap.size w w2 := b1.trans (bel g2 (fun _ h => by cases h) z1)
  have SV0 : Hid (Rv (1 + q) 0 0 0 (newS (1 + q))) := ⟨rfl, rfl, rfl, rfl, rfl, ⟨Int.le_refl _, Int.le_refl _⟩, ⟨Int.le_refl _, Int.le_refl _⟩, ⟨Int.le_refl _, Int.le_refl _⟩, by omega, by omega, by omega, by omega⟩
  obtain ⟨R, hR⟩ : ∃ R, R = 1 + q := ⟨_, rfl⟩
  rw [← hR] at SV0 D2 ⊢
  have D3 := Lib.hid D2
  have hRb : 1 ≤ R ∧ R ≤ 200 := by omega
  have b3 := b2
  clear hR WN hw0 b1 b2 NW g2 pn1 pn2 D2
  go_wp2_with fail
  go_loopw [7, 8, 9] (fun sl sp si wr => ∃ (lo s i : Nat) (d : DS), i ≤ sizes.length ∧ sl = .int .i64 lo ∧ sp = .int .i64 s ∧ si = .int .i64 i ∧ Hid (Dk wr w.heap.size g d) ∧ Hid (Rv R lo s i d) ∧ Below w.heap.size w wr)
    (fun _ _ si _ => 30 - (intOf si).toNat)
  case atStart => exact ⟨0, 0, 0, _, Nat.zero_le _, rfl, rfl, rfl, D3, SV0, b3⟩
  case round =>
    clear D3 SV0 b3
    obtain ⟨lo, s, i, d, hi, rfl, rfl, rfl, HD, HS, hB⟩ := hrel
    have hzr := hB.size
    have hlo := HS.out.lo
    have hsp := HS.out.sp
    by_cases hlt : i < sizes.length ∧ i < 30
    · obtain ⟨hl1, hl2⟩ := hlt
      have t1 : (i : Int) < (sizes.length : Int) := by omega
      have t2 : (i : Int) < 30 := by omega
      have t0 : (0 : Int) ≤ (i : Int) := by omega
      have hes : IntKind.i64.wrap ((i : Int) + 1) = (i : Int) + 1 := by rw [IntKind.wrap_i64]; omega
      obtain ⟨bb, off, x, rfl, hxb, hbl, hcell⟩ : ∃ bb off x, A = some ⟨bb, off, none⟩ ∧ (-9223372036854775808 ≤ x ∧ x ≤ 9223372036854775807) ∧ bb < w.heap.size ∧ wr.cell? ⟨bb, off + i, none⟩ = some (.int .i64 x) := by
        have hx : (sizes.map (Value.int .i64))[i]? = some (.int .i64 sizes[i]) := by simp [hl1]
        rcases HA.out with h0 | ⟨bb, off, hA, hb, hc⟩
        · rw [h0] at hx; cases hx
        · exact ⟨bb, off, sizes[i], hA, HKB.out _ (List.getElem_mem hl1), hb, (hB.cell (p := ⟨bb, off + i, none⟩) hb).trans (hc i _ hx)⟩
      have hWm : ∀ (m : Int), x % 3 = m → ∀ W, Hid (Calls Try.prog 12 #[.int .i64 x, .int .i64 3] W fun e w' => e = .returned (.int .i64 m) ∧ W = w') := fun m hm W => by
        rw [← hm]; exact within_any x 3 hxb.1 hxb.2 (by omega) (by omega) W
      have hT : -9223372036854775808 ≤ x.tdiv 3 ∧ x.tdiv 3 ≤ 9223372036854775807 := by
        rcases Int.le_total 0 x with h0 | h0
        · rw [Int.tdiv_eq_ediv_of_nonneg h0]; omega
        · have h1 : x.tdiv 3 = -((-x).tdiv 3) := by rw [Int.neg_tdiv, Int.neg_neg]
          rw [h1, Int.tdiv_eq_ediv_of_nonneg (by omega)]; omega
      have kb1 := Int.emod_nonneg (x.tdiv 3) (show (60 : Int) ≠ 0 by decide)
      have kb2 := Int.emod_lt_of_pos (x.tdiv 3) (show (0 : Int) < 60 by decide)
      have hWk := fun W => within_any (x.tdiv 3) 60 hT.1 hT.2 (by omega) (by omega) W
      obtain ⟨k, hk⟩ : ∃ k : Nat, (x.tdiv 3) % 60 = (k : Int) := ⟨((x.tdiv 3) % 60).toNat, by omega⟩
      rw [hk] at hWk kb1 kb2
      have hWk := fun W => Lib.hid (hWk W)
      have h6 : x % 3 = 0 ∨ x % 3 = 1 ∨ x % 3 = 2 := by omega
      have HW := Lib.hid (HS.out.wait hl2)
      have HK := Lib.hid HS.out.ok
      have RM := Lib.hid HS.out.rm
      have DDa := Lib.hid HS.out.dd
      have HLl := Lib.hid HS.out.l
      have HSl := Lib.hid HS.out.s
      have w1 : IntKind.i64.wrap ((lo : Int) + (s : Int)) = (lo : Int) + (s : Int) := by rw [IntKind.wrap_i64]; omega
      have w2 : IntKind.i64.wrap ((lo : Int) + (s : Int) + (k : Int)) = (lo : Int) + (s : Int) + (k : Int) := by rw [IntKind.wrap_i64]; omega
      have w3 : IntKind.i64.wrap ((lo : Int) + (k : Int)) = (lo : Int) + (k : Int) := by rw [IntKind.wrap_i64]; omega
      have LGT : ∀ (d2 : DS) (lo2 : Nat), d2.L.length = lo2 → lo2 ≤ 200 → ∀ W, Dk W w.heap.size g d2 → Hid (Calls Try.prog 25 #[.pointer (some ⟨g, 0, none⟩)] W fun e w' => (∃ A c, e = .returned (.slice A lo2 c)) ∧ W.grownBy w' none) := fun d2 lo2 h1 h2 W hW =>
        (log_any w.heap.size g d2 W hW (by omega)).mono fun _ _ ⟨⟨v, he, ho⟩, hg⟩ => by
          obtain ⟨A, c, rfl⟩ := own_slice ho
          rw [h1] at he
          exact ⟨⟨A, c, he⟩, hg⟩
      have SNT : ∀ (d2 : DS) (s2 : Nat), d2.S.length = s2 → s2 ≤ 200 → ∀ W, Dk W w.heap.size g d2 → Hid (Calls Try.prog 26 #[.pointer (some ⟨g, 0, none⟩)] W fun e w' => (∃ A c, e = .returned (.slice A s2 c)) ∧ W.grownBy w' none) := fun d2 s2 h1 h2 W hW =>
        (snap_any w.heap.size g d2 W hW (by omega)).mono fun _ _ ⟨⟨v, he, ho⟩, hg⟩ => by
          obtain ⟨A, c, rfl⟩ := own_slice ho
          rw [h1] at he
          exact ⟨⟨A, c, he⟩, hg⟩
      clear hk hT
      rcases h6 with h6 | h6 | h6
      · by_cases hf : R < (lo : Int) + s + k
        · as_aux_lemma =>
            have hmk := run_make_row' (P := Try.prog) 31 5 (.int .u8 0) 1 Try.underlying31 Try.info_u8 rfl .i64 .i64 k (by omega) (by omega) wr
            obtain ⟨row, hrow⟩ : ∃ row, row = madeCells #[Value.int .u8 0] k := ⟨_, rfl⟩
            have hrl : Hid (row.toList = bs (List.replicate k 0)) := by unfold Hid; rw [hrow]; exact made_list k
            rw [← hrow] at hmk
            clear hrow
            have HDa : Hid (Dk (wr.alloc (.cells row 5)) w.heap.size g d) := HD.out.below (World.grownBy_alloc wr _ none)
            have hln : (List.replicate k (0 : Int)).length = k := List.length_replicate
            have EQE : appendE d (List.replicate k 0) = 17 := by
              have h1 := RM.out; have h3 := HLl.out; have h4 := HSl.out
              unfold appendE
              rw [if_neg (by rw [DDa.out]; decide), if_pos (by rw [List.length_replicate]; omega)]
            obtain ⟨d2, hd2⟩ : ∃ d2, d2 = d := ⟨_, rfl⟩
            have EQD : appendS d (List.replicate k 0) = d2 := by
              have h1 := RM.out; have h3 := HLl.out; have h4 := HSl.out
              unfold appendS
              rw [if_pos (.inr (by rw [List.length_replicate]; omega)), hd2]
            have SV2 : Hid (Rv R lo s (i + 1) d2) := by rw [hd2]; exact HW
            have CT : Hid (Calls Try.prog 13 #[.pointer (some ⟨g, 0, none⟩), .slice (some ⟨wr.heap.size, 0, none⟩) k k] (wr.alloc (.cells row 5)) fun e w' => e = .returned (.int .i64 17) ∧ Dk w' w.heap.size g d2 ∧ Below w.heap.size w w') := by
              have h := append_any w.heap.size g d (some ⟨wr.heap.size, 0, none⟩) k (List.replicate k 0) _ HDa.out HK.out (has_new wr row _ hrl.out) (by rw [hln]; omega)
              rw [hln, EQE, EQD] at h
              exact h.mono fun _ _ ⟨h1, h2, h3⟩ => ⟨h1, h2, (hB.trans (bel (World.grownBy_alloc wr (.cells row 5) none) (fun _ h => by cases h) hzr)).trans h3⟩
            have t5 : R < (lo : Int) + (s : Int) + (k : Int) := hf
            have LG := LGT d2 lo SV2.out.l (by omega)
            have SN := SNT d2 s SV2.out.s (by omega)
            have hW := hWm _ h6
            clear hWm h6 LGT SNT EQE EQD hd2 hrl HDa hln
            go_wp2_with fail
            refine (hWk _).out.mono ?_
            rintro _ w5 ⟨rfl, rfl⟩
            go_wp2_with fail
            refine (hW _).out.mono ?_
            rintro _ w5 ⟨rfl, rfl⟩
            go_wp2_with fail
            refine CT.out.mono ?_
            rintro _ w6 ⟨rfl, D6, b6⟩
            have z6 := b6.size
            go_wp2_with fail
            refine (LG _ D6).out.mono ?_
            rintro _ w7 ⟨⟨A7, c7, rfl⟩, g7⟩
            have D7 := D6.below g7
            have b7 := b6.trans (bel g7 (fun _ h => by cases h) z6)
            have z7 := b7.size
            go_wp2_with fail
            refine (SN _ D7).out.mono ?_
            rintro _ w8 ⟨⟨A8, c8, rfl⟩, g8⟩
            have D8 := D7.below g8
            have b8 := b7.trans (bel g8 (fun _ h => by cases h) z7)
            go_wp2_with fail
            go_roundw
            case rel => exact ⟨lo, s, i + 1, d2, by omega, by go_num, by go_num, by go_num, D8, SV2, b8⟩
            case measure => simp [intOf]; omega
        · as_aux_lemma =>
            have hmk := run_make_row' (P := Try.prog) 31 5 (.int .u8 0) 1 Try.underlying31 Try.info_u8 rfl .i64 .i64 k (by omega) (by omega) wr
            obtain ⟨row, hrow⟩ : ∃ row, row = madeCells #[Value.int .u8 0] k := ⟨_, rfl⟩
            have hrl : Hid (row.toList = bs (List.replicate k 0)) := by unfold Hid; rw [hrow]; exact made_list k
            rw [← hrow] at hmk
            clear hrow
            have HDa : Hid (Dk (wr.alloc (.cells row 5)) w.heap.size g d) := HD.out.below (World.grownBy_alloc wr _ none)
            have hln : (List.replicate k (0 : Int)).length = k := List.length_replicate
            have SP9 := HS.out.append (k := k) hl2 hf
            have EQE : appendE d (List.replicate k 0) = 0 := SP9.2
            obtain ⟨d2, hd2⟩ : ∃ d2, d2 = appendS d (List.replicate k 0) := ⟨_, rfl⟩
            have EQD : appendS d (List.replicate k 0) = d2 := hd2.symm
            have SV2 : Hid (Rv R (lo + k) s (i + 1) d2) := by rw [hd2]; exact SP9.1
            clear SP9
            have CT : Hid (Calls Try.prog 13 #[.pointer (some ⟨g, 0, none⟩), .slice (some ⟨wr.heap.size, 0, none⟩) k k] (wr.alloc (.cells row 5)) fun e w' => e = .returned (.int .i64 0) ∧ Dk w' w.heap.size g d2 ∧ Below w.heap.size w w') := by
              have h := append_any w.heap.size g d (some ⟨wr.heap.size, 0, none⟩) k (List.replicate k 0) _ HDa.out HK.out (has_new wr row _ hrl.out) (by rw [hln]; omega)
              rw [hln, EQE, EQD] at h
              exact h.mono fun _ _ ⟨h1, h2, h3⟩ => ⟨h1, h2, (hB.trans (bel (World.grownBy_alloc wr (.cells row 5) none) (fun _ h => by cases h) hzr)).trans h3⟩
            have t5 : ¬ R < (lo : Int) + (s : Int) + (k : Int) := hf
            have LG := LGT d2 (lo + k) SV2.out.l (by omega)
            have SN := SNT d2 s SV2.out.s (by omega)
            have hW := hWm _ h6
            clear hWm h6 LGT SNT EQE EQD hd2 hrl HDa hln
            go_wp2_with fail
            refine (hWk _).out.mono ?_
            rintro _ w5 ⟨rfl, rfl⟩
            go_wp2_with fail
            refine (hW _).out.mono ?_
            rintro _ w5 ⟨rfl, rfl⟩
            go_wp2_with fail
            refine CT.out.mono ?_
            rintro _ w6 ⟨rfl, D6, b6⟩
            have z6 := b6.size
            go_wp2_with fail
            refine (LG _ D6).out.mono ?_
            rintro _ w7 ⟨⟨A7, c7, rfl⟩, g7⟩
            have D7 := D6.below g7
            have b7 := b6.trans (bel g7 (fun _ h => by cases h) z6)
            have z7 := b7.size
            go_wp2_with fail
            refine (SN _ D7).out.mono ?_
            rintro _ w8 ⟨⟨A8, c8, rfl⟩, g8⟩
            have D8 := D7.below g8
            have b8 := b7.trans (bel g8 (fun _ h => by cases h) z7)
            go_wp2_with fail
            go_roundw
            case rel => exact ⟨(lo + k), s, i + 1, d2, by omega, by go_num, by go_num, by go_num, D8, SV2, b8⟩
            case measure => simp [intOf]; omega
      · by_cases hf : R < (k : Int)
        · as_aux_lemma =>
            have hmk := run_make_row' (P := Try.prog) 31 5 (.int .u8 0) 1 Try.underlying31 Try.info_u8 rfl .i64 .i64 k (by omega) (by omega) wr
            obtain ⟨row, hrow⟩ : ∃ row, row = madeCells #[Value.int .u8 0] k := ⟨_, rfl⟩
            have hrl : Hid (row.toList = bs (List.replicate k 0)) := by unfold Hid; rw [hrow]; exact made_list k
            rw [← hrow] at hmk
            clear hrow
            have HDa : Hid (Dk (wr.alloc (.cells row 5)) w.heap.size g d) := HD.out.below (World.grownBy_alloc wr _ none)
            have hln : (List.replicate k (0 : Int)).length = k := List.length_replicate
            have EQE : swapE d (List.replicate k 0) = 17 := by
              have h1 := RM.out
              unfold swapE
              rw [if_neg (by rw [DDa.out]; decide), if_pos (by rw [List.length_replicate]; omega)]
            obtain ⟨d2, hd2⟩ : ∃ d2, d2 = d := ⟨_, rfl⟩
            have EQD : swapS d (List.replicate k 0) = d2 := by
              have h1 := RM.out
              unfold swapS
              rw [if_pos (.inr (by rw [List.length_replicate]; omega)), hd2]
            have SV2 : Hid (Rv R lo s (i + 1) d2) := by rw [hd2]; exact HW
            have CT : Hid (Calls Try.prog 21 #[.pointer (some ⟨g, 0, none⟩), .slice (some ⟨wr.heap.size, 0, none⟩) k k] (wr.alloc (.cells row 5)) fun e w' => e = .returned (.int .i64 17) ∧ Dk w' w.heap.size g d2 ∧ Below w.heap.size w w') := by
              have hgr := HD.out.lt
              have h := swap_any w.heap.size g d (some ⟨wr.heap.size, 0, none⟩) k (List.replicate k 0) _ HDa.out HK.out (fun W hW => has_apart (has_new wr row _ hrl.out) hW (fun o e => by injection e with e; injection e with e; omega)) (by rw [hln]; omega)
              rw [hln, EQE, EQD] at h
              exact h.mono fun _ _ ⟨h1, h2, h3⟩ => ⟨h1, h2, (hB.trans (bel (World.grownBy_alloc wr (.cells row 5) none) (fun _ h => by cases h) hzr)).trans (bel h3 (fun k hk => by cases hk; exact hgB.1) (by simp; omega))⟩
            have t5 : R < (k : Int) := hf
            have LG := LGT d2 lo SV2.out.l (by omega)
            have SN := SNT d2 s SV2.out.s (by omega)
            have hW := hWm _ h6
            clear hWm h6 LGT SNT EQE EQD hd2 hrl HDa hln
            go_wp2_with fail
            refine (hWk _).out.mono ?_
            rintro _ w5 ⟨rfl, rfl⟩
            go_wp2_with fail
            refine (hW _).out.mono ?_
            rintro _ w5 ⟨rfl, rfl⟩
            go_wp2_with fail
            refine CT.out.mono ?_
            rintro _ w6 ⟨rfl, D6, b6⟩
            have z6 := b6.size
            go_wp2_with fail
            refine (LG _ D6).out.mono ?_
            rintro _ w7 ⟨⟨A7, c7, rfl⟩, g7⟩
            have D7 := D6.below g7
            have b7 := b6.trans (bel g7 (fun _ h => by cases h) z6)
            have z7 := b7.size
            go_wp2_with fail
            refine (SN _ D7).out.mono ?_
            rintro _ w8 ⟨⟨A8, c8, rfl⟩, g8⟩
            have D8 := D7.below g8
            have b8 := b7.trans (bel g8 (fun _ h => by cases h) z7)
            go_wp2_with fail
            go_roundw
            case rel => exact ⟨lo, s, i + 1, d2, by omega, by go_num, by go_num, by go_num, D8, SV2, b8⟩
            case measure => simp [intOf]; omega
        · as_aux_lemma =>
            have hmk := run_make_row' (P := Try.prog) 31 5 (.int .u8 0) 1 Try.underlying31 Try.info_u8 rfl .i64 .i64 k (by omega) (by omega) wr
            obtain ⟨row, hrow⟩ : ∃ row, row = madeCells #[Value.int .u8 0] k := ⟨_, rfl⟩
            have hrl : Hid (row.toList = bs (List.replicate k 0)) := by unfold Hid; rw [hrow]; exact made_list k
            rw [← hrow] at hmk
            clear hrow
            have HDa : Hid (Dk (wr.alloc (.cells row 5)) w.heap.size g d) := HD.out.below (World.grownBy_alloc wr _ none)
            have hln : (List.replicate k (0 : Int)).length = k := List.length_replicate
            have SP9 := HS.out.swap (k := k) hl2 hf
            have EQE : swapE d (List.replicate k 0) = 0 := SP9.2
            obtain ⟨d2, hd2⟩ : ∃ d2, d2 = swapS d (List.replicate k 0) := ⟨_, rfl⟩
            have EQD : swapS d (List.replicate k 0) = d2 := hd2.symm
            have SV2 : Hid (Rv R 0 k (i + 1) d2) := by rw [hd2]; exact SP9.1
            clear SP9
            have CT : Hid (Calls Try.prog 21 #[.pointer (some ⟨g, 0, none⟩), .slice (some ⟨wr.heap.size, 0, none⟩) k k] (wr.alloc (.cells row 5)) fun e w' => e = .returned (.int .i64 0) ∧ Dk w' w.heap.size g d2 ∧ Below w.heap.size w w') := by
              have hgr := HD.out.lt
              have h := swap_any w.heap.size g d (some ⟨wr.heap.size, 0, none⟩) k (List.replicate k 0) _ HDa.out HK.out (fun W hW => has_apart (has_new wr row _ hrl.out) hW (fun o e => by injection e with e; injection e with e; omega)) (by rw [hln]; omega)
              rw [hln, EQE, EQD] at h
              exact h.mono fun _ _ ⟨h1, h2, h3⟩ => ⟨h1, h2, (hB.trans (bel (World.grownBy_alloc wr (.cells row 5) none) (fun _ h => by cases h) hzr)).trans (bel h3 (fun k hk => by cases hk; exact hgB.1) (by simp; omega))⟩
            have t5 : ¬ R < (k : Int) := hf
            have LG := LGT d2 0 SV2.out.l (by omega)
            have SN := SNT d2 k SV2.out.s (by omega)
            have hW := hWm _ h6
            clear hWm h6 LGT SNT EQE EQD hd2 hrl HDa hln
            go_wp2_with fail
            refine (hWk _).out.mono ?_
            rintro _ w5 ⟨rfl, rfl⟩
            go_wp2_with fail
            refine (hW _).out.mono ?_
            rintro _ w5 ⟨rfl, rfl⟩
            go_wp2_with fail
            refine CT.out.mono ?_
            rintro _ w6 ⟨rfl, D6, b6⟩
            have z6 := b6.size
            go_wp2_with fail
            refine (LG _ D6).out.mono ?_
            rintro _ w7 ⟨⟨A7, c7, rfl⟩, g7⟩
            have D7 := D6.below g7
            have b7 := b6.trans (bel g7 (fun _ h => by cases h) z6)
            have z7 := b7.size
            go_wp2_with fail
            refine (SN _ D7).out.mono ?_
            rintro _ w8 ⟨⟨A8, c8, rfl⟩, g8⟩
            have D8 := D7.below g8
            have b8 := b7.trans (bel g8 (fun _ h => by cases h) z7)
            go_wp2_with fail
            go_roundw
            case rel => exact ⟨0, k, i + 1, d2, by omega, by go_num, by go_num, by go_num, D8, SV2, b8⟩
            case measure => simp [intOf]; omega
      · by_cases hf : lo < k
        · as_aux_lemma =>
            have EQE : cutE d (k : Int) = 1 := by
              have h3 := HLl.out
              unfold cutE
              rw [if_neg (by rw [DDa.out]; decide), if_pos (by omega)]
            obtain ⟨d2, hd2⟩ : ∃ d2, d2 = d := ⟨_, rfl⟩
            have EQD : cutS d (k : Int) = d2 := by
              have h3 := HLl.out
              unfold cutS
              rw [if_pos (.inr (by omega)), hd2]
            have SV2 : Hid (Rv R lo s (i + 1) d2) := by rw [hd2]; exact HW
            have CT : Hid (Calls Try.prog 23 #[.pointer (some ⟨g, 0, none⟩), .int .i64 k] wr fun e w' => e = .returned (.int .i64 1) ∧ Dk w' w.heap.size g d2 ∧ Below w.heap.size w w') := by
              have h := cut_any w.heap.size g d k wr HD.out HK.out
              rw [EQE, EQD] at h
              exact h.mono fun _ _ ⟨h1, h2, h3⟩ => ⟨h1, h2, hB.trans (bel h3 (fun k hk => by cases hk; exact hgB.1) hzr)⟩
            have t5 : (lo : Int) < (k : Int) := by omega
            have LG := LGT d2 lo SV2.out.l (by omega)
            have SN := SNT d2 s SV2.out.s (by omega)
            have hW := hWm _ h6
            clear hWm h6 LGT SNT EQE EQD hd2
            go_wp2_with fail
            refine (hWk _).out.mono ?_
            rintro _ w5 ⟨rfl, rfl⟩
            go_wp2_with fail
            refine (hW _).out.mono ?_
            rintro _ w5 ⟨rfl, rfl⟩
            go_wp2_with fail
            refine CT.out.mono ?_
            rintro _ w6 ⟨rfl, D6, b6⟩
            have z6 := b6.size
            go_wp2_with fail
            refine (LG _ D6).out.mono ?_
            rintro _ w7 ⟨⟨A7, c7, rfl⟩, g7⟩
            have D7 := D6.below g7
            have b7 := b6.trans (bel g7 (fun _ h => by cases h) z6)
            have z7 := b7.size
            go_wp2_with fail
            refine (SN _ D7).out.mono ?_
            rintro _ w8 ⟨⟨A8, c8, rfl⟩, g8⟩
            have D8 := D7.below g8
            have b8 := b7.trans (bel g8 (fun _ h => by cases h) z7)
            go_wp2_with fail
            go_roundw
            case rel => exact ⟨lo, s, i + 1, d2, by omega, by go_num, by go_num, by go_num, D8, SV2, b8⟩
            case measure => simp [intOf]; omega
        · as_aux_lemma =>
            have SP9 := HS.out.cut (k := k) hl2 hf
            have EQE : cutE d (k : Int) = 0 := SP9.2
            obtain ⟨d2, hd2⟩ : ∃ d2, d2 = cutS d (k : Int) := ⟨_, rfl⟩
            have EQD : cutS d (k : Int) = d2 := hd2.symm
            have SV2 : Hid (Rv R k s (i + 1) d2) := by rw [hd2]; exact SP9.1
            clear SP9
            have CT : Hid (Calls Try.prog 23 #[.pointer (some ⟨g, 0, none⟩), .int .i64 k] wr fun e w' => e = .returned (.int .i64 0) ∧ Dk w' w.heap.size g d2 ∧ Below w.heap.size w w') := by
              have h := cut_any w.heap.size g d k wr HD.out HK.out
              rw [EQE, EQD] at h
              exact h.mono fun _ _ ⟨h1, h2, h3⟩ => ⟨h1, h2, hB.trans (bel h3 (fun k hk => by cases hk; exact hgB.1) hzr)⟩
            have t5 : ¬ (lo : Int) < (k : Int) := by omega
            have LG := LGT d2 k SV2.out.l (by omega)
            have SN := SNT d2 s SV2.out.s (by omega)
            have hW := hWm _ h6
            clear hWm h6 LGT SNT EQE EQD hd2
            go_wp2_with fail
            refine (hWk _).out.mono ?_
            rintro _ w5 ⟨rfl, rfl⟩
            go_wp2_with fail
            refine (hW _).out.mono ?_
            rintro _ w5 ⟨rfl, rfl⟩
            go_wp2_with fail
            refine CT.out.mono ?_
            rintro _ w6 ⟨rfl, D6, b6⟩
            have z6 := b6.size
            go_wp2_with fail
            refine (LG _ D6).out.mono ?_
            rintro _ w7 ⟨⟨A7, c7, rfl⟩, g7⟩
            have D7 := D6.below g7
            have b7 := b6.trans (bel g7 (fun _ h => by cases h) z6)
            have z7 := b7.size
            go_wp2_with fail
            refine (SN _ D7).out.mono ?_
            rintro _ w8 ⟨⟨A8, c8, rfl⟩, g8⟩
            have D8 := D7.below g8
            have b8 := b7.trans (bel g8 (fun _ h => by cases h) z7)
            go_wp2_with fail
            go_roundw
            case rel => exact ⟨k, s, i + 1, d2, by omega, by go_num, by go_num, by go_num, D8, SV2, b8⟩
            case measure => simp [intOf]; omega
    · by_cases hlt1 : i < sizes.length
      · have t1 : (i : Int) < (sizes.length : Int) := by omega
        have t2 : ¬ (i : Int) < 30 := by omega
        go_wp2_with fail
        go_ret
        exact ⟨rfl, hB⟩
      · have t1 : ¬ (i : Int) < (sizes.length : Int) := by omega
        go_wp2_with fail
        go_ret
        exact ⟨rfl, hB⟩
end Go.Proofs.Ytmjfemnjkgfgfaa
