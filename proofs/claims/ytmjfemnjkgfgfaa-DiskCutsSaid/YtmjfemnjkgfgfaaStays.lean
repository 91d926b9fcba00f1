/- The walk of DiskStays: it returns true for every input. No condition. -/
import Derived.Test.YtmjfemnjkgfgfaaDkn
import Derived.Test.YtmjfemnjkgfgfaaCam
namespace Go.Proofs.Ytmjfemnjkgfgfaa
open Go.RowKit Go.Deep

/-- A disk none of whose synced bytes are lost: a is a front of its log, and synced. -/
structure Tv (a : List Int) (i : Nat) (d : DS) : Prop where
  rm : d.rm = 100000
  st : d.st = 0
  dd : d.dd = false
  l : d.L.length ≤ 300 + 300 * i
  s : d.S.length = 0
  sy : (a.length : Int) ≤ d.sy ∧ d.sy ≤ d.L.length
  fr : d.L.take a.length = a
  sn : 0 ≤ d.sn ∧ d.sn ≤ 2 + i
  op : 0 ≤ d.op ∧ d.op ≤ 2 + i
  i0 : i ≤ 20
theorem Tv.ok {a : List Int} {i : Nat} {d : DS} (h : Tv a i d) : Ok d := by
  have h1 := h.rm; have h2 := h.st; have h3 := h.l; have h4 := h.s; have h5 := h.sy; have h6 := h.sn; have h7 := h.op; have h8 := h.i0
  exact ⟨by omega, by omega, by omega, by omega, by omega, by omega, by omega⟩
theorem Tv.wait {a : List Int} {i : Nat} {d : DS} (h : Tv a i d) (hi : i < 20) : Tv a (i + 1) d :=
  ⟨h.rm, h.st, h.dd, by have := h.l; omega, h.s, h.sy, h.fr, by have := h.sn; omega, by have := h.op; omega, by omega⟩
theorem never (sn : Int) : goes 0 sn = false := by show decide (0 < (0 : Int) ∧ sn + 1 = 0) = false; rw [decide_eq_false_iff_not]; omega
theorem Tv.len {a : List Int} {i : Nat} {d : DS} (h : Tv a i d) : a.length ≤ d.L.length := by have := h.sy; omega
theorem Tv.append {a b : List Int} {i : Nat} {d : DS} (h : Tv a i d) (hi : i < 20) (hb : b.length ≤ 300) : Tv a (i + 1) (appendS d b) ∧ appendE d b = 0 := by
  have h1 := h.rm; have h3 := h.l; have h4 := h.s; have h5 := h.sy; have h6 := h.sn; have h7 := h.op; have h8 := h.len
  have hf : ¬ d.rm < (d.L.length : Int) + d.S.length + b.length := by omega
  have hg : goes d.st d.sn = false := by rw [h.st]; exact never _
  rw [show appendS d b = spendS { d with L := d.L ++ b } by unfold appendS; rw [if_neg (by rw [h.dd]; simp only [Bool.false_eq_true, false_or]; exact hf)], show appendE d b = spendE d by unfold appendE; rw [if_neg (by rw [h.dd]; decide), if_neg hf]]
  refine ⟨⟨h1, h.st, by show (d.dd || goes d.st d.sn) = false; rw [hg, h.dd]; rfl, by show (d.L ++ b).length ≤ _; rw [List.length_append]; omega, h4, by show (a.length : Int) ≤ d.sy ∧ d.sy ≤ ((d.L ++ b).length : Int); rw [List.length_append]; omega, by show (d.L ++ b).take a.length = a; rw [List.take_append_of_le_length h8]; exact h.fr, by show 0 ≤ d.sn + 1 ∧ d.sn + 1 ≤ _; omega, by show 0 ≤ spO d.st d.sn d.op ∧ spO d.st d.sn d.op ≤ _; rw [spO, if_neg (by rw [hg]; decide)]; omega, by omega⟩, by show spR d.st d.sn = 0; rw [spR, if_neg (by rw [hg]; decide)]⟩
theorem Tv.crash {a : List Int} {i : Nat} {d : DS} (h : Tv a i d) (p : Int) : Tv a i (crashS d p) := by
  have h1 := h.rm; have h3 := h.l; have h4 := h.s; have h5 := h.sy; have h6 := h.sn; have h7 := h.op; have h8 := h.len
  have hk1 : 0 ≤ crashK d p := Int.emod_nonneg p (by omega)
  have hk2 : crashK d p < (d.L.length : Int) - d.sy + 1 := Int.emod_lt_of_pos p (by omega)
  have hl : (d.L.take (d.sy + crashK d p).toNat).length = (d.sy + crashK d p).toNat := by rw [List.length_take]; omega
  refine ⟨h1, rfl, rfl, by show (d.L.take _).length ≤ _; rw [List.length_take]; omega, h4, by show (a.length : Int) ≤ d.sy + crashK d p ∧ d.sy + crashK d p ≤ ((d.L.take (d.sy + crashK d p).toNat).length : Int); rw [hl]; omega, ?_, ⟨Int.le_refl _, by show (0 : Int) ≤ _; omega⟩, h7, h.i0⟩
  show (d.L.take (d.sy + crashK d p).toNat).take a.length = a
  rw [List.take_take, Nat.min_eq_left (by omega)]
  exact h.fr
def first (a : List Int) : DS := syncS (appendS (newS 100000) a)
theorem first_ok (a : List Int) (ha : a.length ≤ 300) : Tv a 0 (first a) ∧ appendE (newS 100000) a = 0 ∧ syncE (appendS (newS 100000) a) = 0 ∧ Ok (appendS (newS 100000) a) := by
  have hf : ¬ (newS 100000).rm < ((newS 100000).L.length : Int) + (newS 100000).S.length + a.length := by simp [newS]; omega
  have e1 : appendS (newS 100000) a = spendS { newS 100000 with L := a } := by unfold appendS; rw [if_neg (by simp only [newS, Bool.false_eq_true, false_or]; exact hf)]; rfl
  have e2 : first a = { spendS (spendS { newS 100000 with L := a }) with sy := a.length } := by
    unfold first
    rw [e1]
    unfold syncS
    rw [if_neg (by show ¬ (false || goes 0 0) = true; decide), if_neg (by show ¬ goes 0 (0 + 1) = true; decide)]
    rfl
  refine ⟨?_, ?_, ?_, ?_⟩
  · rw [e2]
    exact ⟨rfl, rfl, rfl, by show a.length ≤ _; omega, rfl, ⟨Int.le_refl _, Int.le_refl _⟩, List.take_length, by show (0 : Int) ≤ 0 + 1 + 1 ∧ (0 : Int) + 1 + 1 ≤ 2 + ((0 : Nat) : Int); omega, by show (0 : Int) ≤ spO 0 (0 + 1) (spO 0 0 0) ∧ spO 0 (0 + 1) (spO 0 0 0) ≤ 2 + ((0 : Nat) : Int); simp [spO, never], by omega⟩
  · unfold appendE; rw [if_neg (by decide), if_neg hf]; rfl
  · rw [e1]; rfl
  · rw [e1]
    exact ⟨by show a.length ≤ _; omega, Nat.zero_le _, ⟨Int.le_refl _, by show (0 : Int) ≤ (a.length : Int); omega⟩, by show (0 : Int) ≤ 100000 ∧ (100000 : Int) ≤ _; omega, Int.le_refl _, by show (0 : Int) ≤ 0 + 1 ∧ (0 : Int) + 1 ≤ _; omega, by show (0 : Int) ≤ spO 0 0 0 ∧ spO 0 0 0 ≤ _; simp [spO, never]⟩
theorem half_fits {x : Int} (h1 : -9223372036854775808 ≤ x) (h2 : x ≤ 9223372036854775807) : -9223372036854775808 ≤ x.tdiv 2 ∧ x.tdiv 2 ≤ 9223372036854775807 := by
  rcases Int.le_total 0 x with h0 | h0
  · rw [Int.tdiv_eq_ediv_of_nonneg h0]; omega
  · have h1 : x.tdiv 2 = -((-x).tdiv 2) := by rw [Int.neg_tdiv, Int.neg_neg]
    rw [h1, Int.tdiv_eq_ediv_of_nonneg (by omega)]; omega
theorem drewB {w w' : World} (h : Below w.heap.size w w') (k : Nat) : Below w.heap.size w (w'.drewN k) := h.trans (bel (only_drewN (only_refl w' none) k) (fun _ h => by cases h) h.size)
/-- The rows as the law reads them. -/
def rowCell (x : Option Addr × List Int × Nat) : Value := .slice x.1 x.2.1.length x.2.2
set_option maxRecDepth 100000 in
set_option maxHeartbeats 2000000 in
theorem stays_core (A B C : Option Addr) (ca cb cc : Nat) (a : List Int) (rows : List (Option Addr × List Int × Nat)) (picks : List Int) (w : World) (hA : Has w w.heap.size A (bs a)) (hB : Has w w.heap.size B (rows.map rowCell)) (hC : Has w w.heap.size C (picks.map (Value.int .i64)))
    (hrow : ∀ x ∈ rows, Has w w.heap.size x.1 (bs x.2.1)) (hpb : ∀ x ∈ picks, -9223372036854775808 ≤ x ∧ x ≤ 9223372036854775807) (ha : a.length ≤ 300) :
    Calls Try.prog 4 #[.slice A a.length ca, .slice B rows.length cb, .slice C picks.length cc] w fun e w' => e = .returned (.bool true) ∧ Below w.heap.size w w' := by
  have t1 : ¬ (300 : Int) < (a.length : Int) := by omega
  have KN := fun W => Lib.hid (known_any W)
  have HA := Lib.hid hA
  have HB := Lib.hid hB
  have HC := Lib.hid hC
  have HR := Lib.hid hrow
  have HP := Lib.hid hpb
  obtain ⟨f1, f2, f3, f4⟩ := first_ok a ha
  have F1 := Lib.hid f1
  have F4 := Lib.hid f4
  have HCA : Hid (∀ W : World, Below w.heap.size w W → (convert 31 9 (.slice A a.length ca)).run Try.prog W = .ok (.string (strOfNums a)) W) := fun W hW => conv_string (hA.below hW) ca
  clear hA hB hC hrow hpb f1 f4
  go_enter Try.func4, Try.ntmps4
  go_wp2_with fail
  refine (KN _).out.mono ?_
  rintro _ w1 ⟨rfl, b1⟩
  have z1 := b1.size
  have NW := Lib.hid (new_any w.heap.size 100000 w1 (by decide) (by decide) z1)
  go_wp2_with fail
  refine NW.out.mono ?_
  rintro _ w2 ⟨g, rfl, D2, g2⟩
  have hgB := D2.lt
  have b2 : Below w.heap.size w w2 := b1.trans (bel g2 (fun _ h => by cases h) z1)
  have AP := append_any w.heap.size g (newS 100000) A ca a w2 D2 (new_ok 100000 (by decide) (by decide)) ((HA.out.below b2).more b2.size) (by omega)
  rw [f2] at AP
  have AP := Lib.hid AP
  clear D2 NW g2 b1
  go_wp2_with fail
  refine AP.out.mono ?_
  rintro _ w3 ⟨rfl, D3, b3⟩
  have z3 := b3.size
  have SY := sync_any w.heap.size g _ w3 D3 F4.out
  rw [f3] at SY
  have SY := Lib.hid SY
  clear D3 AP
  go_wp2_with fail
  refine SY.out.mono ?_
  rintro _ w4 ⟨rfl, D4, g4⟩
  have b4 : Below w.heap.size w w4 := (b2.trans b3).trans (bel g4 (fun k hk => by cases hk; exact hgB.1) (by have := b2.size; omega))
  have D4 : Hid (Dk w4 w.heap.size g (first a)) := D4
  clear SY g4 b3 b2 f2 f3 F4
  go_wp2_with fail
  go_loopw [9] (fun si wr => ∃ (i : Nat) (d : DS), i ≤ rows.length ∧ si = .int .i64 i ∧ i ≤ 20 ∧ Hid (Dk wr w.heap.size g d) ∧ Hid (Tv a i d) ∧ Below w.heap.size w wr) (fun si _ => 20 - (intOf si).toNat)
  case atStart => exact ⟨0, _, Nat.zero_le _, rfl, by omega, D4, F1, b4⟩
  case round =>
    clear D4 F1 b4
    obtain ⟨i, d, hi, rfl, hi20, HD, HS, hB⟩ := hrel
    have hzr := hB.size
    by_cases hlt : i < rows.length ∧ i < 20
    · obtain ⟨hl1, hl2⟩ := hlt
      have t2 : (i : Int) < (rows.length : Int) := by omega
      have t3 : (i : Int) < 20 := by omega
      have t0 : (0 : Int) ≤ (i : Int) := by omega
      have hes : IntKind.i64.wrap ((i : Int) + 1) = (i : Int) + 1 := by rw [IntKind.wrap_i64]; omega
      obtain ⟨bb, off, Ai, x, ci, rfl, hbl, hxr, hcx⟩ : ∃ bb off Ai x ci, B = some ⟨bb, off, none⟩ ∧ bb < w.heap.size ∧ Hid (Has w w.heap.size Ai (bs x)) ∧ (∀ W : World, Below w.heap.size w W → W.cell? ⟨bb, off + i, none⟩ = some (.slice Ai x.length ci)) := by
        have hx : (rows.map rowCell)[i]? = some (rowCell rows[i]) := by simp [hl1]
        rcases HB.out with h0 | ⟨bb, off, hA, hb, hc⟩
        · rw [h0] at hx; cases hx
        · exact ⟨bb, off, rows[i].1, rows[i].2.1, rows[i].2.2, hA, hb, HR.out _ (List.getElem_mem hl1), fun W hW => (hW.cell (p := ⟨bb, off + i, none⟩) hb).trans (hc i _ hx)⟩
      have hcell := hcx wr hB
      by_cases hxl : x.length ≤ 300
      · have t4 : ¬ (300 : Int) < (x.length : Int) := by omega
        have AP := append_any w.heap.size g d Ai ci x wr HD.out HS.out.ok ((hxr.out.below hB).more hzr) (by omega)
        have T2 := HS.out.append hl2 hxl
        rw [T2.2] at AP
        obtain ⟨d2, hd2⟩ : ∃ d2, d2 = appendS d x := ⟨_, rfl⟩
        rw [← hd2] at AP
        have SV2 : Hid (Tv a (i + 1) d2) := by rw [hd2]; exact T2.1
        have AP := Lib.hid AP
        clear T2 hd2
        have LGT : ∀ (d3 : DS), Tv a (i + 1) d3 → ∀ W, Dk W w.heap.size g d3 → Hid (Calls Try.prog 25 #[.pointer (some ⟨g, 0, none⟩)] W fun e w' => (∃ A q, e = .returned (.slice A d3.L.length q) ∧ a.length ≤ q ∧ Has w' w'.heap.size A (bs d3.L)) ∧ W.grownBy w' none) := fun d3 h3 W hW =>
          (log_any w.heap.size g d3 W hW (by have := h3.ok.l; omega)).mono fun _ _ ⟨⟨v, he, ho⟩, hg⟩ => by
            obtain ⟨A, q, rfl⟩ := own_slice ho
            have hq := own_cap ho
            exact ⟨⟨A, q, he, by have := h3.len; omega, Has.own ho⟩, hg⟩
        by_cases hp : i < picks.length
        · obtain ⟨cb2, co, px, rfl, hpx1, hpx2, hcp⟩ : ∃ cb2 co px, C = some ⟨cb2, co, none⟩ ∧ -9223372036854775808 ≤ px ∧ px ≤ 9223372036854775807 ∧ Hid (∀ W : World, Below w.heap.size w W → W.cell? ⟨cb2, co + i, none⟩ = some (.int .i64 px)) := by
            have hx : (picks.map (Value.int .i64))[i]? = some (.int .i64 picks[i]) := by simp [hp]
            rcases HC.out with h0 | ⟨bb, off, hA, hb, hc⟩
            · rw [h0] at hx; cases hx
            · have hpm := HP.out _ (List.getElem_mem hp)
              exact ⟨bb, off, picks[i], hA, hpm.1, hpm.2, fun W hW => (hW.cell (p := ⟨bb, off + i, none⟩) hb).trans (hc i _ hx)⟩
          have t5 : (i : Int) < (picks.length : Int) := by omega
          by_cases hodd : px.tmod 2 = 1
          · as_aux_lemma =>
              have t8 : (px.tmod 2 == 1) = true := by rw [beq_iff_eq]; exact hodd
              obtain ⟨d3, hd3⟩ : ∃ d3, d3 = crashS d2 (px.tdiv 2) := ⟨_, rfl⟩
              have SV3 : Hid (Tv a (i + 1) d3) := by rw [hd3]; exact SV2.out.crash _
              have CR : ∀ W, Dk W w.heap.size g d2 → Hid (Calls Try.prog 19 #[.pointer (some ⟨g, 0, none⟩), .int .i64 (px.tdiv 2)] W fun e w' => e = .returned (.int .i64 (crashK d2 (px.tdiv 2))) ∧ Dk w' w.heap.size g d3 ∧ W.grownBy w' (some g)) := fun W hW => by
                rw [hd3]; exact crash_any w.heap.size g d2 (px.tdiv 2) W hW SV2.out.ok (half_fits hpx1 hpx2).1 (half_fits hpx1 hpx2).2
              have LG := LGT d3 SV3.out
              have hfr := SV3.out.fr
              have hll := SV3.out.len
              obtain ⟨ck, hck⟩ : ∃ ck, ck = crashK d2 (px.tdiv 2) := ⟨_, rfl⟩
              rw [← hck] at CR
              clear hd3 hck LGT
              go_wp2_with fail
              refine AP.out.mono ?_
              rintro _ w5 ⟨rfl, D5, b5⟩
              have b5' : Below w.heap.size w w5 := hB.trans b5
              have z5 := b5'.size
              have hcp5 := hcp.out _ b5'
              go_wp2_with fail
              refine (CR _ D5).out.mono ?_
              rintro _ w7 ⟨rfl, D7, g7⟩
              have b7 := b5'.trans (bel g7 (fun k hk => by cases hk; exact hgB.1) z5)
              have z7 := b7.size
              go_wp2_with fail
              refine (LG _ D7).out.mono ?_
              rintro _ w8 ⟨⟨A8, c8, rfl, hc8, HL8⟩, g8⟩
              have D8 := D7.below g8
              have b8 := b7.trans (bel g8 (fun _ h => by cases h) z7)
              have t6 : ¬ (d3.L.length : Int) < (a.length : Int) := by omega
              have H9 : Hid (Has w8 w8.heap.size A8 (bs a)) := by
                have h := HL8.take a.length
                rw [show (bs d3.L).take a.length = bs a by rw [bs, ← List.map_take, hfr]; rfl] at h
                exact h
              have CV1 : ∀ k : Nat, (convert 31 9 (.slice A8 a.length c8)).run Try.prog (w8.drewN k) = .ok (.string (strOfNums a)) (w8.drewN k) := fun k => conv_string (Has.keep (w' := w8.drewN k) H9.out (fun _ _ => rfl)) c8
              have CV2 : ∀ k : Nat, (convert 31 9 (.slice A a.length ca)).run Try.prog (w8.drewN k) = .ok (.string (strOfNums a)) (w8.drewN k) := fun k => HCA.out _ (drewB b8 k)
              clear HL8 H9 hfr
              go_wp2_with fail
              go_quiet (fail)
              go_wp2_with fail
              go_roundw
              case rel => exact ⟨i + 1, d3, by omega, by go_num, by omega, D8.below (only_drewN (only_refl w8 none) _), SV3, drewB b8 _⟩
              case measure => simp [intOf]; omega
          · as_aux_lemma =>
              have t8 : (px.tmod 2 == 1) = false := by rw [beq_eq_false_iff_ne]; exact hodd
              have LG := LGT d2 SV2.out
              have hfr := SV2.out.fr
              have hll := SV2.out.len
              go_wp2_with fail
              refine AP.out.mono ?_
              rintro _ w5 ⟨rfl, D5, b5⟩
              have b5' : Below w.heap.size w w5 := hB.trans b5
              have z5 := b5'.size
              have hcp5 := hcp.out _ b5'
              go_wp2_with fail
              refine (LG _ D5).out.mono ?_
              rintro _ w8 ⟨⟨A8, c8, rfl, hc8, HL8⟩, g8⟩
              have D8 := D5.below g8
              have b8 := b5'.trans (bel g8 (fun _ h => by cases h) z5)
              have t6 : ¬ (d2.L.length : Int) < (a.length : Int) := by omega
              have H9 : Hid (Has w8 w8.heap.size A8 (bs a)) := by
                have h := HL8.take a.length
                rw [show (bs d2.L).take a.length = bs a by rw [bs, ← List.map_take, hfr]; rfl] at h
                exact h
              have CV1 : ∀ k : Nat, (convert 31 9 (.slice A8 a.length c8)).run Try.prog (w8.drewN k) = .ok (.string (strOfNums a)) (w8.drewN k) := fun k => conv_string (Has.keep (w' := w8.drewN k) H9.out (fun _ _ => rfl)) c8
              have CV2 : ∀ k : Nat, (convert 31 9 (.slice A a.length ca)).run Try.prog (w8.drewN k) = .ok (.string (strOfNums a)) (w8.drewN k) := fun k => HCA.out _ (drewB b8 k)
              clear HL8 H9 hfr
              go_wp2_with fail
              go_quiet (fail)
              go_wp2_with fail
              go_roundw
              case rel => exact ⟨i + 1, d2, by omega, by go_num, by omega, D8.below (only_drewN (only_refl w8 none) _), SV2, drewB b8 _⟩
              case measure => simp [intOf]; omega
        · as_aux_lemma =>
            have t5 : ¬ (i : Int) < (picks.length : Int) := by omega
            have LG := LGT d2 SV2.out
            have hfr := SV2.out.fr
            have hll := SV2.out.len
            go_wp2_with fail
            refine AP.out.mono ?_
            rintro _ w5 ⟨rfl, D5, b5⟩
            have b5' : Below w.heap.size w w5 := hB.trans b5
            have z5 := b5'.size
            go_wp2_with fail
            refine (LG _ D5).out.mono ?_
            rintro _ w8 ⟨⟨A8, c8, rfl, hc8, HL8⟩, g8⟩
            have D8 := D5.below g8
            have b8 := b5'.trans (bel g8 (fun _ h => by cases h) z5)
            have t6 : ¬ (d2.L.length : Int) < (a.length : Int) := by omega
            have H9 : Hid (Has w8 w8.heap.size A8 (bs a)) := by
              have h := HL8.take a.length
              rw [show (bs d2.L).take a.length = bs a by rw [bs, ← List.map_take, hfr]; rfl] at h
              exact h
            have CV1 : ∀ k : Nat, (convert 31 9 (.slice A8 a.length c8)).run Try.prog (w8.drewN k) = .ok (.string (strOfNums a)) (w8.drewN k) := fun k => conv_string (Has.keep (w' := w8.drewN k) H9.out (fun _ _ => rfl)) c8
            have CV2 : ∀ k : Nat, (convert 31 9 (.slice A a.length ca)).run Try.prog (w8.drewN k) = .ok (.string (strOfNums a)) (w8.drewN k) := fun k => HCA.out _ (drewB b8 k)
            clear HL8 H9 hfr
            go_wp2_with fail
            go_quiet (fail)
            go_wp2_with fail
            go_roundw
            case rel => exact ⟨i + 1, d2, by omega, by go_num, by omega, D8.below (only_drewN (only_refl w8 none) _), SV2, drewB b8 _⟩
            case measure => simp [intOf]; omega
      · have t4 : (300 : Int) < (x.length : Int) := by omega
        have HW := Lib.hid (HS.out.wait hl2)
        go_wp2_with fail
        go_roundw
        case rel => exact ⟨i + 1, d, by omega, by go_num, by omega, HD, HW, hB⟩
        case measure => simp [intOf]; omega
    · by_cases hlt1 : i < rows.length
      · have t2 : (i : Int) < (rows.length : Int) := by omega
        have t3 : ¬ (i : Int) < 20 := by omega
        go_wp2_with fail
        go_ret
        exact ⟨rfl, hB⟩
      · have t2 : ¬ (i : Int) < (rows.length : Int) := by omega
        go_wp2_with fail
        go_ret
        exact ⟨rfl, hB⟩

theorem diskStays_walk (A B C : Option Addr) (ca cb cc : Nat) (a : List Int) (rows : List (Option Addr × List Int × Nat)) (picks : List Int) (w : World) (hA : Has w w.heap.size A (bs a)) (hB : Has w w.heap.size B (rows.map rowCell)) (hC : Has w w.heap.size C (picks.map (Value.int .i64)))
    (hrow : ∀ x ∈ rows, Has w w.heap.size x.1 (bs x.2.1)) (hpb : ∀ x ∈ picks, -9223372036854775808 ≤ x ∧ x ≤ 9223372036854775807) :
    Calls Try.prog 4 #[.slice A a.length ca, .slice B rows.length cb, .slice C picks.length cc] w fun e w' => e = .returned (.bool true) ∧ Below w.heap.size w w' := by
  by_cases ha : a.length ≤ 300
  · exact stays_core A B C ca cb cc a rows picks w hA hB hC hrow hpb ha
  · have t1 : (300 : Int) < (a.length : Int) := by omega
    have KN := fun W => Lib.hid (known_any W)
    clear hA hB hC hrow hpb
    go_enter Try.func4, Try.ntmps4
    go_wp2_with fail
    refine (KN _).out.mono ?_
    rintro _ w1 ⟨rfl, b1⟩
    go_wp2_with fail
    go_ret
    exact ⟨rfl, b1⟩
end Go.Proofs.Ytmjfemnjkgfgfaa
