/- The walk of FramesScan: it returns true for every input. Asked of the world: the table's cells. -/
import Derived.Test.YtjdpnidenjeigaaDoorFrs
import Derived.Test.YtjdpnidenjeigaaDoorFtp
namespace Go.Proofs.YtjdpnidenjeigaaDoor
open Go.RowKit Go.ChangeShapes

theorem cut_later {G T : Prop} (main : (Unit → T) → G) (pf : T) : G := main fun _ => pf
theorem own_lit0 (w : World) : (w.alloc (.cells #[] 5)).ownsRow w.heap.size 5 1 (.slice (some ⟨w.heap.size, 0, none⟩) 0 0) ([] : List Value).length [] :=
  ⟨rfl, .inr ⟨w.heap.size, 0, #[], rfl, Nat.le_refl _, heap_alloc_new w _, Nat.le_refl _, Nat.zero_le _, rfl, rfl⟩⟩
theorem Has.srcAt {w w' : World} {A : Option Addr} {l : List Int} (h : Has w w.heap.size A (bs l)) (hg : w.grownBy w' none) (c : Nat) : Src Tryd.prog 1 22 (.slice A l.length c) (bs l).length (bs l) w' := by
  have h := ((h.only hg (Nat.le_refl _) (fun _ h => by cases h)).more hg.size).src (P := Tryd.prog) (tx := 22) Tryd.underlying22 c (bs_one _)
  rw [bs_len] at h ⊢
  exact h
theorem tdiv_in (n m : Int) (hm : 0 < m) (h1 : -9223372036854775808 ≤ n) (h2 : n ≤ 9223372036854775807) : -9223372036854775808 ≤ n.tdiv m ∧ n.tdiv m ≤ 9223372036854775807 := by
  have := Int.natAbs_tdiv_le_natAbs n m
  by_cases h0 : 0 ≤ n
  · have := Int.tdiv_nonneg h0 (Int.le_of_lt hm); omega
  · have h3 : n.tdiv m = -((-n).tdiv m) := by rw [Int.neg_tdiv, Int.neg_neg]
    have := Int.tdiv_nonneg (show 0 ≤ -n by omega) (Int.le_of_lt hm)
    omega
def is_ (l : List Int) : List Value := l.map (Value.int .i64)

theorem scanF_few : ∀ (f : Nat) (l : List Int), (scanF f l).1.length ≤ l.length
  | 0, l => Nat.zero_le _
  | f + 1, l => by
    rw [scanF_step]
    by_cases h : firstE l = 0
    · rw [if_pos h]
      have h1 := scanF_few f (l.drop (8 + rd4 l))
      have h2 := drop_less h
      show (_ :: _).length ≤ _
      rw [List.length_cons]; omega
    · rw [if_neg h]; exact Nat.zero_le _
theorem scan_few (l : List Int) : (scanP l).1.length ≤ l.length := scanF_few _ l
set_option maxRecDepth 100000 in
set_option maxHeartbeats 16000000 in
theorem scan_law (A R P Q : Option Addr) (ca cr cp cq : Nat) (L : List (List Int)) (m at' by' : List Int) (cut : Int) (w : World) (hA : RR w A L) (hR : Has w w.heap.size R (bs m)) (hP : Has w w.heap.size P (is_ at')) (hQ : Has w w.heap.size Q (bs by'))
    (hb : ∀ l ∈ L, ∀ x ∈ l, 0 ≤ x ∧ x ≤ 255) (bm : ∀ x ∈ m, 0 ≤ x ∧ x ≤ 255) (ba : ∀ x ∈ at', -9223372036854775808 ≤ x ∧ x ≤ 9223372036854775807) (bb : ∀ x ∈ by', 0 ≤ x ∧ x ≤ 255)
    (hl : ∀ x ∈ L, x.length ≤ 300) (hn : L.length ≤ 10) (hm : m.length ≤ 500) (hcr : m.length ≤ cr) (e1 : -9223372036854775808 ≤ cut) (e2 : cut ≤ 9223372036854775807) (hT : Tab w) :
    Calls Tryd.prog 4 #[.slice A L.length ca, .slice R m.length cr, .slice P at'.length cp, .slice Q by'.length cq, .int .i64 cut] w fun e w' => e = .returned (.bool true) ∧ w.grownBy w' none := by
  have HA := Lib.hid hA
  have HR := Lib.hid hR
  have HP := Lib.hid hP
  have HQ := Lib.hid hQ
  have HBL := Lib.hid hb
  have HLL := Lib.hid hl
  have BM := Lib.hid bm
  have BA := Lib.hid ba
  have BB := Lib.hid bb
  have HT := Lib.hid hT
  have t5 : ¬ (500 : Int) < (m.length : Int) := by omega
  have ML := logP_bound L hl
  have MB := logP_byte L hb
  obtain ⟨M, hM⟩ : ∃ M, M = logP L := ⟨_, rfl⟩
  rw [← hM] at ML MB
  have mb : M.length ≤ 3080 := by
    have : L.length * 308 ≤ 10 * 308 := Nat.mul_le_mul_right _ hn
    omega
  have HM := Lib.hid hM
  have MB' := Lib.hid MB
  obtain ⟨n, hnM⟩ : ∃ n, n = M.length := ⟨_, rfl⟩
  rw [← hnM] at mb
  have HN := Lib.hid hnM
  have n1 : IntKind.i64.wrap ((n : Int) + 1) = (n : Int) + 1 := by rw [IntKind.wrap_i64]; omega
  -- the cut
  obtain ⟨d, hd⟩ : ∃ d, d = cut.tdiv 2 := ⟨_, rfl⟩
  have hd2 := tdiv_in cut 2 (by omega) e1 e2
  have wd : IntKind.i64.wrap (cut.tdiv 2) = d := by rw [IntKind.wrap_i64, hd]; omega
  rw [← hd] at hd2
  have q1 := Int.emod_nonneg d (show ((n : Int) + 1) ≠ 0 by omega)
  have q2 := Int.emod_lt_of_pos d (show (0 : Int) < (n : Int) + 1 by omega)
  obtain ⟨k, hk⟩ : ∃ k : Nat, d % ((n : Int) + 1) = k := ⟨(d % ((n : Int) + 1)).toNat, by omega⟩
  have hkl : k ≤ n := by omega
  have WD : ∀ W, Hid (Calls Tryd.prog 14 #[.int .i64 d, .int .i64 ((n : Int) + 1)] W fun e w' => e = .returned (.int .i64 k) ∧ W = w') := fun W => by rw [← hk]; exact within_any d ((n : Int) + 1) hd2.1 hd2.2 (by omega) (by omega) W
  clear hA hR hP hQ hb bm ba bb hl hT ML MB hM hnM hd hd2 q1 q2 hk
  go_enter Tryd.func4, Tryd.ntmps4
  go_wp2_with fail
  refine (known_any w HT.out).mono ?_
  rintro _ w1 ⟨rfl, g1⟩
  have G1 := Lib.hid g1
  have R1 := Lib.hid (HA.out.grow g1)
  clear g1
  go_wp2_with fail
  refine (few_is A ca L true (iff_yes' ⟨HLL.out, hn⟩) w1 R1.out (by unfold maxLen; omega)).mono ?_
  rintro _ w2 ⟨rfl, rfl⟩
  go_wp2_with fail
  refine (log_any A ca L w1 R1.out HBL.out HLL.out hn).mono ?_
  rintro _ w3 ⟨v3, rfl, o3, g3⟩
  rw [← HM.out, ← HN.out] at o3
  obtain ⟨A3, c3, rfl⟩ := own_slice o3
  have O3 := Lib.hid o3
  have c3n := own_cap o3
  have G3 : Hid (w.grownBy w3 none) := only_step G1.out g3 (fun _ h => by cases h)
  have z31 := g3.size
  have zw1 := G1.out.size
  clear o3 g3 R1
  go_wp2_with fail
  go_loopw [12] (fun si wr => ∃ (i : Nat) (Y : List Int), i ≤ 3 ∧ si = .int .i64 i ∧ Hid (Y.length = n) ∧ Hid (∀ x ∈ Y, 0 ≤ x ∧ x ≤ 255) ∧ Hid (wr.ownsRow w1.heap.size 5 1 (.slice A3 n c3) n (bs Y)) ∧ Hid (w.grownBy wr none)) (fun si _ => 3 - (intOf si).toNat)
  case atStart => exact ⟨0, M, by omega, rfl, HN.out.symm, MB'.out, O3.out, G3.out⟩
  case round =>
    clear O3 G3
    obtain ⟨i, Y, hi, rfl, YL, YB, O, GW⟩ := hrel
    have i0 : (0 : Int) ≤ (i : Int) := by omega
    have vs : IntKind.i64.wrap ((i : Int) + 1) = (i : Int) + 1 := by rw [IntKind.wrap_i64]; omega
    by_cases x1 : i < at'.length
    · have y1 : (i : Int) < (at'.length : Int) := by omega
      by_cases x2 : i < by'.length
      · have y2 : (i : Int) < (by'.length : Int) := by omega
        by_cases x3 : i < 3
        · have y3 : (i : Int) < 3 := by omega
          by_cases x4 : 0 < n
          · have y4 : (0 : Int) < (n : Int) := by omega
            obtain ⟨a, ha⟩ : ∃ a, at'[i]? = some a := ⟨_, List.getElem?_eq_getElem x1⟩
            obtain ⟨z, hz⟩ : ∃ z, by'[i]? = some z := ⟨_, List.getElem?_eq_getElem x2⟩
            have hab := BA.out a (List.mem_of_getElem? ha)
            have hzb := BB.out z (List.mem_of_getElem? hz)
            obtain ⟨pb, po, rfl, hpb, hpc⟩ : ∃ b off, P = some ⟨b, off, none⟩ ∧ b < w.heap.size ∧ w.cell? ⟨b, off + i, none⟩ = some (.int .i64 a) := by
              rcases HP.out with h0 | ⟨b, off, hA, hb, hc⟩
              · have := congrArg List.length h0; simp [is_] at this; rw [this] at x1; simp at x1
              · exact ⟨b, off, hA, hb, hc i _ (by simp [is_, ha])⟩
            obtain ⟨qb, qo, rfl, hqb, hqc⟩ : ∃ b off, Q = some ⟨b, off, none⟩ ∧ b < w.heap.size ∧ w.cell? ⟨b, off + i, none⟩ = some (.int .u8 z) := by
              rcases HQ.out with h0 | ⟨b, off, hA, hb, hc⟩
              · have := congrArg List.length h0; simp [bs] at this; rw [this] at x2; simp at x2
              · exact ⟨b, off, hA, hb, hc i _ (by simp [bs, hz])⟩
            have u1 := Int.emod_nonneg a (show (n : Int) ≠ 0 by omega)
            have u2 := Int.emod_lt_of_pos a (show (0 : Int) < (n : Int) by omega)
            obtain ⟨K, hK⟩ : ∃ k : Nat, a % (n : Int) = k := ⟨(a % (n : Int)).toNat, by omega⟩
            have hKn : K < n := by omega
            have WK : ∀ W, Hid (Calls Tryd.prog 14 #[.int .i64 a, .int .i64 n] W fun e w' => e = .returned (.int .i64 K) ∧ W = w') := fun W => by rw [← hK]; exact within_any a n hab.1 hab.2 (by omega) (by omega) W
            obtain ⟨y, hy⟩ : ∃ y, Y[K]? = some y := ⟨_, List.getElem?_eq_getElem (by rw [YL.out]; exact hKn)⟩
            have hyb := YB.out y (List.mem_of_getElem? hy)
            obtain ⟨v, hv⟩ : ∃ v, v = (y + z) % 256 := ⟨_, rfl⟩
            have wv : IntKind.u8.wrap (y + z) = v := by have := IntKind.wrap_u8 (y + z); rw [this, hv]
            have hvb : 0 ≤ v ∧ v ≤ 255 := by omega
            obtain ⟨g, cg, hv3, hg⟩ := own_form O.out x4
            injection hv3 with ha3 hb3 hc3
            subst ha3
            clear hb3 hc3
            have cP : wr.drew.cell? ⟨pb, po + i, none⟩ = some (.int .i64 a) := (World.cell?_of_block (GW.out.block pb hpb (by simp))).trans hpc
            have cQ : wr.drew.cell? ⟨qb, qo + i, none⟩ = some (.int .u8 z) := (World.cell?_of_block (GW.out.block qb hqb (by simp))).trans hqc
            have cK : wr.drew.cell? ⟨g, K, none⟩ = some (.int .u8 y) := by
              have := O.out.cells (g := g) rfl K (.int .u8 y) (by simp only [bs, List.getElem?_map, hy]; rfl)
              rw [Addr.add_lit, Nat.zero_add] at this
              exact this
            have fK : wr.drew.frozen? ⟨g, K, none⟩ = false := O.out.frozenAt K
            have K0 : (0 : Int) ≤ (K : Int) := by omega
            have K1 : (K : Int) < (n : Int) := by omega
            have ST2 := O.out.stored K (.int .u8 v)
            rw [show (bs Y).set K (.int .u8 v) = bs (Y.set K v) by simp [bs, List.map_set]] at ST2
            have O4 := Lib.hid ST2.1
            have D4 := Lib.hid ST2.2
            have YB4 := Lib.hid (show ∀ x ∈ Y.set K v, 0 ≤ x ∧ x ≤ 255 from fun x hx => by
              rcases List.mem_or_eq_of_mem_set hx with h | h
              · exact YB.out x h
              · rw [h]; exact hvb)
            clear ST2 hv hvb ha hz hab hzb hpc hqc hK hy hyb u1 u2
            go_wp2_with fail
            apply cut_later
            · intro key
              go_region_with (go_at_call 14; refine (WK _).out.mono ?_; rintro e wa ⟨rfl, rfl⟩)
              all_goals exact key ()
            clear cP cQ cK fK
            have O5 : Hid ((wr.setCell ⟨g, K, none⟩ (.int .u8 v)).drew.ownsRow w1.heap.size 5 1 (.slice (some ⟨g, 0, none⟩) n c3) n (bs (Y.set K v))) := O4.out.kept (only_drew (only_refl _ none)) (by cases (Value.slice (some ⟨g, 0, none⟩) n c3).ownBlock <;> simp)
            have G5 : Hid (w.grownBy (wr.setCell ⟨g, K, none⟩ (.int .u8 v)).drew none) := only_drew (only_step GW.out D4.out (fun kk hkk => by cases hkk; exact .inr (Nat.le_trans zw1 hg)))
            go_wp2_with fail
            exact ⟨⟨i + 1, Y.set K v, by omega, by go_num, (show Hid _ from by rw [List.length_set]; exact YL), YB4, O5, G5⟩, by simp [intOf]; omega⟩
          · have y4 : ¬ (0 : Int) < (n : Int) := by omega
            by_cases tcut : cut.tmod 2 = 1
            · have tc : (cut.tmod 2 == 1) = true := by rw [tcut]; rfl
              obtain ⟨Z, hZ⟩ : ∃ Z, Z = Y.take k := ⟨_, rfl⟩
              have ZL := Lib.hid (show Z.length = k by rw [hZ, List.length_take, YL.out]; omega)
              have ZB := Lib.hid (show ∀ x ∈ Z, 0 ≤ x ∧ x ≤ 255 from fun x hx => by rw [hZ] at hx; exact YB.out x (List.mem_of_mem_take hx))
              have ZH : Hid (Has wr wr.heap.size A3 (bs Z)) := by
                rw [hZ, show bs (Y.take k) = (bs Y).take k by simp [bs, List.map_take]]; exact (Has.own O.out).take k
              have kc : (k : Int) ≤ (c3 : Int) := by omega
              have k0 : (0 : Int) ≤ (k : Int) := by omega
              have kc3 : k ≤ c3 := by omega
              obtain ⟨Z2, hZ2⟩ : ∃ Z2, Z2 = Z ++ m := ⟨_, rfl⟩
              have Z2L := Lib.hid (show Z2.length ≤ 4000 by rw [hZ2, List.length_append, ZL.out]; omega)
              have Z2B := Lib.hid (show ∀ x ∈ Z2, 0 ≤ x ∧ x ≤ 255 from fun x hx => by rw [hZ2] at hx; exact (List.mem_append.1 hx).elim (ZB.out x) (BM.out x))
              have HZ2 := Lib.hid hZ2
              have d4 := Lib.hid (World.grownBy_alloc wr (.cells #[] 5) none)
              have sZ : Hid (Src Tryd.prog 1 22 (.slice A3 k c3) (bs Z).length (bs Z) (wr.alloc (.cells #[] 5))) := by
                have h := ZH.out.srcAt d4.out c3
                rw [ZL.out] at h; exact h
              have len1 : ([] : List Value).length + (bs Z).length ≤ 70368744177664 := by rw [bs_len, ZL.out]; show 0 + k ≤ _; omega
              have len2 : (bs Z).length + (bs m).length ≤ 70368744177664 := by rw [bs_len, bs_len, ZL.out]; omega
              have z4 := d4.out.size
              obtain ⟨B0, hB0⟩ : ∃ B0, B0 = wr := ⟨_, rfl⟩
              clear hZ hZ2 tcut hB0
              go_wp2_with fail
              refine (WD _).out.mono ?_
              rintro _ w4 ⟨rfl, rfl⟩
              go_wp2_with (first
                | (at_builtin; refine app_bytes rfl _ _ 22 rfl wr.heap.size (.slice (some ⟨wr.heap.size, 0, none⟩) 0 0) [] rfl (own_lit0 wr) (.slice A3 k c3) (bs Z) rfl sZ.out len1 z4 ?_; intro v8 w8 g8; rw [List.nil_append] at g8; have D8 := Lib.hid (g8.all (own_lit0 wr) d4.out (Nat.le_refl _)); have O8 := Lib.hid g8.own; have G8 : Hid (w.grownBy w8 none) := only_step GW.out D8.out (fun _ h => by cases h); have s8 := Lib.hid (HR.out.srcAt G8.out cr); have z8 : wr.heap.size ≤ w8.heap.size := D8.out.size; clear g8)
                | (at_builtin; refine app_bytes rfl _ _ 22 rfl wr.heap.size v8 (bs Z) rfl O8.out (.slice R m.length cr) (bs m) rfl s8.out len2 z8 ?_; intro v9 w9 g9; rw [← bs_append, ← HZ2.out] at g9; have D9 := Lib.hid (g9.all O8.out D8.out (Nat.le_refl _)); have O9 : Hid (w9.ownsRow wr.heap.size 5 1 v9 Z2.length (bs Z2)) := (by have h := g9.own; rw [bs_len] at h; exact h); have G9 : Hid (w.grownBy w9 none) := only_step GW.out D9.out (fun _ h => by cases h); clear g9; obtain ⟨A9, c9, rfl⟩ := own_slice O9.out))
              have N9 := own_cap O9.out
              have AH0 : ∀ V, w9.grownBy V none → Hid (Has V V.heap.size A3 (bs Z)) := fun V hV => (((ZH.out.only D9.out (Nat.le_refl _) (fun _ h => by cases h)).more D9.out.size).only hV (Nat.le_refl _) (fun _ h => by cases h)).more hV.size
              have AH1 : ∀ V, w9.grownBy V none → Hid (Has V V.heap.size A9 (bs Z2)) := fun V hV => ((Has.own O9.out).only hV (Nat.le_refl _) (fun _ h => by cases h)).more hV.size
              have AH2 : ∀ V, w9.grownBy V none → Hid (Has V V.heap.size R (bs m)) := fun V hV => (HR.out.only (only_step G9.out hV (fun _ h => by cases h)) (Nat.le_refl _) (fun _ h => by cases h)).more (only_step G9.out hV (fun _ h => by cases h)).size
              have W9 := Lib.hid (World.grownBy_alloc w9 (.cells #[.slice A3 k c3, .slice A9 Z2.length c9, .slice R m.length cr] 22) none)
              have HAL : ∀ V, (w9.alloc (.cells #[.slice A3 k c3, .slice A9 Z2.length c9, .slice R m.length cr] 22)).grownBy V none → Hid (V.cell? ⟨w9.heap.size, 0, none⟩ = some (.slice A3 k c3) ∧ V.cell? ⟨w9.heap.size, 1, none⟩ = some (.slice A9 Z2.length c9) ∧ V.cell? ⟨w9.heap.size, 2, none⟩ = some (.slice R m.length cr)) := fun V hV => by
                have hlt : w9.heap.size < (w9.alloc (.cells #[.slice A3 k c3, .slice A9 Z2.length c9, .slice R m.length cr] 22)).heap.size := by show _ < (w9.heap.push _).size; rw [Array.size_push]; omega
                have o : ∀ j, V.cell? ⟨w9.heap.size, j, none⟩ = (#[Value.slice A3 k c3, .slice A9 Z2.length c9, .slice R m.length cr])[j]? := fun j => (World.cell?_of_block (hV.block _ hlt (by simp))).trans (by unfold World.cell?; rw [heap_alloc_new]; rfl)
                exact ⟨o 0, o 1, o 2⟩
              clear D8 O8 G8 s8 z8 sZ len1 len2 z4 d4
              obtain ⟨V0, hV0⟩ : ∃ V0, V0 = w9.alloc (.cells #[.slice A3 k c3, .slice A9 Z2.length c9, .slice R m.length cr] 22) := ⟨_, rfl⟩
              have g90 : w9.grownBy V0 none := by rw [hV0]; exact W9.out
              rw [← hV0] at HAL ⊢
              have g0 : Hid (w.grownBy V0 none) := only_step G9.out g90 (fun _ h => by cases h)
              have G90 := Lib.hid g90
              obtain ⟨SB, hSB⟩ : ∃ SB, SB = w9.heap.size := ⟨_, rfl⟩
              rw [← hSB] at HAL ⊢
              clear hV0 hSB g90 W9 O9 D9
              go_wp2_with fail
              go_loopw [14] (fun si wx => ∃ i : Nat, i ≤ 3 ∧ si = .int .i64 i ∧ Hid (w.grownBy wx none) ∧ Hid (V0.grownBy wx none)) (fun si _ => 3 - (intOf si).toNat)
              case atStart => exact ⟨0, by omega, rfl, g0, only_refl _ _⟩
              case round =>
                obtain ⟨j, hj, rfl, hGj, hVj⟩ := hrel
                have cells := HAL wr hVj.out
                have hCj : Hid (w9.grownBy wr none) := only_step G90.out hVj.out (fun _ h => by cases h)
                rcases (show j = 0 ∨ j = 1 ∨ j = 2 ∨ j = 3 by omega) with rfl | rfl | rfl | rfl
                · have ce := cells.out.1
                  have SX := scan_any A3 c3 Z wr (AH0 wr hCj.out).out ZB.out (by rw [ZL.out]; omega) (by rw [ZL.out]; exact kc3) (HT.out.grow hGj.out)
                  rw [ZL.out] at SX
                  obtain ⟨TT, hTT⟩ : ∃ TT, TT = scanP Z := ⟨_, rfl⟩
                  rw [← hTT] at SX
                  have SX' := Lib.hid SX
                  have RX : ∀ V, w9.grownBy V none → Hid (Calls Tryd.prog 20 #[.slice A3 k c3] V fun e w' => ∃ v, e = .returned (.tuple #[v, .int .i64 TT.2]) ∧ RL w' V.heap.size v TT.1 ∧ V.grownBy w' none) := fun V hV => by
                    have h := rscan_any A3 c3 Z V (AH0 V hV).out ZB.out (by rw [ZL.out]; omega) (by rw [ZL.out]; exact kc3)
                    rw [ZL.out] at h
                    rw [← hTT] at h
                    exact h
                  have TB := Lib.hid (show TT.1.length ≤ 1099511627776 by rw [hTT]; exact Nat.le_trans (scan_few Z) (by rw [ZL.out]; omega))
                  have ALLC : ∀ V, V0.grownBy V none → Hid (V.cell? ⟨SB, 0, none⟩ = some (.slice A3 k c3)) := fun V hV => ((HAL V hV).out.1 : _)
                  clear SX hTT cells
                  go_wp2_with fail
                  refine SX'.out.mono ?_
                  rintro _ w5 ⟨v5, rfl, r5, g5⟩
                  obtain ⟨A5, c5, rfl⟩ := r5.form
                  have D5 := Lib.hid g5
                  have R5 := Lib.hid r5.rr
                  have V5 : Hid (V0.grownBy w5 none) := only_step hVj.out g5 (fun _ h => by cases h)
                  have C5 : Hid (w9.grownBy w5 none) := only_step hCj.out g5 (fun _ h => by cases h)
                  have ce5 := (ALLC w5 V5.out).out
                  clear r5 g5
                  go_wp2_with fail
                  refine (RX w5 C5.out).out.mono ?_
                  rintro _ w6 ⟨v6, rfl, r6, g6⟩
                  obtain ⟨A6, c6, rfl⟩ := r6.form
                  have D6 := Lib.hid g6
                  have RS := Lib.hid (rows_same A5 A6 c5 c6 TT.1 w6 (R5.out.grow g6) r6.rr TB.out)
                  clear r6 g6
                  go_wp2_with fail
                  refine RS.out.mono ?_
                  rintro _ w7 ⟨rfl, g7⟩
                  have G7 : Hid (w.grownBy w7 none) := only_step (only_step (only_step hGj.out D5.out (fun _ h => by cases h)) D6.out (fun _ h => by cases h)) g7 (fun _ h => by cases h)
                  have V7 : Hid (V0.grownBy w7 none) := only_step (only_step V5.out D6.out (fun _ h => by cases h)) g7 (fun _ h => by cases h)
                  clear g7
                  go_wp2_with fail
                  exact ⟨⟨1, by omega, by go_num, G7, V7⟩, by simp [intOf]⟩
                · have ce := cells.out.2.1
                  have SX := scan_any A9 c9 Z2 wr (AH1 wr hCj.out).out Z2B.out (Nat.le_trans Z2L.out (by decide)) N9 (HT.out.grow hGj.out)
                  obtain ⟨TT, hTT⟩ : ∃ TT, TT = scanP Z2 := ⟨_, rfl⟩
                  rw [← hTT] at SX
                  have SX' := Lib.hid SX
                  have RX : ∀ V, w9.grownBy V none → Hid (Calls Tryd.prog 20 #[.slice A9 Z2.length c9] V fun e w' => ∃ v, e = .returned (.tuple #[v, .int .i64 TT.2]) ∧ RL w' V.heap.size v TT.1 ∧ V.grownBy w' none) := fun V hV => by
                    have h := rscan_any A9 c9 Z2 V (AH1 V hV).out Z2B.out (Nat.le_trans Z2L.out (by decide)) N9
                    rw [← hTT] at h
                    exact h
                  have TB := Lib.hid (show TT.1.length ≤ 1099511627776 by rw [hTT]; exact Nat.le_trans (scan_few Z2) (Nat.le_trans Z2L.out (by decide)))
                  have ALLC : ∀ V, V0.grownBy V none → Hid (V.cell? ⟨SB, 1, none⟩ = some (.slice A9 Z2.length c9)) := fun V hV => ((HAL V hV).out.2.1 : _)
                  clear SX hTT cells
                  go_wp2_with fail
                  refine SX'.out.mono ?_
                  rintro _ w5 ⟨v5, rfl, r5, g5⟩
                  obtain ⟨A5, c5, rfl⟩ := r5.form
                  have D5 := Lib.hid g5
                  have R5 := Lib.hid r5.rr
                  have V5 : Hid (V0.grownBy w5 none) := only_step hVj.out g5 (fun _ h => by cases h)
                  have C5 : Hid (w9.grownBy w5 none) := only_step hCj.out g5 (fun _ h => by cases h)
                  have ce5 := (ALLC w5 V5.out).out
                  clear r5 g5
                  go_wp2_with fail
                  refine (RX w5 C5.out).out.mono ?_
                  rintro _ w6 ⟨v6, rfl, r6, g6⟩
                  obtain ⟨A6, c6, rfl⟩ := r6.form
                  have D6 := Lib.hid g6
                  have RS := Lib.hid (rows_same A5 A6 c5 c6 TT.1 w6 (R5.out.grow g6) r6.rr TB.out)
                  clear r6 g6
                  go_wp2_with fail
                  refine RS.out.mono ?_
                  rintro _ w7 ⟨rfl, g7⟩
                  have G7 : Hid (w.grownBy w7 none) := only_step (only_step (only_step hGj.out D5.out (fun _ h => by cases h)) D6.out (fun _ h => by cases h)) g7 (fun _ h => by cases h)
                  have V7 : Hid (V0.grownBy w7 none) := only_step (only_step V5.out D6.out (fun _ h => by cases h)) g7 (fun _ h => by cases h)
                  clear g7
                  go_wp2_with fail
                  exact ⟨⟨2, by omega, by go_num, G7, V7⟩, by simp [intOf]⟩
                · have ce := cells.out.2.2
                  have SX := scan_any R cr m wr (AH2 wr hCj.out).out BM.out (by omega) hcr (HT.out.grow hGj.out)
                  obtain ⟨TT, hTT⟩ : ∃ TT, TT = scanP m := ⟨_, rfl⟩
                  rw [← hTT] at SX
                  have SX' := Lib.hid SX
                  have RX : ∀ V, w9.grownBy V none → Hid (Calls Tryd.prog 20 #[.slice R m.length cr] V fun e w' => ∃ v, e = .returned (.tuple #[v, .int .i64 TT.2]) ∧ RL w' V.heap.size v TT.1 ∧ V.grownBy w' none) := fun V hV => by
                    have h := rscan_any R cr m V (AH2 V hV).out BM.out (by omega) hcr
                    rw [← hTT] at h
                    exact h
                  have TB := Lib.hid (show TT.1.length ≤ 1099511627776 by rw [hTT]; exact Nat.le_trans (scan_few m) (by omega))
                  have ALLC : ∀ V, V0.grownBy V none → Hid (V.cell? ⟨SB, 2, none⟩ = some (.slice R m.length cr)) := fun V hV => ((HAL V hV).out.2.2 : _)
                  clear SX hTT cells
                  go_wp2_with fail
                  refine SX'.out.mono ?_
                  rintro _ w5 ⟨v5, rfl, r5, g5⟩
                  obtain ⟨A5, c5, rfl⟩ := r5.form
                  have D5 := Lib.hid g5
                  have R5 := Lib.hid r5.rr
                  have V5 : Hid (V0.grownBy w5 none) := only_step hVj.out g5 (fun _ h => by cases h)
                  have C5 : Hid (w9.grownBy w5 none) := only_step hCj.out g5 (fun _ h => by cases h)
                  have ce5 := (ALLC w5 V5.out).out
                  clear r5 g5
                  go_wp2_with fail
                  refine (RX w5 C5.out).out.mono ?_
                  rintro _ w6 ⟨v6, rfl, r6, g6⟩
                  obtain ⟨A6, c6, rfl⟩ := r6.form
                  have D6 := Lib.hid g6
                  have RS := Lib.hid (rows_same A5 A6 c5 c6 TT.1 w6 (R5.out.grow g6) r6.rr TB.out)
                  clear r6 g6
                  go_wp2_with fail
                  refine RS.out.mono ?_
                  rintro _ w7 ⟨rfl, g7⟩
                  have G7 : Hid (w.grownBy w7 none) := only_step (only_step (only_step hGj.out D5.out (fun _ h => by cases h)) D6.out (fun _ h => by cases h)) g7 (fun _ h => by cases h)
                  have V7 : Hid (V0.grownBy w7 none) := only_step (only_step V5.out D6.out (fun _ h => by cases h)) g7 (fun _ h => by cases h)
                  clear g7
                  go_wp2_with fail
                  exact ⟨⟨3, by omega, by go_num, G7, V7⟩, by simp [intOf]⟩
                · clear cells
                  go_wp2_with fail
                  go_ret
                  exact ⟨rfl, hGj.out⟩
            · have tc : (cut.tmod 2 == 1) = false := by rw [beq_eq_false_iff_ne]; exact tcut
              obtain ⟨Z, hZ⟩ : ∃ Z, Z = Y := ⟨_, rfl⟩
              have ZL := Lib.hid (show Z.length = n by rw [hZ]; exact YL.out)
              have ZB := Lib.hid (show ∀ x ∈ Z, 0 ≤ x ∧ x ≤ 255 by rw [hZ]; exact YB.out)
              have ZH : Hid (Has wr wr.heap.size A3 (bs Z)) := by rw [hZ]; exact Has.own O.out
              have kc3 : n ≤ c3 := by omega
              obtain ⟨Z2, hZ2⟩ : ∃ Z2, Z2 = Z ++ m := ⟨_, rfl⟩
              have Z2L := Lib.hid (show Z2.length ≤ 4000 by rw [hZ2, List.length_append, ZL.out]; omega)
              have Z2B := Lib.hid (show ∀ x ∈ Z2, 0 ≤ x ∧ x ≤ 255 from fun x hx => by rw [hZ2] at hx; exact (List.mem_append.1 hx).elim (ZB.out x) (BM.out x))
              have HZ2 := Lib.hid hZ2
              have d4 := Lib.hid (World.grownBy_alloc wr (.cells #[] 5) none)
              have sZ : Hid (Src Tryd.prog 1 22 (.slice A3 n c3) (bs Z).length (bs Z) (wr.alloc (.cells #[] 5))) := by
                have h := ZH.out.srcAt d4.out c3
                rw [ZL.out] at h; exact h
              have len1 : ([] : List Value).length + (bs Z).length ≤ 70368744177664 := by rw [bs_len, ZL.out]; show 0 + n ≤ _; omega
              have len2 : (bs Z).length + (bs m).length ≤ 70368744177664 := by rw [bs_len, bs_len, ZL.out]; omega
              have z4 := d4.out.size
              obtain ⟨B0, hB0⟩ : ∃ B0, B0 = wr := ⟨_, rfl⟩
              clear hZ hZ2 tcut hB0
              go_wp2_with (first
                | (at_builtin; refine app_bytes rfl _ _ 22 rfl wr.heap.size (.slice (some ⟨wr.heap.size, 0, none⟩) 0 0) [] rfl (own_lit0 wr) (.slice A3 n c3) (bs Z) rfl sZ.out len1 z4 ?_; intro v8 w8 g8; rw [List.nil_append] at g8; have D8 := Lib.hid (g8.all (own_lit0 wr) d4.out (Nat.le_refl _)); have O8 := Lib.hid g8.own; have G8 : Hid (w.grownBy w8 none) := only_step GW.out D8.out (fun _ h => by cases h); have s8 := Lib.hid (HR.out.srcAt G8.out cr); have z8 : wr.heap.size ≤ w8.heap.size := D8.out.size; clear g8)
                | (at_builtin; refine app_bytes rfl _ _ 22 rfl wr.heap.size v8 (bs Z) rfl O8.out (.slice R m.length cr) (bs m) rfl s8.out len2 z8 ?_; intro v9 w9 g9; rw [← bs_append, ← HZ2.out] at g9; have D9 := Lib.hid (g9.all O8.out D8.out (Nat.le_refl _)); have O9 : Hid (w9.ownsRow wr.heap.size 5 1 v9 Z2.length (bs Z2)) := (by have h := g9.own; rw [bs_len] at h; exact h); have G9 : Hid (w.grownBy w9 none) := only_step GW.out D9.out (fun _ h => by cases h); clear g9; obtain ⟨A9, c9, rfl⟩ := own_slice O9.out))
              have N9 := own_cap O9.out
              have AH0 : ∀ V, w9.grownBy V none → Hid (Has V V.heap.size A3 (bs Z)) := fun V hV => (((ZH.out.only D9.out (Nat.le_refl _) (fun _ h => by cases h)).more D9.out.size).only hV (Nat.le_refl _) (fun _ h => by cases h)).more hV.size
              have AH1 : ∀ V, w9.grownBy V none → Hid (Has V V.heap.size A9 (bs Z2)) := fun V hV => ((Has.own O9.out).only hV (Nat.le_refl _) (fun _ h => by cases h)).more hV.size
              have AH2 : ∀ V, w9.grownBy V none → Hid (Has V V.heap.size R (bs m)) := fun V hV => (HR.out.only (only_step G9.out hV (fun _ h => by cases h)) (Nat.le_refl _) (fun _ h => by cases h)).more (only_step G9.out hV (fun _ h => by cases h)).size
              have W9 := Lib.hid (World.grownBy_alloc w9 (.cells #[.slice A3 n c3, .slice A9 Z2.length c9, .slice R m.length cr] 22) none)
              have HAL : ∀ V, (w9.alloc (.cells #[.slice A3 n c3, .slice A9 Z2.length c9, .slice R m.length cr] 22)).grownBy V none → Hid (V.cell? ⟨w9.heap.size, 0, none⟩ = some (.slice A3 n c3) ∧ V.cell? ⟨w9.heap.size, 1, none⟩ = some (.slice A9 Z2.length c9) ∧ V.cell? ⟨w9.heap.size, 2, none⟩ = some (.slice R m.length cr)) := fun V hV => by
                have hlt : w9.heap.size < (w9.alloc (.cells #[.slice A3 n c3, .slice A9 Z2.length c9, .slice R m.length cr] 22)).heap.size := by show _ < (w9.heap.push _).size; rw [Array.size_push]; omega
                have o : ∀ j, V.cell? ⟨w9.heap.size, j, none⟩ = (#[Value.slice A3 n c3, .slice A9 Z2.length c9, .slice R m.length cr])[j]? := fun j => (World.cell?_of_block (hV.block _ hlt (by simp))).trans (by unfold World.cell?; rw [heap_alloc_new]; rfl)
                exact ⟨o 0, o 1, o 2⟩
              clear D8 O8 G8 s8 z8 sZ len1 len2 z4 d4
              obtain ⟨V0, hV0⟩ : ∃ V0, V0 = w9.alloc (.cells #[.slice A3 n c3, .slice A9 Z2.length c9, .slice R m.length cr] 22) := ⟨_, rfl⟩
              have g90 : w9.grownBy V0 none := by rw [hV0]; exact W9.out
              rw [← hV0] at HAL ⊢
              have g0 : Hid (w.grownBy V0 none) := only_step G9.out g90 (fun _ h => by cases h)
              have G90 := Lib.hid g90
              obtain ⟨SB, hSB⟩ : ∃ SB, SB = w9.heap.size := ⟨_, rfl⟩
              rw [← hSB] at HAL ⊢
              clear hV0 hSB g90 W9 O9 D9
              go_wp2_with fail
              go_loopw [14] (fun si wx => ∃ i : Nat, i ≤ 3 ∧ si = .int .i64 i ∧ Hid (w.grownBy wx none) ∧ Hid (V0.grownBy wx none)) (fun si _ => 3 - (intOf si).toNat)
              case atStart => exact ⟨0, by omega, rfl, g0, only_refl _ _⟩
              case round =>
                obtain ⟨j, hj, rfl, hGj, hVj⟩ := hrel
                have cells := HAL wr hVj.out
                have hCj : Hid (w9.grownBy wr none) := only_step G90.out hVj.out (fun _ h => by cases h)
                rcases (show j = 0 ∨ j = 1 ∨ j = 2 ∨ j = 3 by omega) with rfl | rfl | rfl | rfl
                · have ce := cells.out.1
                  have SX := scan_any A3 c3 Z wr (AH0 wr hCj.out).out ZB.out (by rw [ZL.out]; omega) (by rw [ZL.out]; exact kc3) (HT.out.grow hGj.out)
                  rw [ZL.out] at SX
                  obtain ⟨TT, hTT⟩ : ∃ TT, TT = scanP Z := ⟨_, rfl⟩
                  rw [← hTT] at SX
                  have SX' := Lib.hid SX
                  have RX : ∀ V, w9.grownBy V none → Hid (Calls Tryd.prog 20 #[.slice A3 n c3] V fun e w' => ∃ v, e = .returned (.tuple #[v, .int .i64 TT.2]) ∧ RL w' V.heap.size v TT.1 ∧ V.grownBy w' none) := fun V hV => by
                    have h := rscan_any A3 c3 Z V (AH0 V hV).out ZB.out (by rw [ZL.out]; omega) (by rw [ZL.out]; exact kc3)
                    rw [ZL.out] at h
                    rw [← hTT] at h
                    exact h
                  have TB := Lib.hid (show TT.1.length ≤ 1099511627776 by rw [hTT]; exact Nat.le_trans (scan_few Z) (by rw [ZL.out]; omega))
                  have ALLC : ∀ V, V0.grownBy V none → Hid (V.cell? ⟨SB, 0, none⟩ = some (.slice A3 n c3)) := fun V hV => ((HAL V hV).out.1 : _)
                  clear SX hTT cells
                  go_wp2_with fail
                  refine SX'.out.mono ?_
                  rintro _ w5 ⟨v5, rfl, r5, g5⟩
                  obtain ⟨A5, c5, rfl⟩ := r5.form
                  have D5 := Lib.hid g5
                  have R5 := Lib.hid r5.rr
                  have V5 : Hid (V0.grownBy w5 none) := only_step hVj.out g5 (fun _ h => by cases h)
                  have C5 : Hid (w9.grownBy w5 none) := only_step hCj.out g5 (fun _ h => by cases h)
                  have ce5 := (ALLC w5 V5.out).out
                  clear r5 g5
                  go_wp2_with fail
                  refine (RX w5 C5.out).out.mono ?_
                  rintro _ w6 ⟨v6, rfl, r6, g6⟩
                  obtain ⟨A6, c6, rfl⟩ := r6.form
                  have D6 := Lib.hid g6
                  have RS := Lib.hid (rows_same A5 A6 c5 c6 TT.1 w6 (R5.out.grow g6) r6.rr TB.out)
                  clear r6 g6
                  go_wp2_with fail
                  refine RS.out.mono ?_
                  rintro _ w7 ⟨rfl, g7⟩
                  have G7 : Hid (w.grownBy w7 none) := only_step (only_step (only_step hGj.out D5.out (fun _ h => by cases h)) D6.out (fun _ h => by cases h)) g7 (fun _ h => by cases h)
                  have V7 : Hid (V0.grownBy w7 none) := only_step (only_step V5.out D6.out (fun _ h => by cases h)) g7 (fun _ h => by cases h)
                  clear g7
                  go_wp2_with fail
                  exact ⟨⟨1, by omega, by go_num, G7, V7⟩, by simp [intOf]⟩
                · have ce := cells.out.2.1
                  have SX := scan_any A9 c9 Z2 wr (AH1 wr hCj.out).out Z2B.out (Nat.le_trans Z2L.out (by decide)) N9 (HT.out.grow hGj.out)
                  obtain ⟨TT, hTT⟩ : ∃ TT, TT = scanP Z2 := ⟨_, rfl⟩
                  rw [← hTT] at SX
                  have SX' := Lib.hid SX
                  have RX : ∀ V, w9.grownBy V none → Hid (Calls Tryd.prog 20 #[.slice A9 Z2.length c9] V fun e w' => ∃ v, e = .returned (.tuple #[v, .int .i64 TT.2]) ∧ RL w' V.heap.size v TT.1 ∧ V.grownBy w' none) := fun V hV => by
                    have h := rscan_any A9 c9 Z2 V (AH1 V hV).out Z2B.out (Nat.le_trans Z2L.out (by decide)) N9
                    rw [← hTT] at h
                    exact h
                  have TB := Lib.hid (show TT.1.length ≤ 1099511627776 by rw [hTT]; exact Nat.le_trans (scan_few Z2) (Nat.le_trans Z2L.out (by decide)))
                  have ALLC : ∀ V, V0.grownBy V none → Hid (V.cell? ⟨SB, 1, none⟩ = some (.slice A9 Z2.length c9)) := fun V hV => ((HAL V hV).out.2.1 : _)
                  clear SX hTT cells
                  go_wp2_with fail
                  refine SX'.out.mono ?_
                  rintro _ w5 ⟨v5, rfl, r5, g5⟩
                  obtain ⟨A5, c5, rfl⟩ := r5.form
                  have D5 := Lib.hid g5
                  have R5 := Lib.hid r5.rr
                  have V5 : Hid (V0.grownBy w5 none) := only_step hVj.out g5 (fun _ h => by cases h)
                  have C5 : Hid (w9.grownBy w5 none) := only_step hCj.out g5 (fun _ h => by cases h)
                  have ce5 := (ALLC w5 V5.out).out
                  clear r5 g5
                  go_wp2_with fail
                  refine (RX w5 C5.out).out.mono ?_
                  rintro _ w6 ⟨v6, rfl, r6, g6⟩
                  obtain ⟨A6, c6, rfl⟩ := r6.form
                  have D6 := Lib.hid g6
                  have RS := Lib.hid (rows_same A5 A6 c5 c6 TT.1 w6 (R5.out.grow g6) r6.rr TB.out)
                  clear r6 g6
                  go_wp2_with fail
                  refine RS.out.mono ?_
                  rintro _ w7 ⟨rfl, g7⟩
                  have G7 : Hid (w.grownBy w7 none) := only_step (only_step (only_step hGj.out D5.out (fun _ h => by cases h)) D6.out (fun _ h => by cases h)) g7 (fun _ h => by cases h)
                  have V7 : Hid (V0.grownBy w7 none) := only_step (only_step V5.out D6.out (fun _ h => by cases h)) g7 (fun _ h => by cases h)
                  clear g7
                  go_wp2_with fail
                  exact ⟨⟨2, by omega, by go_num, G7, V7⟩, by simp [intOf]⟩
                · have ce := cells.out.2.2
                  have SX := scan_any R cr m wr (AH2 wr hCj.out).out BM.out (by omega) hcr (HT.out.grow hGj.out)
                  obtain ⟨TT, hTT⟩ : ∃ TT, TT = scanP m := ⟨_, rfl⟩
                  rw [← hTT] at SX
                  have SX' := Lib.hid SX
                  have RX : ∀ V, w9.grownBy V none → Hid (Calls Tryd.prog 20 #[.slice R m.length cr] V fun e w' => ∃ v, e = .returned (.tuple #[v, .int .i64 TT.2]) ∧ RL w' V.heap.size v TT.1 ∧ V.grownBy w' none) := fun V hV => by
                    have h := rscan_any R cr m V (AH2 V hV).out BM.out (by omega) hcr
                    rw [← hTT] at h
                    exact h
                  have TB := Lib.hid (show TT.1.length ≤ 1099511627776 by rw [hTT]; exact Nat.le_trans (scan_few m) (by omega))
                  have ALLC : ∀ V, V0.grownBy V none → Hid (V.cell? ⟨SB, 2, none⟩ = some (.slice R m.length cr)) := fun V hV => ((HAL V hV).out.2.2 : _)
                  clear SX hTT cells
                  go_wp2_with fail
                  refine SX'.out.mono ?_
                  rintro _ w5 ⟨v5, rfl, r5, g5⟩
                  obtain ⟨A5, c5, rfl⟩ := r5.form
                  have D5 := Lib.hid g5
                  have R5 := Lib.hid r5.rr
                  have V5 : Hid (V0.grownBy w5 none) := only_step hVj.out g5 (fun _ h => by cases h)
                  have C5 : Hid (w9.grownBy w5 none) := only_step hCj.out g5 (fun _ h => by cases h)
                  have ce5 := (ALLC w5 V5.out).out
                  clear r5 g5
                  go_wp2_with fail
                  refine (RX w5 C5.out).out.mono ?_
                  rintro _ w6 ⟨v6, rfl, r6, g6⟩
                  obtain ⟨A6, c6, rfl⟩ := r6.form
                  have D6 := Lib.hid g6
                  have RS := Lib.hid (rows_same A5 A6 c5 c6 TT.1 w6 (R5.out.grow g6) r6.rr TB.out)
                  clear r6 g6
                  go_wp2_with fail
                  refine RS.out.mono ?_
                  rintro _ w7 ⟨rfl, g7⟩
                  have G7 : Hid (w.grownBy w7 none) := only_step (only_step (only_step hGj.out D5.out (fun _ h => by cases h)) D6.out (fun _ h => by cases h)) g7 (fun _ h => by cases h)
                  have V7 : Hid (V0.grownBy w7 none) := only_step (only_step V5.out D6.out (fun _ h => by cases h)) g7 (fun _ h => by cases h)
                  clear g7
                  go_wp2_with fail
                  exact ⟨⟨3, by omega, by go_num, G7, V7⟩, by simp [intOf]⟩
                · clear cells
                  go_wp2_with fail
                  go_ret
                  exact ⟨rfl, hGj.out⟩
        · have y3 : ¬ (i : Int) < 3 := by omega
          by_cases tcut : cut.tmod 2 = 1
          · have tc : (cut.tmod 2 == 1) = true := by rw [tcut]; rfl
            obtain ⟨Z, hZ⟩ : ∃ Z, Z = Y.take k := ⟨_, rfl⟩
            have ZL := Lib.hid (show Z.length = k by rw [hZ, List.length_take, YL.out]; omega)
            have ZB := Lib.hid (show ∀ x ∈ Z, 0 ≤ x ∧ x ≤ 255 from fun x hx => by rw [hZ] at hx; exact YB.out x (List.mem_of_mem_take hx))
            have ZH : Hid (Has wr wr.heap.size A3 (bs Z)) := by
              rw [hZ, show bs (Y.take k) = (bs Y).take k by simp [bs, List.map_take]]; exact (Has.own O.out).take k
            have kc : (k : Int) ≤ (c3 : Int) := by omega
            have k0 : (0 : Int) ≤ (k : Int) := by omega
            have kc3 : k ≤ c3 := by omega
            obtain ⟨Z2, hZ2⟩ : ∃ Z2, Z2 = Z ++ m := ⟨_, rfl⟩
            have Z2L := Lib.hid (show Z2.length ≤ 4000 by rw [hZ2, List.length_append, ZL.out]; omega)
            have Z2B := Lib.hid (show ∀ x ∈ Z2, 0 ≤ x ∧ x ≤ 255 from fun x hx => by rw [hZ2] at hx; exact (List.mem_append.1 hx).elim (ZB.out x) (BM.out x))
            have HZ2 := Lib.hid hZ2
            have d4 := Lib.hid (World.grownBy_alloc wr (.cells #[] 5) none)
            have sZ : Hid (Src Tryd.prog 1 22 (.slice A3 k c3) (bs Z).length (bs Z) (wr.alloc (.cells #[] 5))) := by
              have h := ZH.out.srcAt d4.out c3
              rw [ZL.out] at h; exact h
            have len1 : ([] : List Value).length + (bs Z).length ≤ 70368744177664 := by rw [bs_len, ZL.out]; show 0 + k ≤ _; omega
            have len2 : (bs Z).length + (bs m).length ≤ 70368744177664 := by rw [bs_len, bs_len, ZL.out]; omega
            have z4 := d4.out.size
            obtain ⟨B0, hB0⟩ : ∃ B0, B0 = wr := ⟨_, rfl⟩
            clear hZ hZ2 tcut hB0
            go_wp2_with fail
            refine (WD _).out.mono ?_
            rintro _ w4 ⟨rfl, rfl⟩
            go_wp2_with (first
              | (at_builtin; refine app_bytes rfl _ _ 22 rfl wr.heap.size (.slice (some ⟨wr.heap.size, 0, none⟩) 0 0) [] rfl (own_lit0 wr) (.slice A3 k c3) (bs Z) rfl sZ.out len1 z4 ?_; intro v8 w8 g8; rw [List.nil_append] at g8; have D8 := Lib.hid (g8.all (own_lit0 wr) d4.out (Nat.le_refl _)); have O8 := Lib.hid g8.own; have G8 : Hid (w.grownBy w8 none) := only_step GW.out D8.out (fun _ h => by cases h); have s8 := Lib.hid (HR.out.srcAt G8.out cr); have z8 : wr.heap.size ≤ w8.heap.size := D8.out.size; clear g8)
              | (at_builtin; refine app_bytes rfl _ _ 22 rfl wr.heap.size v8 (bs Z) rfl O8.out (.slice R m.length cr) (bs m) rfl s8.out len2 z8 ?_; intro v9 w9 g9; rw [← bs_append, ← HZ2.out] at g9; have D9 := Lib.hid (g9.all O8.out D8.out (Nat.le_refl _)); have O9 : Hid (w9.ownsRow wr.heap.size 5 1 v9 Z2.length (bs Z2)) := (by have h := g9.own; rw [bs_len] at h; exact h); have G9 : Hid (w.grownBy w9 none) := only_step GW.out D9.out (fun _ h => by cases h); clear g9; obtain ⟨A9, c9, rfl⟩ := own_slice O9.out))
            have N9 := own_cap O9.out
            have AH0 : ∀ V, w9.grownBy V none → Hid (Has V V.heap.size A3 (bs Z)) := fun V hV => (((ZH.out.only D9.out (Nat.le_refl _) (fun _ h => by cases h)).more D9.out.size).only hV (Nat.le_refl _) (fun _ h => by cases h)).more hV.size
            have AH1 : ∀ V, w9.grownBy V none → Hid (Has V V.heap.size A9 (bs Z2)) := fun V hV => ((Has.own O9.out).only hV (Nat.le_refl _) (fun _ h => by cases h)).more hV.size
            have AH2 : ∀ V, w9.grownBy V none → Hid (Has V V.heap.size R (bs m)) := fun V hV => (HR.out.only (only_step G9.out hV (fun _ h => by cases h)) (Nat.le_refl _) (fun _ h => by cases h)).more (only_step G9.out hV (fun _ h => by cases h)).size
            have W9 := Lib.hid (World.grownBy_alloc w9 (.cells #[.slice A3 k c3, .slice A9 Z2.length c9, .slice R m.length cr] 22) none)
            have HAL : ∀ V, (w9.alloc (.cells #[.slice A3 k c3, .slice A9 Z2.length c9, .slice R m.length cr] 22)).grownBy V none → Hid (V.cell? ⟨w9.heap.size, 0, none⟩ = some (.slice A3 k c3) ∧ V.cell? ⟨w9.heap.size, 1, none⟩ = some (.slice A9 Z2.length c9) ∧ V.cell? ⟨w9.heap.size, 2, none⟩ = some (.slice R m.length cr)) := fun V hV => by
              have hlt : w9.heap.size < (w9.alloc (.cells #[.slice A3 k c3, .slice A9 Z2.length c9, .slice R m.length cr] 22)).heap.size := by show _ < (w9.heap.push _).size; rw [Array.size_push]; omega
              have o : ∀ j, V.cell? ⟨w9.heap.size, j, none⟩ = (#[Value.slice A3 k c3, .slice A9 Z2.length c9, .slice R m.length cr])[j]? := fun j => (World.cell?_of_block (hV.block _ hlt (by simp))).trans (by unfold World.cell?; rw [heap_alloc_new]; rfl)
              exact ⟨o 0, o 1, o 2⟩
            clear D8 O8 G8 s8 z8 sZ len1 len2 z4 d4
            obtain ⟨V0, hV0⟩ : ∃ V0, V0 = w9.alloc (.cells #[.slice A3 k c3, .slice A9 Z2.length c9, .slice R m.length cr] 22) := ⟨_, rfl⟩
            have g90 : w9.grownBy V0 none := by rw [hV0]; exact W9.out
            rw [← hV0] at HAL ⊢
            have g0 : Hid (w.grownBy V0 none) := only_step G9.out g90 (fun _ h => by cases h)
            have G90 := Lib.hid g90
            obtain ⟨SB, hSB⟩ : ∃ SB, SB = w9.heap.size := ⟨_, rfl⟩
            rw [← hSB] at HAL ⊢
            clear hV0 hSB g90 W9 O9 D9
            go_wp2_with fail
            go_loopw [14] (fun si wx => ∃ i : Nat, i ≤ 3 ∧ si = .int .i64 i ∧ Hid (w.grownBy wx none) ∧ Hid (V0.grownBy wx none)) (fun si _ => 3 - (intOf si).toNat)
            case atStart => exact ⟨0, by omega, rfl, g0, only_refl _ _⟩
            case round =>
              obtain ⟨j, hj, rfl, hGj, hVj⟩ := hrel
              have cells := HAL wr hVj.out
              have hCj : Hid (w9.grownBy wr none) := only_step G90.out hVj.out (fun _ h => by cases h)
              rcases (show j = 0 ∨ j = 1 ∨ j = 2 ∨ j = 3 by omega) with rfl | rfl | rfl | rfl
              · have ce := cells.out.1
                have SX := scan_any A3 c3 Z wr (AH0 wr hCj.out).out ZB.out (by rw [ZL.out]; omega) (by rw [ZL.out]; exact kc3) (HT.out.grow hGj.out)
                rw [ZL.out] at SX
                obtain ⟨TT, hTT⟩ : ∃ TT, TT = scanP Z := ⟨_, rfl⟩
                rw [← hTT] at SX
                have SX' := Lib.hid SX
                have RX : ∀ V, w9.grownBy V none → Hid (Calls Tryd.prog 20 #[.slice A3 k c3] V fun e w' => ∃ v, e = .returned (.tuple #[v, .int .i64 TT.2]) ∧ RL w' V.heap.size v TT.1 ∧ V.grownBy w' none) := fun V hV => by
                  have h := rscan_any A3 c3 Z V (AH0 V hV).out ZB.out (by rw [ZL.out]; omega) (by rw [ZL.out]; exact kc3)
                  rw [ZL.out] at h
                  rw [← hTT] at h
                  exact h
                have TB := Lib.hid (show TT.1.length ≤ 1099511627776 by rw [hTT]; exact Nat.le_trans (scan_few Z) (by rw [ZL.out]; omega))
                have ALLC : ∀ V, V0.grownBy V none → Hid (V.cell? ⟨SB, 0, none⟩ = some (.slice A3 k c3)) := fun V hV => ((HAL V hV).out.1 : _)
                clear SX hTT cells
                go_wp2_with fail
                refine SX'.out.mono ?_
                rintro _ w5 ⟨v5, rfl, r5, g5⟩
                obtain ⟨A5, c5, rfl⟩ := r5.form
                have D5 := Lib.hid g5
                have R5 := Lib.hid r5.rr
                have V5 : Hid (V0.grownBy w5 none) := only_step hVj.out g5 (fun _ h => by cases h)
                have C5 : Hid (w9.grownBy w5 none) := only_step hCj.out g5 (fun _ h => by cases h)
                have ce5 := (ALLC w5 V5.out).out
                clear r5 g5
                go_wp2_with fail
                refine (RX w5 C5.out).out.mono ?_
                rintro _ w6 ⟨v6, rfl, r6, g6⟩
                obtain ⟨A6, c6, rfl⟩ := r6.form
                have D6 := Lib.hid g6
                have RS := Lib.hid (rows_same A5 A6 c5 c6 TT.1 w6 (R5.out.grow g6) r6.rr TB.out)
                clear r6 g6
                go_wp2_with fail
                refine RS.out.mono ?_
                rintro _ w7 ⟨rfl, g7⟩
                have G7 : Hid (w.grownBy w7 none) := only_step (only_step (only_step hGj.out D5.out (fun _ h => by cases h)) D6.out (fun _ h => by cases h)) g7 (fun _ h => by cases h)
                have V7 : Hid (V0.grownBy w7 none) := only_step (only_step V5.out D6.out (fun _ h => by cases h)) g7 (fun _ h => by cases h)
                clear g7
                go_wp2_with fail
                exact ⟨⟨1, by omega, by go_num, G7, V7⟩, by simp [intOf]⟩
              · have ce := cells.out.2.1
                have SX := scan_any A9 c9 Z2 wr (AH1 wr hCj.out).out Z2B.out (Nat.le_trans Z2L.out (by decide)) N9 (HT.out.grow hGj.out)
                obtain ⟨TT, hTT⟩ : ∃ TT, TT = scanP Z2 := ⟨_, rfl⟩
                rw [← hTT] at SX
                have SX' := Lib.hid SX
                have RX : ∀ V, w9.grownBy V none → Hid (Calls Tryd.prog 20 #[.slice A9 Z2.length c9] V fun e w' => ∃ v, e = .returned (.tuple #[v, .int .i64 TT.2]) ∧ RL w' V.heap.size v TT.1 ∧ V.grownBy w' none) := fun V hV => by
                  have h := rscan_any A9 c9 Z2 V (AH1 V hV).out Z2B.out (Nat.le_trans Z2L.out (by decide)) N9
                  rw [← hTT] at h
                  exact h
                have TB := Lib.hid (show TT.1.length ≤ 1099511627776 by rw [hTT]; exact Nat.le_trans (scan_few Z2) (Nat.le_trans Z2L.out (by decide)))
                have ALLC : ∀ V, V0.grownBy V none → Hid (V.cell? ⟨SB, 1, none⟩ = some (.slice A9 Z2.length c9)) := fun V hV => ((HAL V hV).out.2.1 : _)
                clear SX hTT cells
                go_wp2_with fail
                refine SX'.out.mono ?_
                rintro _ w5 ⟨v5, rfl, r5, g5⟩
                obtain ⟨A5, c5, rfl⟩ := r5.form
                have D5 := Lib.hid g5
                have R5 := Lib.hid r5.rr
                have V5 : Hid (V0.grownBy w5 none) := only_step hVj.out g5 (fun _ h => by cases h)
                have C5 : Hid (w9.grownBy w5 none) := only_step hCj.out g5 (fun _ h => by cases h)
                have ce5 := (ALLC w5 V5.out).out
                clear r5 g5
                go_wp2_with fail
                refine (RX w5 C5.out).out.mono ?_
                rintro _ w6 ⟨v6, rfl, r6, g6⟩
                obtain ⟨A6, c6, rfl⟩ := r6.form
                have D6 := Lib.hid g6
                have RS := Lib.hid (rows_same A5 A6 c5 c6 TT.1 w6 (R5.out.grow g6) r6.rr TB.out)
                clear r6 g6
                go_wp2_with fail
                refine RS.out.mono ?_
                rintro _ w7 ⟨rfl, g7⟩
                have G7 : Hid (w.grownBy w7 none) := only_step (only_step (only_step hGj.out D5.out (fun _ h => by cases h)) D6.out (fun _ h => by cases h)) g7 (fun _ h => by cases h)
                have V7 : Hid (V0.grownBy w7 none) := only_step (only_step V5.out D6.out (fun _ h => by cases h)) g7 (fun _ h => by cases h)
                clear g7
                go_wp2_with fail
                exact ⟨⟨2, by omega, by go_num, G7, V7⟩, by simp [intOf]⟩
              · have ce := cells.out.2.2
                have SX := scan_any R cr m wr (AH2 wr hCj.out).out BM.out (by omega) hcr (HT.out.grow hGj.out)
                obtain ⟨TT, hTT⟩ : ∃ TT, TT = scanP m := ⟨_, rfl⟩
                rw [← hTT] at SX
                have SX' := Lib.hid SX
                have RX : ∀ V, w9.grownBy V none → Hid (Calls Tryd.prog 20 #[.slice R m.length cr] V fun e w' => ∃ v, e = .returned (.tuple #[v, .int .i64 TT.2]) ∧ RL w' V.heap.size v TT.1 ∧ V.grownBy w' none) := fun V hV => by
                  have h := rscan_any R cr m V (AH2 V hV).out BM.out (by omega) hcr
                  rw [← hTT] at h
                  exact h
                have TB := Lib.hid (show TT.1.length ≤ 1099511627776 by rw [hTT]; exact Nat.le_trans (scan_few m) (by omega))
                have ALLC : ∀ V, V0.grownBy V none → Hid (V.cell? ⟨SB, 2, none⟩ = some (.slice R m.length cr)) := fun V hV => ((HAL V hV).out.2.2 : _)
                clear SX hTT cells
                go_wp2_with fail
                refine SX'.out.mono ?_
                rintro _ w5 ⟨v5, rfl, r5, g5⟩
                obtain ⟨A5, c5, rfl⟩ := r5.form
                have D5 := Lib.hid g5
                have R5 := Lib.hid r5.rr
                have V5 : Hid (V0.grownBy w5 none) := only_step hVj.out g5 (fun _ h => by cases h)
                have C5 : Hid (w9.grownBy w5 none) := only_step hCj.out g5 (fun _ h => by cases h)
                have ce5 := (ALLC w5 V5.out).out
                clear r5 g5
                go_wp2_with fail
                refine (RX w5 C5.out).out.mono ?_
                rintro _ w6 ⟨v6, rfl, r6, g6⟩
                obtain ⟨A6, c6, rfl⟩ := r6.form
                have D6 := Lib.hid g6
                have RS := Lib.hid (rows_same A5 A6 c5 c6 TT.1 w6 (R5.out.grow g6) r6.rr TB.out)
                clear r6 g6
                go_wp2_with fail
                refine RS.out.mono ?_
                rintro _ w7 ⟨rfl, g7⟩
                have G7 : Hid (w.grownBy w7 none) := only_step (only_step (only_step hGj.out D5.out (fun _ h => by cases h)) D6.out (fun _ h => by cases h)) g7 (fun _ h => by cases h)
                have V7 : Hid (V0.grownBy w7 none) := only_step (only_step V5.out D6.out (fun _ h => by cases h)) g7 (fun _ h => by cases h)
                clear g7
                go_wp2_with fail
                exact ⟨⟨3, by omega, by go_num, G7, V7⟩, by simp [intOf]⟩
              · clear cells
                go_wp2_with fail
                go_ret
                exact ⟨rfl, hGj.out⟩
          · have tc : (cut.tmod 2 == 1) = false := by rw [beq_eq_false_iff_ne]; exact tcut
            obtain ⟨Z, hZ⟩ : ∃ Z, Z = Y := ⟨_, rfl⟩
            have ZL := Lib.hid (show Z.length = n by rw [hZ]; exact YL.out)
            have ZB := Lib.hid (show ∀ x ∈ Z, 0 ≤ x ∧ x ≤ 255 by rw [hZ]; exact YB.out)
            have ZH : Hid (Has wr wr.heap.size A3 (bs Z)) := by rw [hZ]; exact Has.own O.out
            have kc3 : n ≤ c3 := by omega
            obtain ⟨Z2, hZ2⟩ : ∃ Z2, Z2 = Z ++ m := ⟨_, rfl⟩
            have Z2L := Lib.hid (show Z2.length ≤ 4000 by rw [hZ2, List.length_append, ZL.out]; omega)
            have Z2B := Lib.hid (show ∀ x ∈ Z2, 0 ≤ x ∧ x ≤ 255 from fun x hx => by rw [hZ2] at hx; exact (List.mem_append.1 hx).elim (ZB.out x) (BM.out x))
            have HZ2 := Lib.hid hZ2
            have d4 := Lib.hid (World.grownBy_alloc wr (.cells #[] 5) none)
            have sZ : Hid (Src Tryd.prog 1 22 (.slice A3 n c3) (bs Z).length (bs Z) (wr.alloc (.cells #[] 5))) := by
              have h := ZH.out.srcAt d4.out c3
              rw [ZL.out] at h; exact h
            have len1 : ([] : List Value).length + (bs Z).length ≤ 70368744177664 := by rw [bs_len, ZL.out]; show 0 + n ≤ _; omega
            have len2 : (bs Z).length + (bs m).length ≤ 70368744177664 := by rw [bs_len, bs_len, ZL.out]; omega
            have z4 := d4.out.size
            obtain ⟨B0, hB0⟩ : ∃ B0, B0 = wr := ⟨_, rfl⟩
            clear hZ hZ2 tcut hB0
            go_wp2_with (first
              | (at_builtin; refine app_bytes rfl _ _ 22 rfl wr.heap.size (.slice (some ⟨wr.heap.size, 0, none⟩) 0 0) [] rfl (own_lit0 wr) (.slice A3 n c3) (bs Z) rfl sZ.out len1 z4 ?_; intro v8 w8 g8; rw [List.nil_append] at g8; have D8 := Lib.hid (g8.all (own_lit0 wr) d4.out (Nat.le_refl _)); have O8 := Lib.hid g8.own; have G8 : Hid (w.grownBy w8 none) := only_step GW.out D8.out (fun _ h => by cases h); have s8 := Lib.hid (HR.out.srcAt G8.out cr); have z8 : wr.heap.size ≤ w8.heap.size := D8.out.size; clear g8)
              | (at_builtin; refine app_bytes rfl _ _ 22 rfl wr.heap.size v8 (bs Z) rfl O8.out (.slice R m.length cr) (bs m) rfl s8.out len2 z8 ?_; intro v9 w9 g9; rw [← bs_append, ← HZ2.out] at g9; have D9 := Lib.hid (g9.all O8.out D8.out (Nat.le_refl _)); have O9 : Hid (w9.ownsRow wr.heap.size 5 1 v9 Z2.length (bs Z2)) := (by have h := g9.own; rw [bs_len] at h; exact h); have G9 : Hid (w.grownBy w9 none) := only_step GW.out D9.out (fun _ h => by cases h); clear g9; obtain ⟨A9, c9, rfl⟩ := own_slice O9.out))
            have N9 := own_cap O9.out
            have AH0 : ∀ V, w9.grownBy V none → Hid (Has V V.heap.size A3 (bs Z)) := fun V hV => (((ZH.out.only D9.out (Nat.le_refl _) (fun _ h => by cases h)).more D9.out.size).only hV (Nat.le_refl _) (fun _ h => by cases h)).more hV.size
            have AH1 : ∀ V, w9.grownBy V none → Hid (Has V V.heap.size A9 (bs Z2)) := fun V hV => ((Has.own O9.out).only hV (Nat.le_refl _) (fun _ h => by cases h)).more hV.size
            have AH2 : ∀ V, w9.grownBy V none → Hid (Has V V.heap.size R (bs m)) := fun V hV => (HR.out.only (only_step G9.out hV (fun _ h => by cases h)) (Nat.le_refl _) (fun _ h => by cases h)).more (only_step G9.out hV (fun _ h => by cases h)).size
            have W9 := Lib.hid (World.grownBy_alloc w9 (.cells #[.slice A3 n c3, .slice A9 Z2.length c9, .slice R m.length cr] 22) none)
            have HAL : ∀ V, (w9.alloc (.cells #[.slice A3 n c3, .slice A9 Z2.length c9, .slice R m.length cr] 22)).grownBy V none → Hid (V.cell? ⟨w9.heap.size, 0, none⟩ = some (.slice A3 n c3) ∧ V.cell? ⟨w9.heap.size, 1, none⟩ = some (.slice A9 Z2.length c9) ∧ V.cell? ⟨w9.heap.size, 2, none⟩ = some (.slice R m.length cr)) := fun V hV => by
              have hlt : w9.heap.size < (w9.alloc (.cells #[.slice A3 n c3, .slice A9 Z2.length c9, .slice R m.length cr] 22)).heap.size := by show _ < (w9.heap.push _).size; rw [Array.size_push]; omega
              have o : ∀ j, V.cell? ⟨w9.heap.size, j, none⟩ = (#[Value.slice A3 n c3, .slice A9 Z2.length c9, .slice R m.length cr])[j]? := fun j => (World.cell?_of_block (hV.block _ hlt (by simp))).trans (by unfold World.cell?; rw [heap_alloc_new]; rfl)
              exact ⟨o 0, o 1, o 2⟩
            clear D8 O8 G8 s8 z8 sZ len1 len2 z4 d4
            obtain ⟨V0, hV0⟩ : ∃ V0, V0 = w9.alloc (.cells #[.slice A3 n c3, .slice A9 Z2.length c9, .slice R m.length cr] 22) := ⟨_, rfl⟩
            have g90 : w9.grownBy V0 none := by rw [hV0]; exact W9.out
            rw [← hV0] at HAL ⊢
            have g0 : Hid (w.grownBy V0 none) := only_step G9.out g90 (fun _ h => by cases h)
            have G90 := Lib.hid g90
            obtain ⟨SB, hSB⟩ : ∃ SB, SB = w9.heap.size := ⟨_, rfl⟩
            rw [← hSB] at HAL ⊢
            clear hV0 hSB g90 W9 O9 D9
            go_wp2_with fail
            go_loopw [14] (fun si wx => ∃ i : Nat, i ≤ 3 ∧ si = .int .i64 i ∧ Hid (w.grownBy wx none) ∧ Hid (V0.grownBy wx none)) (fun si _ => 3 - (intOf si).toNat)
            case atStart => exact ⟨0, by omega, rfl, g0, only_refl _ _⟩
            case round =>
              obtain ⟨j, hj, rfl, hGj, hVj⟩ := hrel
              have cells := HAL wr hVj.out
              have hCj : Hid (w9.grownBy wr none) := only_step G90.out hVj.out (fun _ h => by cases h)
              rcases (show j = 0 ∨ j = 1 ∨ j = 2 ∨ j = 3 by omega) with rfl | rfl | rfl | rfl
              · have ce := cells.out.1
                have SX := scan_any A3 c3 Z wr (AH0 wr hCj.out).out ZB.out (by rw [ZL.out]; omega) (by rw [ZL.out]; exact kc3) (HT.out.grow hGj.out)
                rw [ZL.out] at SX
                obtain ⟨TT, hTT⟩ : ∃ TT, TT = scanP Z := ⟨_, rfl⟩
                rw [← hTT] at SX
                have SX' := Lib.hid SX
                have RX : ∀ V, w9.grownBy V none → Hid (Calls Tryd.prog 20 #[.slice A3 n c3] V fun e w' => ∃ v, e = .returned (.tuple #[v, .int .i64 TT.2]) ∧ RL w' V.heap.size v TT.1 ∧ V.grownBy w' none) := fun V hV => by
                  have h := rscan_any A3 c3 Z V (AH0 V hV).out ZB.out (by rw [ZL.out]; omega) (by rw [ZL.out]; exact kc3)
                  rw [ZL.out] at h
                  rw [← hTT] at h
                  exact h
                have TB := Lib.hid (show TT.1.length ≤ 1099511627776 by rw [hTT]; exact Nat.le_trans (scan_few Z) (by rw [ZL.out]; omega))
                have ALLC : ∀ V, V0.grownBy V none → Hid (V.cell? ⟨SB, 0, none⟩ = some (.slice A3 n c3)) := fun V hV => ((HAL V hV).out.1 : _)
                clear SX hTT cells
                go_wp2_with fail
                refine SX'.out.mono ?_
                rintro _ w5 ⟨v5, rfl, r5, g5⟩
                obtain ⟨A5, c5, rfl⟩ := r5.form
                have D5 := Lib.hid g5
                have R5 := Lib.hid r5.rr
                have V5 : Hid (V0.grownBy w5 none) := only_step hVj.out g5 (fun _ h => by cases h)
                have C5 : Hid (w9.grownBy w5 none) := only_step hCj.out g5 (fun _ h => by cases h)
                have ce5 := (ALLC w5 V5.out).out
                clear r5 g5
                go_wp2_with fail
                refine (RX w5 C5.out).out.mono ?_
                rintro _ w6 ⟨v6, rfl, r6, g6⟩
                obtain ⟨A6, c6, rfl⟩ := r6.form
                have D6 := Lib.hid g6
                have RS := Lib.hid (rows_same A5 A6 c5 c6 TT.1 w6 (R5.out.grow g6) r6.rr TB.out)
                clear r6 g6
                go_wp2_with fail
                refine RS.out.mono ?_
                rintro _ w7 ⟨rfl, g7⟩
                have G7 : Hid (w.grownBy w7 none) := only_step (only_step (only_step hGj.out D5.out (fun _ h => by cases h)) D6.out (fun _ h => by cases h)) g7 (fun _ h => by cases h)
                have V7 : Hid (V0.grownBy w7 none) := only_step (only_step V5.out D6.out (fun _ h => by cases h)) g7 (fun _ h => by cases h)
                clear g7
                go_wp2_with fail
                exact ⟨⟨1, by omega, by go_num, G7, V7⟩, by simp [intOf]⟩
              · have ce := cells.out.2.1
                have SX := scan_any A9 c9 Z2 wr (AH1 wr hCj.out).out Z2B.out (Nat.le_trans Z2L.out (by decide)) N9 (HT.out.grow hGj.out)
                obtain ⟨TT, hTT⟩ : ∃ TT, TT = scanP Z2 := ⟨_, rfl⟩
                rw [← hTT] at SX
                have SX' := Lib.hid SX
                have RX : ∀ V, w9.grownBy V none → Hid (Calls Tryd.prog 20 #[.slice A9 Z2.length c9] V fun e w' => ∃ v, e = .returned (.tuple #[v, .int .i64 TT.2]) ∧ RL w' V.heap.size v TT.1 ∧ V.grownBy w' none) := fun V hV => by
                  have h := rscan_any A9 c9 Z2 V (AH1 V hV).out Z2B.out (Nat.le_trans Z2L.out (by decide)) N9
                  rw [← hTT] at h
                  exact h
                have TB := Lib.hid (show TT.1.length ≤ 1099511627776 by rw [hTT]; exact Nat.le_trans (scan_few Z2) (Nat.le_trans Z2L.out (by decide)))
                have ALLC : ∀ V, V0.grownBy V none → Hid (V.cell? ⟨SB, 1, none⟩ = some (.slice A9 Z2.length c9)) := fun V hV => ((HAL V hV).out.2.1 : _)
                clear SX hTT cells
                go_wp2_with fail
                refine SX'.out.mono ?_
                rintro _ w5 ⟨v5, rfl, r5, g5⟩
                obtain ⟨A5, c5, rfl⟩ := r5.form
                have D5 := Lib.hid g5
                have R5 := Lib.hid r5.rr
                have V5 : Hid (V0.grownBy w5 none) := only_step hVj.out g5 (fun _ h => by cases h)
                have C5 : Hid (w9.grownBy w5 none) := only_step hCj.out g5 (fun _ h => by cases h)
                have ce5 := (ALLC w5 V5.out).out
                clear r5 g5
                go_wp2_with fail
                refine (RX w5 C5.out).out.mono ?_
                rintro _ w6 ⟨v6, rfl, r6, g6⟩
                obtain ⟨A6, c6, rfl⟩ := r6.form
                have D6 := Lib.hid g6
                have RS := Lib.hid (rows_same A5 A6 c5 c6 TT.1 w6 (R5.out.grow g6) r6.rr TB.out)
                clear r6 g6
                go_wp2_with fail
                refine RS.out.mono ?_
                rintro _ w7 ⟨rfl, g7⟩
                have G7 : Hid (w.grownBy w7 none) := only_step (only_step (only_step hGj.out D5.out (fun _ h => by cases h)) D6.out (fun _ h => by cases h)) g7 (fun _ h => by cases h)
                have V7 : Hid (V0.grownBy w7 none) := only_step (only_step V5.out D6.out (fun _ h => by cases h)) g7 (fun _ h => by cases h)
                clear g7
                go_wp2_with fail
                exact ⟨⟨2, by omega, by go_num, G7, V7⟩, by simp [intOf]⟩
              · have ce := cells.out.2.2
                have SX := scan_any R cr m wr (AH2 wr hCj.out).out BM.out (by omega) hcr (HT.out.grow hGj.out)
                obtain ⟨TT, hTT⟩ : ∃ TT, TT = scanP m := ⟨_, rfl⟩
                rw [← hTT] at SX
                have SX' := Lib.hid SX
                have RX : ∀ V, w9.grownBy V none → Hid (Calls Tryd.prog 20 #[.slice R m.length cr] V fun e w' => ∃ v, e = .returned (.tuple #[v, .int .i64 TT.2]) ∧ RL w' V.heap.size v TT.1 ∧ V.grownBy w' none) := fun V hV => by
                  have h := rscan_any R cr m V (AH2 V hV).out BM.out (by omega) hcr
                  rw [← hTT] at h
                  exact h
                have TB := Lib.hid (show TT.1.length ≤ 1099511627776 by rw [hTT]; exact Nat.le_trans (scan_few m) (by omega))
                have ALLC : ∀ V, V0.grownBy V none → Hid (V.cell? ⟨SB, 2, none⟩ = some (.slice R m.length cr)) := fun V hV => ((HAL V hV).out.2.2 : _)
                clear SX hTT cells
                go_wp2_with fail
                refine SX'.out.mono ?_
                rintro _ w5 ⟨v5, rfl, r5, g5⟩
                obtain ⟨A5, c5, rfl⟩ := r5.form
                have D5 := Lib.hid g5
                have R5 := Lib.hid r5.rr
                have V5 : Hid (V0.grownBy w5 none) := only_step hVj.out g5 (fun _ h => by cases h)
                have C5 : Hid (w9.grownBy w5 none) := only_step hCj.out g5 (fun _ h => by cases h)
                have ce5 := (ALLC w5 V5.out).out
                clear r5 g5
                go_wp2_with fail
                refine (RX w5 C5.out).out.mono ?_
                rintro _ w6 ⟨v6, rfl, r6, g6⟩
                obtain ⟨A6, c6, rfl⟩ := r6.form
                have D6 := Lib.hid g6
                have RS := Lib.hid (rows_same A5 A6 c5 c6 TT.1 w6 (R5.out.grow g6) r6.rr TB.out)
                clear r6 g6
                go_wp2_with fail
                refine RS.out.mono ?_
                rintro _ w7 ⟨rfl, g7⟩
                have G7 : Hid (w.grownBy w7 none) := only_step (only_step (only_step hGj.out D5.out (fun _ h => by cases h)) D6.out (fun _ h => by cases h)) g7 (fun _ h => by cases h)
                have V7 : Hid (V0.grownBy w7 none) := only_step (only_step V5.out D6.out (fun _ h => by cases h)) g7 (fun _ h => by cases h)
                clear g7
                go_wp2_with fail
                exact ⟨⟨3, by omega, by go_num, G7, V7⟩, by simp [intOf]⟩
              · clear cells
                go_wp2_with fail
                go_ret
                exact ⟨rfl, hGj.out⟩
      · have y2 : ¬ (i : Int) < (by'.length : Int) := by omega
        by_cases tcut : cut.tmod 2 = 1
        · have tc : (cut.tmod 2 == 1) = true := by rw [tcut]; rfl
          obtain ⟨Z, hZ⟩ : ∃ Z, Z = Y.take k := ⟨_, rfl⟩
          have ZL := Lib.hid (show Z.length = k by rw [hZ, List.length_take, YL.out]; omega)
          have ZB := Lib.hid (show ∀ x ∈ Z, 0 ≤ x ∧ x ≤ 255 from fun x hx => by rw [hZ] at hx; exact YB.out x (List.mem_of_mem_take hx))
          have ZH : Hid (Has wr wr.heap.size A3 (bs Z)) := by
            rw [hZ, show bs (Y.take k) = (bs Y).take k by simp [bs, List.map_take]]; exact (Has.own O.out).take k
          have kc : (k : Int) ≤ (c3 : Int) := by omega
          have k0 : (0 : Int) ≤ (k : Int) := by omega
          have kc3 : k ≤ c3 := by omega
          obtain ⟨Z2, hZ2⟩ : ∃ Z2, Z2 = Z ++ m := ⟨_, rfl⟩
          have Z2L := Lib.hid (show Z2.length ≤ 4000 by rw [hZ2, List.length_append, ZL.out]; omega)
          have Z2B := Lib.hid (show ∀ x ∈ Z2, 0 ≤ x ∧ x ≤ 255 from fun x hx => by rw [hZ2] at hx; exact (List.mem_append.1 hx).elim (ZB.out x) (BM.out x))
          have HZ2 := Lib.hid hZ2
          have d4 := Lib.hid (World.grownBy_alloc wr (.cells #[] 5) none)
          have sZ : Hid (Src Tryd.prog 1 22 (.slice A3 k c3) (bs Z).length (bs Z) (wr.alloc (.cells #[] 5))) := by
            have h := ZH.out.srcAt d4.out c3
            rw [ZL.out] at h; exact h
          have len1 : ([] : List Value).length + (bs Z).length ≤ 70368744177664 := by rw [bs_len, ZL.out]; show 0 + k ≤ _; omega
          have len2 : (bs Z).length + (bs m).length ≤ 70368744177664 := by rw [bs_len, bs_len, ZL.out]; omega
          have z4 := d4.out.size
          obtain ⟨B0, hB0⟩ : ∃ B0, B0 = wr := ⟨_, rfl⟩
          clear hZ hZ2 tcut hB0
          go_wp2_with fail
          refine (WD _).out.mono ?_
          rintro _ w4 ⟨rfl, rfl⟩
          go_wp2_with (first
            | (at_builtin; refine app_bytes rfl _ _ 22 rfl wr.heap.size (.slice (some ⟨wr.heap.size, 0, none⟩) 0 0) [] rfl (own_lit0 wr) (.slice A3 k c3) (bs Z) rfl sZ.out len1 z4 ?_; intro v8 w8 g8; rw [List.nil_append] at g8; have D8 := Lib.hid (g8.all (own_lit0 wr) d4.out (Nat.le_refl _)); have O8 := Lib.hid g8.own; have G8 : Hid (w.grownBy w8 none) := only_step GW.out D8.out (fun _ h => by cases h); have s8 := Lib.hid (HR.out.srcAt G8.out cr); have z8 : wr.heap.size ≤ w8.heap.size := D8.out.size; clear g8)
            | (at_builtin; refine app_bytes rfl _ _ 22 rfl wr.heap.size v8 (bs Z) rfl O8.out (.slice R m.length cr) (bs m) rfl s8.out len2 z8 ?_; intro v9 w9 g9; rw [← bs_append, ← HZ2.out] at g9; have D9 := Lib.hid (g9.all O8.out D8.out (Nat.le_refl _)); have O9 : Hid (w9.ownsRow wr.heap.size 5 1 v9 Z2.length (bs Z2)) := (by have h := g9.own; rw [bs_len] at h; exact h); have G9 : Hid (w.grownBy w9 none) := only_step GW.out D9.out (fun _ h => by cases h); clear g9; obtain ⟨A9, c9, rfl⟩ := own_slice O9.out))
          have N9 := own_cap O9.out
          have AH0 : ∀ V, w9.grownBy V none → Hid (Has V V.heap.size A3 (bs Z)) := fun V hV => (((ZH.out.only D9.out (Nat.le_refl _) (fun _ h => by cases h)).more D9.out.size).only hV (Nat.le_refl _) (fun _ h => by cases h)).more hV.size
          have AH1 : ∀ V, w9.grownBy V none → Hid (Has V V.heap.size A9 (bs Z2)) := fun V hV => ((Has.own O9.out).only hV (Nat.le_refl _) (fun _ h => by cases h)).more hV.size
          have AH2 : ∀ V, w9.grownBy V none → Hid (Has V V.heap.size R (bs m)) := fun V hV => (HR.out.only (only_step G9.out hV (fun _ h => by cases h)) (Nat.le_refl _) (fun _ h => by cases h)).more (only_step G9.out hV (fun _ h => by cases h)).size
          have W9 := Lib.hid (World.grownBy_alloc w9 (.cells #[.slice A3 k c3, .slice A9 Z2.length c9, .slice R m.length cr] 22) none)
          have HAL : ∀ V, (w9.alloc (.cells #[.slice A3 k c3, .slice A9 Z2.length c9, .slice R m.length cr] 22)).grownBy V none → Hid (V.cell? ⟨w9.heap.size, 0, none⟩ = some (.slice A3 k c3) ∧ V.cell? ⟨w9.heap.size, 1, none⟩ = some (.slice A9 Z2.length c9) ∧ V.cell? ⟨w9.heap.size, 2, none⟩ = some (.slice R m.length cr)) := fun V hV => by
            have hlt : w9.heap.size < (w9.alloc (.cells #[.slice A3 k c3, .slice A9 Z2.length c9, .slice R m.length cr] 22)).heap.size := by show _ < (w9.heap.push _).size; rw [Array.size_push]; omega
            have o : ∀ j, V.cell? ⟨w9.heap.size, j, none⟩ = (#[Value.slice A3 k c3, .slice A9 Z2.length c9, .slice R m.length cr])[j]? := fun j => (World.cell?_of_block (hV.block _ hlt (by simp))).trans (by unfold World.cell?; rw [heap_alloc_new]; rfl)
            exact ⟨o 0, o 1, o 2⟩
          clear D8 O8 G8 s8 z8 sZ len1 len2 z4 d4
          obtain ⟨V0, hV0⟩ : ∃ V0, V0 = w9.alloc (.cells #[.slice A3 k c3, .slice A9 Z2.length c9, .slice R m.length cr] 22) := ⟨_, rfl⟩
          have g90 : w9.grownBy V0 none := by rw [hV0]; exact W9.out
          rw [← hV0] at HAL ⊢
          have g0 : Hid (w.grownBy V0 none) := only_step G9.out g90 (fun _ h => by cases h)
          have G90 := Lib.hid g90
          obtain ⟨SB, hSB⟩ : ∃ SB, SB = w9.heap.size := ⟨_, rfl⟩
          rw [← hSB] at HAL ⊢
          clear hV0 hSB g90 W9 O9 D9
          go_wp2_with fail
          go_loopw [14] (fun si wx => ∃ i : Nat, i ≤ 3 ∧ si = .int .i64 i ∧ Hid (w.grownBy wx none) ∧ Hid (V0.grownBy wx none)) (fun si _ => 3 - (intOf si).toNat)
          case atStart => exact ⟨0, by omega, rfl, g0, only_refl _ _⟩
          case round =>
            obtain ⟨j, hj, rfl, hGj, hVj⟩ := hrel
            have cells := HAL wr hVj.out
            have hCj : Hid (w9.grownBy wr none) := only_step G90.out hVj.out (fun _ h => by cases h)
            rcases (show j = 0 ∨ j = 1 ∨ j = 2 ∨ j = 3 by omega) with rfl | rfl | rfl | rfl
            · have ce := cells.out.1
              have SX := scan_any A3 c3 Z wr (AH0 wr hCj.out).out ZB.out (by rw [ZL.out]; omega) (by rw [ZL.out]; exact kc3) (HT.out.grow hGj.out)
              rw [ZL.out] at SX
              obtain ⟨TT, hTT⟩ : ∃ TT, TT = scanP Z := ⟨_, rfl⟩
              rw [← hTT] at SX
              have SX' := Lib.hid SX
              have RX : ∀ V, w9.grownBy V none → Hid (Calls Tryd.prog 20 #[.slice A3 k c3] V fun e w' => ∃ v, e = .returned (.tuple #[v, .int .i64 TT.2]) ∧ RL w' V.heap.size v TT.1 ∧ V.grownBy w' none) := fun V hV => by
                have h := rscan_any A3 c3 Z V (AH0 V hV).out ZB.out (by rw [ZL.out]; omega) (by rw [ZL.out]; exact kc3)
                rw [ZL.out] at h
                rw [← hTT] at h
                exact h
              have TB := Lib.hid (show TT.1.length ≤ 1099511627776 by rw [hTT]; exact Nat.le_trans (scan_few Z) (by rw [ZL.out]; omega))
              have ALLC : ∀ V, V0.grownBy V none → Hid (V.cell? ⟨SB, 0, none⟩ = some (.slice A3 k c3)) := fun V hV => ((HAL V hV).out.1 : _)
              clear SX hTT cells
              go_wp2_with fail
              refine SX'.out.mono ?_
              rintro _ w5 ⟨v5, rfl, r5, g5⟩
              obtain ⟨A5, c5, rfl⟩ := r5.form
              have D5 := Lib.hid g5
              have R5 := Lib.hid r5.rr
              have V5 : Hid (V0.grownBy w5 none) := only_step hVj.out g5 (fun _ h => by cases h)
              have C5 : Hid (w9.grownBy w5 none) := only_step hCj.out g5 (fun _ h => by cases h)
              have ce5 := (ALLC w5 V5.out).out
              clear r5 g5
              go_wp2_with fail
              refine (RX w5 C5.out).out.mono ?_
              rintro _ w6 ⟨v6, rfl, r6, g6⟩
              obtain ⟨A6, c6, rfl⟩ := r6.form
              have D6 := Lib.hid g6
              have RS := Lib.hid (rows_same A5 A6 c5 c6 TT.1 w6 (R5.out.grow g6) r6.rr TB.out)
              clear r6 g6
              go_wp2_with fail
              refine RS.out.mono ?_
              rintro _ w7 ⟨rfl, g7⟩
              have G7 : Hid (w.grownBy w7 none) := only_step (only_step (only_step hGj.out D5.out (fun _ h => by cases h)) D6.out (fun _ h => by cases h)) g7 (fun _ h => by cases h)
              have V7 : Hid (V0.grownBy w7 none) := only_step (only_step V5.out D6.out (fun _ h => by cases h)) g7 (fun _ h => by cases h)
              clear g7
              go_wp2_with fail
              exact ⟨⟨1, by omega, by go_num, G7, V7⟩, by simp [intOf]⟩
            · have ce := cells.out.2.1
              have SX := scan_any A9 c9 Z2 wr (AH1 wr hCj.out).out Z2B.out (Nat.le_trans Z2L.out (by decide)) N9 (HT.out.grow hGj.out)
              obtain ⟨TT, hTT⟩ : ∃ TT, TT = scanP Z2 := ⟨_, rfl⟩
              rw [← hTT] at SX
              have SX' := Lib.hid SX
              have RX : ∀ V, w9.grownBy V none → Hid (Calls Tryd.prog 20 #[.slice A9 Z2.length c9] V fun e w' => ∃ v, e = .returned (.tuple #[v, .int .i64 TT.2]) ∧ RL w' V.heap.size v TT.1 ∧ V.grownBy w' none) := fun V hV => by
                have h := rscan_any A9 c9 Z2 V (AH1 V hV).out Z2B.out (Nat.le_trans Z2L.out (by decide)) N9
                rw [← hTT] at h
                exact h
              have TB := Lib.hid (show TT.1.length ≤ 1099511627776 by rw [hTT]; exact Nat.le_trans (scan_few Z2) (Nat.le_trans Z2L.out (by decide)))
              have ALLC : ∀ V, V0.grownBy V none → Hid (V.cell? ⟨SB, 1, none⟩ = some (.slice A9 Z2.length c9)) := fun V hV => ((HAL V hV).out.2.1 : _)
              clear SX hTT cells
              go_wp2_with fail
              refine SX'.out.mono ?_
              rintro _ w5 ⟨v5, rfl, r5, g5⟩
              obtain ⟨A5, c5, rfl⟩ := r5.form
              have D5 := Lib.hid g5
              have R5 := Lib.hid r5.rr
              have V5 : Hid (V0.grownBy w5 none) := only_step hVj.out g5 (fun _ h => by cases h)
              have C5 : Hid (w9.grownBy w5 none) := only_step hCj.out g5 (fun _ h => by cases h)
              have ce5 := (ALLC w5 V5.out).out
              clear r5 g5
              go_wp2_with fail
              refine (RX w5 C5.out).out.mono ?_
              rintro _ w6 ⟨v6, rfl, r6, g6⟩
              obtain ⟨A6, c6, rfl⟩ := r6.form
              have D6 := Lib.hid g6
              have RS := Lib.hid (rows_same A5 A6 c5 c6 TT.1 w6 (R5.out.grow g6) r6.rr TB.out)
              clear r6 g6
              go_wp2_with fail
              refine RS.out.mono ?_
              rintro _ w7 ⟨rfl, g7⟩
              have G7 : Hid (w.grownBy w7 none) := only_step (only_step (only_step hGj.out D5.out (fun _ h => by cases h)) D6.out (fun _ h => by cases h)) g7 (fun _ h => by cases h)
              have V7 : Hid (V0.grownBy w7 none) := only_step (only_step V5.out D6.out (fun _ h => by cases h)) g7 (fun _ h => by cases h)
              clear g7
              go_wp2_with fail
              exact ⟨⟨2, by omega, by go_num, G7, V7⟩, by simp [intOf]⟩
            · have ce := cells.out.2.2
              have SX := scan_any R cr m wr (AH2 wr hCj.out).out BM.out (by omega) hcr (HT.out.grow hGj.out)
              obtain ⟨TT, hTT⟩ : ∃ TT, TT = scanP m := ⟨_, rfl⟩
              rw [← hTT] at SX
              have SX' := Lib.hid SX
              have RX : ∀ V, w9.grownBy V none → Hid (Calls Tryd.prog 20 #[.slice R m.length cr] V fun e w' => ∃ v, e = .returned (.tuple #[v, .int .i64 TT.2]) ∧ RL w' V.heap.size v TT.1 ∧ V.grownBy w' none) := fun V hV => by
                have h := rscan_any R cr m V (AH2 V hV).out BM.out (by omega) hcr
                rw [← hTT] at h
                exact h
              have TB := Lib.hid (show TT.1.length ≤ 1099511627776 by rw [hTT]; exact Nat.le_trans (scan_few m) (by omega))
              have ALLC : ∀ V, V0.grownBy V none → Hid (V.cell? ⟨SB, 2, none⟩ = some (.slice R m.length cr)) := fun V hV => ((HAL V hV).out.2.2 : _)
              clear SX hTT cells
              go_wp2_with fail
              refine SX'.out.mono ?_
              rintro _ w5 ⟨v5, rfl, r5, g5⟩
              obtain ⟨A5, c5, rfl⟩ := r5.form
              have D5 := Lib.hid g5
              have R5 := Lib.hid r5.rr
              have V5 : Hid (V0.grownBy w5 none) := only_step hVj.out g5 (fun _ h => by cases h)
              have C5 : Hid (w9.grownBy w5 none) := only_step hCj.out g5 (fun _ h => by cases h)
              have ce5 := (ALLC w5 V5.out).out
              clear r5 g5
              go_wp2_with fail
              refine (RX w5 C5.out).out.mono ?_
              rintro _ w6 ⟨v6, rfl, r6, g6⟩
              obtain ⟨A6, c6, rfl⟩ := r6.form
              have D6 := Lib.hid g6
              have RS := Lib.hid (rows_same A5 A6 c5 c6 TT.1 w6 (R5.out.grow g6) r6.rr TB.out)
              clear r6 g6
              go_wp2_with fail
              refine RS.out.mono ?_
              rintro _ w7 ⟨rfl, g7⟩
              have G7 : Hid (w.grownBy w7 none) := only_step (only_step (only_step hGj.out D5.out (fun _ h => by cases h)) D6.out (fun _ h => by cases h)) g7 (fun _ h => by cases h)
              have V7 : Hid (V0.grownBy w7 none) := only_step (only_step V5.out D6.out (fun _ h => by cases h)) g7 (fun _ h => by cases h)
              clear g7
              go_wp2_with fail
              exact ⟨⟨3, by omega, by go_num, G7, V7⟩, by simp [intOf]⟩
            · clear cells
              go_wp2_with fail
              go_ret
              exact ⟨rfl, hGj.out⟩
        · have tc : (cut.tmod 2 == 1) = false := by rw [beq_eq_false_iff_ne]; exact tcut
          obtain ⟨Z, hZ⟩ : ∃ Z, Z = Y := ⟨_, rfl⟩
          have ZL := Lib.hid (show Z.length = n by rw [hZ]; exact YL.out)
          have ZB := Lib.hid (show ∀ x ∈ Z, 0 ≤ x ∧ x ≤ 255 by rw [hZ]; exact YB.out)
          have ZH : Hid (Has wr wr.heap.size A3 (bs Z)) := by rw [hZ]; exact Has.own O.out
          have kc3 : n ≤ c3 := by omega
          obtain ⟨Z2, hZ2⟩ : ∃ Z2, Z2 = Z ++ m := ⟨_, rfl⟩
          have Z2L := Lib.hid (show Z2.length ≤ 4000 by rw [hZ2, List.length_append, ZL.out]; omega)
          have Z2B := Lib.hid (show ∀ x ∈ Z2, 0 ≤ x ∧ x ≤ 255 from fun x hx => by rw [hZ2] at hx; exact (List.mem_append.1 hx).elim (ZB.out x) (BM.out x))
          have HZ2 := Lib.hid hZ2
          have d4 := Lib.hid (World.grownBy_alloc wr (.cells #[] 5) none)
          have sZ : Hid (Src Tryd.prog 1 22 (.slice A3 n c3) (bs Z).length (bs Z) (wr.alloc (.cells #[] 5))) := by
            have h := ZH.out.srcAt d4.out c3
            rw [ZL.out] at h; exact h
          have len1 : ([] : List Value).length + (bs Z).length ≤ 70368744177664 := by rw [bs_len, ZL.out]; show 0 + n ≤ _; omega
          have len2 : (bs Z).length + (bs m).length ≤ 70368744177664 := by rw [bs_len, bs_len, ZL.out]; omega
          have z4 := d4.out.size
          obtain ⟨B0, hB0⟩ : ∃ B0, B0 = wr := ⟨_, rfl⟩
          clear hZ hZ2 tcut hB0
          go_wp2_with (first
            | (at_builtin; refine app_bytes rfl _ _ 22 rfl wr.heap.size (.slice (some ⟨wr.heap.size, 0, none⟩) 0 0) [] rfl (own_lit0 wr) (.slice A3 n c3) (bs Z) rfl sZ.out len1 z4 ?_; intro v8 w8 g8; rw [List.nil_append] at g8; have D8 := Lib.hid (g8.all (own_lit0 wr) d4.out (Nat.le_refl _)); have O8 := Lib.hid g8.own; have G8 : Hid (w.grownBy w8 none) := only_step GW.out D8.out (fun _ h => by cases h); have s8 := Lib.hid (HR.out.srcAt G8.out cr); have z8 : wr.heap.size ≤ w8.heap.size := D8.out.size; clear g8)
            | (at_builtin; refine app_bytes rfl _ _ 22 rfl wr.heap.size v8 (bs Z) rfl O8.out (.slice R m.length cr) (bs m) rfl s8.out len2 z8 ?_; intro v9 w9 g9; rw [← bs_append, ← HZ2.out] at g9; have D9 := Lib.hid (g9.all O8.out D8.out (Nat.le_refl _)); have O9 : Hid (w9.ownsRow wr.heap.size 5 1 v9 Z2.length (bs Z2)) := (by have h := g9.own; rw [bs_len] at h; exact h); have G9 : Hid (w.grownBy w9 none) := only_step GW.out D9.out (fun _ h => by cases h); clear g9; obtain ⟨A9, c9, rfl⟩ := own_slice O9.out))
          have N9 := own_cap O9.out
          have AH0 : ∀ V, w9.grownBy V none → Hid (Has V V.heap.size A3 (bs Z)) := fun V hV => (((ZH.out.only D9.out (Nat.le_refl _) (fun _ h => by cases h)).more D9.out.size).only hV (Nat.le_refl _) (fun _ h => by cases h)).more hV.size
          have AH1 : ∀ V, w9.grownBy V none → Hid (Has V V.heap.size A9 (bs Z2)) := fun V hV => ((Has.own O9.out).only hV (Nat.le_refl _) (fun _ h => by cases h)).more hV.size
          have AH2 : ∀ V, w9.grownBy V none → Hid (Has V V.heap.size R (bs m)) := fun V hV => (HR.out.only (only_step G9.out hV (fun _ h => by cases h)) (Nat.le_refl _) (fun _ h => by cases h)).more (only_step G9.out hV (fun _ h => by cases h)).size
          have W9 := Lib.hid (World.grownBy_alloc w9 (.cells #[.slice A3 n c3, .slice A9 Z2.length c9, .slice R m.length cr] 22) none)
          have HAL : ∀ V, (w9.alloc (.cells #[.slice A3 n c3, .slice A9 Z2.length c9, .slice R m.length cr] 22)).grownBy V none → Hid (V.cell? ⟨w9.heap.size, 0, none⟩ = some (.slice A3 n c3) ∧ V.cell? ⟨w9.heap.size, 1, none⟩ = some (.slice A9 Z2.length c9) ∧ V.cell? ⟨w9.heap.size, 2, none⟩ = some (.slice R m.length cr)) := fun V hV => by
            have hlt : w9.heap.size < (w9.alloc (.cells #[.slice A3 n c3, .slice A9 Z2.length c9, .slice R m.length cr] 22)).heap.size := by show _ < (w9.heap.push _).size; rw [Array.size_push]; omega
            have o : ∀ j, V.cell? ⟨w9.heap.size, j, none⟩ = (#[Value.slice A3 n c3, .slice A9 Z2.length c9, .slice R m.length cr])[j]? := fun j => (World.cell?_of_block (hV.block _ hlt (by simp))).trans (by unfold World.cell?; rw [heap_alloc_new]; rfl)
            exact ⟨o 0, o 1, o 2⟩
          clear D8 O8 G8 s8 z8 sZ len1 len2 z4 d4
          obtain ⟨V0, hV0⟩ : ∃ V0, V0 = w9.alloc (.cells #[.slice A3 n c3, .slice A9 Z2.length c9, .slice R m.length cr] 22) := ⟨_, rfl⟩
          have g90 : w9.grownBy V0 none := by rw [hV0]; exact W9.out
          rw [← hV0] at HAL ⊢
          have g0 : Hid (w.grownBy V0 none) := only_step G9.out g90 (fun _ h => by cases h)
          have G90 := Lib.hid g90
          obtain ⟨SB, hSB⟩ : ∃ SB, SB = w9.heap.size := ⟨_, rfl⟩
          rw [← hSB] at HAL ⊢
          clear hV0 hSB g90 W9 O9 D9
          go_wp2_with fail
          go_loopw [14] (fun si wx => ∃ i : Nat, i ≤ 3 ∧ si = .int .i64 i ∧ Hid (w.grownBy wx none) ∧ Hid (V0.grownBy wx none)) (fun si _ => 3 - (intOf si).toNat)
          case atStart => exact ⟨0, by omega, rfl, g0, only_refl _ _⟩
          case round =>
            obtain ⟨j, hj, rfl, hGj, hVj⟩ := hrel
            have cells := HAL wr hVj.out
            have hCj : Hid (w9.grownBy wr none) := only_step G90.out hVj.out (fun _ h => by cases h)
            rcases (show j = 0 ∨ j = 1 ∨ j = 2 ∨ j = 3 by omega) with rfl | rfl | rfl | rfl
            · have ce := cells.out.1
              have SX := scan_any A3 c3 Z wr (AH0 wr hCj.out).out ZB.out (by rw [ZL.out]; omega) (by rw [ZL.out]; exact kc3) (HT.out.grow hGj.out)
              rw [ZL.out] at SX
              obtain ⟨TT, hTT⟩ : ∃ TT, TT = scanP Z := ⟨_, rfl⟩
              rw [← hTT] at SX
              have SX' := Lib.hid SX
              have RX : ∀ V, w9.grownBy V none → Hid (Calls Tryd.prog 20 #[.slice A3 n c3] V fun e w' => ∃ v, e = .returned (.tuple #[v, .int .i64 TT.2]) ∧ RL w' V.heap.size v TT.1 ∧ V.grownBy w' none) := fun V hV => by
                have h := rscan_any A3 c3 Z V (AH0 V hV).out ZB.out (by rw [ZL.out]; omega) (by rw [ZL.out]; exact kc3)
                rw [ZL.out] at h
                rw [← hTT] at h
                exact h
              have TB := Lib.hid (show TT.1.length ≤ 1099511627776 by rw [hTT]; exact Nat.le_trans (scan_few Z) (by rw [ZL.out]; omega))
              have ALLC : ∀ V, V0.grownBy V none → Hid (V.cell? ⟨SB, 0, none⟩ = some (.slice A3 n c3)) := fun V hV => ((HAL V hV).out.1 : _)
              clear SX hTT cells
              go_wp2_with fail
              refine SX'.out.mono ?_
              rintro _ w5 ⟨v5, rfl, r5, g5⟩
              obtain ⟨A5, c5, rfl⟩ := r5.form
              have D5 := Lib.hid g5
              have R5 := Lib.hid r5.rr
              have V5 : Hid (V0.grownBy w5 none) := only_step hVj.out g5 (fun _ h => by cases h)
              have C5 : Hid (w9.grownBy w5 none) := only_step hCj.out g5 (fun _ h => by cases h)
              have ce5 := (ALLC w5 V5.out).out
              clear r5 g5
              go_wp2_with fail
              refine (RX w5 C5.out).out.mono ?_
              rintro _ w6 ⟨v6, rfl, r6, g6⟩
              obtain ⟨A6, c6, rfl⟩ := r6.form
              have D6 := Lib.hid g6
              have RS := Lib.hid (rows_same A5 A6 c5 c6 TT.1 w6 (R5.out.grow g6) r6.rr TB.out)
              clear r6 g6
              go_wp2_with fail
              refine RS.out.mono ?_
              rintro _ w7 ⟨rfl, g7⟩
              have G7 : Hid (w.grownBy w7 none) := only_step (only_step (only_step hGj.out D5.out (fun _ h => by cases h)) D6.out (fun _ h => by cases h)) g7 (fun _ h => by cases h)
              have V7 : Hid (V0.grownBy w7 none) := only_step (only_step V5.out D6.out (fun _ h => by cases h)) g7 (fun _ h => by cases h)
              clear g7
              go_wp2_with fail
              exact ⟨⟨1, by omega, by go_num, G7, V7⟩, by simp [intOf]⟩
            · have ce := cells.out.2.1
              have SX := scan_any A9 c9 Z2 wr (AH1 wr hCj.out).out Z2B.out (Nat.le_trans Z2L.out (by decide)) N9 (HT.out.grow hGj.out)
              obtain ⟨TT, hTT⟩ : ∃ TT, TT = scanP Z2 := ⟨_, rfl⟩
              rw [← hTT] at SX
              have SX' := Lib.hid SX
              have RX : ∀ V, w9.grownBy V none → Hid (Calls Tryd.prog 20 #[.slice A9 Z2.length c9] V fun e w' => ∃ v, e = .returned (.tuple #[v, .int .i64 TT.2]) ∧ RL w' V.heap.size v TT.1 ∧ V.grownBy w' none) := fun V hV => by
                have h := rscan_any A9 c9 Z2 V (AH1 V hV).out Z2B.out (Nat.le_trans Z2L.out (by decide)) N9
                rw [← hTT] at h
                exact h
              have TB := Lib.hid (show TT.1.length ≤ 1099511627776 by rw [hTT]; exact Nat.le_trans (scan_few Z2) (Nat.le_trans Z2L.out (by decide)))
              have ALLC : ∀ V, V0.grownBy V none → Hid (V.cell? ⟨SB, 1, none⟩ = some (.slice A9 Z2.length c9)) := fun V hV => ((HAL V hV).out.2.1 : _)
              clear SX hTT cells
              go_wp2_with fail
              refine SX'.out.mono ?_
              rintro _ w5 ⟨v5, rfl, r5, g5⟩
              obtain ⟨A5, c5, rfl⟩ := r5.form
              have D5 := Lib.hid g5
              have R5 := Lib.hid r5.rr
              have V5 : Hid (V0.grownBy w5 none) := only_step hVj.out g5 (fun _ h => by cases h)
              have C5 : Hid (w9.grownBy w5 none) := only_step hCj.out g5 (fun _ h => by cases h)
              have ce5 := (ALLC w5 V5.out).out
              clear r5 g5
              go_wp2_with fail
              refine (RX w5 C5.out).out.mono ?_
              rintro _ w6 ⟨v6, rfl, r6, g6⟩
              obtain ⟨A6, c6, rfl⟩ := r6.form
              have D6 := Lib.hid g6
              have RS := Lib.hid (rows_same A5 A6 c5 c6 TT.1 w6 (R5.out.grow g6) r6.rr TB.out)
              clear r6 g6
              go_wp2_with fail
              refine RS.out.mono ?_
              rintro _ w7 ⟨rfl, g7⟩
              have G7 : Hid (w.grownBy w7 none) := only_step (only_step (only_step hGj.out D5.out (fun _ h => by cases h)) D6.out (fun _ h => by cases h)) g7 (fun _ h => by cases h)
              have V7 : Hid (V0.grownBy w7 none) := only_step (only_step V5.out D6.out (fun _ h => by cases h)) g7 (fun _ h => by cases h)
              clear g7
              go_wp2_with fail
              exact ⟨⟨2, by omega, by go_num, G7, V7⟩, by simp [intOf]⟩
            · have ce := cells.out.2.2
              have SX := scan_any R cr m wr (AH2 wr hCj.out).out BM.out (by omega) hcr (HT.out.grow hGj.out)
              obtain ⟨TT, hTT⟩ : ∃ TT, TT = scanP m := ⟨_, rfl⟩
              rw [← hTT] at SX
              have SX' := Lib.hid SX
              have RX : ∀ V, w9.grownBy V none → Hid (Calls Tryd.prog 20 #[.slice R m.length cr] V fun e w' => ∃ v, e = .returned (.tuple #[v, .int .i64 TT.2]) ∧ RL w' V.heap.size v TT.1 ∧ V.grownBy w' none) := fun V hV => by
                have h := rscan_any R cr m V (AH2 V hV).out BM.out (by omega) hcr
                rw [← hTT] at h
                exact h
              have TB := Lib.hid (show TT.1.length ≤ 1099511627776 by rw [hTT]; exact Nat.le_trans (scan_few m) (by omega))
              have ALLC : ∀ V, V0.grownBy V none → Hid (V.cell? ⟨SB, 2, none⟩ = some (.slice R m.length cr)) := fun V hV => ((HAL V hV).out.2.2 : _)
              clear SX hTT cells
              go_wp2_with fail
              refine SX'.out.mono ?_
              rintro _ w5 ⟨v5, rfl, r5, g5⟩
              obtain ⟨A5, c5, rfl⟩ := r5.form
              have D5 := Lib.hid g5
              have R5 := Lib.hid r5.rr
              have V5 : Hid (V0.grownBy w5 none) := only_step hVj.out g5 (fun _ h => by cases h)
              have C5 : Hid (w9.grownBy w5 none) := only_step hCj.out g5 (fun _ h => by cases h)
              have ce5 := (ALLC w5 V5.out).out
              clear r5 g5
              go_wp2_with fail
              refine (RX w5 C5.out).out.mono ?_
              rintro _ w6 ⟨v6, rfl, r6, g6⟩
              obtain ⟨A6, c6, rfl⟩ := r6.form
              have D6 := Lib.hid g6
              have RS := Lib.hid (rows_same A5 A6 c5 c6 TT.1 w6 (R5.out.grow g6) r6.rr TB.out)
              clear r6 g6
              go_wp2_with fail
              refine RS.out.mono ?_
              rintro _ w7 ⟨rfl, g7⟩
              have G7 : Hid (w.grownBy w7 none) := only_step (only_step (only_step hGj.out D5.out (fun _ h => by cases h)) D6.out (fun _ h => by cases h)) g7 (fun _ h => by cases h)
              have V7 : Hid (V0.grownBy w7 none) := only_step (only_step V5.out D6.out (fun _ h => by cases h)) g7 (fun _ h => by cases h)
              clear g7
              go_wp2_with fail
              exact ⟨⟨3, by omega, by go_num, G7, V7⟩, by simp [intOf]⟩
            · clear cells
              go_wp2_with fail
              go_ret
              exact ⟨rfl, hGj.out⟩
    · have y1 : ¬ (i : Int) < (at'.length : Int) := by omega
      by_cases tcut : cut.tmod 2 = 1
      · have tc : (cut.tmod 2 == 1) = true := by rw [tcut]; rfl
        obtain ⟨Z, hZ⟩ : ∃ Z, Z = Y.take k := ⟨_, rfl⟩
        have ZL := Lib.hid (show Z.length = k by rw [hZ, List.length_take, YL.out]; omega)
        have ZB := Lib.hid (show ∀ x ∈ Z, 0 ≤ x ∧ x ≤ 255 from fun x hx => by rw [hZ] at hx; exact YB.out x (List.mem_of_mem_take hx))
        have ZH : Hid (Has wr wr.heap.size A3 (bs Z)) := by
          rw [hZ, show bs (Y.take k) = (bs Y).take k by simp [bs, List.map_take]]; exact (Has.own O.out).take k
        have kc : (k : Int) ≤ (c3 : Int) := by omega
        have k0 : (0 : Int) ≤ (k : Int) := by omega
        have kc3 : k ≤ c3 := by omega
        obtain ⟨Z2, hZ2⟩ : ∃ Z2, Z2 = Z ++ m := ⟨_, rfl⟩
        have Z2L := Lib.hid (show Z2.length ≤ 4000 by rw [hZ2, List.length_append, ZL.out]; omega)
        have Z2B := Lib.hid (show ∀ x ∈ Z2, 0 ≤ x ∧ x ≤ 255 from fun x hx => by rw [hZ2] at hx; exact (List.mem_append.1 hx).elim (ZB.out x) (BM.out x))
        have HZ2 := Lib.hid hZ2
        have d4 := Lib.hid (World.grownBy_alloc wr (.cells #[] 5) none)
        have sZ : Hid (Src Tryd.prog 1 22 (.slice A3 k c3) (bs Z).length (bs Z) (wr.alloc (.cells #[] 5))) := by
          have h := ZH.out.srcAt d4.out c3
          rw [ZL.out] at h; exact h
        have len1 : ([] : List Value).length + (bs Z).length ≤ 70368744177664 := by rw [bs_len, ZL.out]; show 0 + k ≤ _; omega
        have len2 : (bs Z).length + (bs m).length ≤ 70368744177664 := by rw [bs_len, bs_len, ZL.out]; omega
        have z4 := d4.out.size
        obtain ⟨B0, hB0⟩ : ∃ B0, B0 = wr := ⟨_, rfl⟩
        clear hZ hZ2 tcut hB0
        go_wp2_with fail
        refine (WD _).out.mono ?_
        rintro _ w4 ⟨rfl, rfl⟩
        go_wp2_with (first
          | (at_builtin; refine app_bytes rfl _ _ 22 rfl wr.heap.size (.slice (some ⟨wr.heap.size, 0, none⟩) 0 0) [] rfl (own_lit0 wr) (.slice A3 k c3) (bs Z) rfl sZ.out len1 z4 ?_; intro v8 w8 g8; rw [List.nil_append] at g8; have D8 := Lib.hid (g8.all (own_lit0 wr) d4.out (Nat.le_refl _)); have O8 := Lib.hid g8.own; have G8 : Hid (w.grownBy w8 none) := only_step GW.out D8.out (fun _ h => by cases h); have s8 := Lib.hid (HR.out.srcAt G8.out cr); have z8 : wr.heap.size ≤ w8.heap.size := D8.out.size; clear g8)
          | (at_builtin; refine app_bytes rfl _ _ 22 rfl wr.heap.size v8 (bs Z) rfl O8.out (.slice R m.length cr) (bs m) rfl s8.out len2 z8 ?_; intro v9 w9 g9; rw [← bs_append, ← HZ2.out] at g9; have D9 := Lib.hid (g9.all O8.out D8.out (Nat.le_refl _)); have O9 : Hid (w9.ownsRow wr.heap.size 5 1 v9 Z2.length (bs Z2)) := (by have h := g9.own; rw [bs_len] at h; exact h); have G9 : Hid (w.grownBy w9 none) := only_step GW.out D9.out (fun _ h => by cases h); clear g9; obtain ⟨A9, c9, rfl⟩ := own_slice O9.out))
        have N9 := own_cap O9.out
        have AH0 : ∀ V, w9.grownBy V none → Hid (Has V V.heap.size A3 (bs Z)) := fun V hV => (((ZH.out.only D9.out (Nat.le_refl _) (fun _ h => by cases h)).more D9.out.size).only hV (Nat.le_refl _) (fun _ h => by cases h)).more hV.size
        have AH1 : ∀ V, w9.grownBy V none → Hid (Has V V.heap.size A9 (bs Z2)) := fun V hV => ((Has.own O9.out).only hV (Nat.le_refl _) (fun _ h => by cases h)).more hV.size
        have AH2 : ∀ V, w9.grownBy V none → Hid (Has V V.heap.size R (bs m)) := fun V hV => (HR.out.only (only_step G9.out hV (fun _ h => by cases h)) (Nat.le_refl _) (fun _ h => by cases h)).more (only_step G9.out hV (fun _ h => by cases h)).size
        have W9 := Lib.hid (World.grownBy_alloc w9 (.cells #[.slice A3 k c3, .slice A9 Z2.length c9, .slice R m.length cr] 22) none)
        have HAL : ∀ V, (w9.alloc (.cells #[.slice A3 k c3, .slice A9 Z2.length c9, .slice R m.length cr] 22)).grownBy V none → Hid (V.cell? ⟨w9.heap.size, 0, none⟩ = some (.slice A3 k c3) ∧ V.cell? ⟨w9.heap.size, 1, none⟩ = some (.slice A9 Z2.length c9) ∧ V.cell? ⟨w9.heap.size, 2, none⟩ = some (.slice R m.length cr)) := fun V hV => by
          have hlt : w9.heap.size < (w9.alloc (.cells #[.slice A3 k c3, .slice A9 Z2.length c9, .slice R m.length cr] 22)).heap.size := by show _ < (w9.heap.push _).size; rw [Array.size_push]; omega
          have o : ∀ j, V.cell? ⟨w9.heap.size, j, none⟩ = (#[Value.slice A3 k c3, .slice A9 Z2.length c9, .slice R m.length cr])[j]? := fun j => (World.cell?_of_block (hV.block _ hlt (by simp))).trans (by unfold World.cell?; rw [heap_alloc_new]; rfl)
          exact ⟨o 0, o 1, o 2⟩
        clear D8 O8 G8 s8 z8 sZ len1 len2 z4 d4
        obtain ⟨V0, hV0⟩ : ∃ V0, V0 = w9.alloc (.cells #[.slice A3 k c3, .slice A9 Z2.length c9, .slice R m.length cr] 22) := ⟨_, rfl⟩
        have g90 : w9.grownBy V0 none := by rw [hV0]; exact W9.out
        rw [← hV0] at HAL ⊢
        have g0 : Hid (w.grownBy V0 none) := only_step G9.out g90 (fun _ h => by cases h)
        have G90 := Lib.hid g90
        obtain ⟨SB, hSB⟩ : ∃ SB, SB = w9.heap.size := ⟨_, rfl⟩
        rw [← hSB] at HAL ⊢
        clear hV0 hSB g90 W9 O9 D9
        go_wp2_with fail
        go_loopw [14] (fun si wx => ∃ i : Nat, i ≤ 3 ∧ si = .int .i64 i ∧ Hid (w.grownBy wx none) ∧ Hid (V0.grownBy wx none)) (fun si _ => 3 - (intOf si).toNat)
        case atStart => exact ⟨0, by omega, rfl, g0, only_refl _ _⟩
        case round =>
          obtain ⟨j, hj, rfl, hGj, hVj⟩ := hrel
          have cells := HAL wr hVj.out
          have hCj : Hid (w9.grownBy wr none) := only_step G90.out hVj.out (fun _ h => by cases h)
          rcases (show j = 0 ∨ j = 1 ∨ j = 2 ∨ j = 3 by omega) with rfl | rfl | rfl | rfl
          · have ce := cells.out.1
            have SX := scan_any A3 c3 Z wr (AH0 wr hCj.out).out ZB.out (by rw [ZL.out]; omega) (by rw [ZL.out]; exact kc3) (HT.out.grow hGj.out)
            rw [ZL.out] at SX
            obtain ⟨TT, hTT⟩ : ∃ TT, TT = scanP Z := ⟨_, rfl⟩
            rw [← hTT] at SX
            have SX' := Lib.hid SX
            have RX : ∀ V, w9.grownBy V none → Hid (Calls Tryd.prog 20 #[.slice A3 k c3] V fun e w' => ∃ v, e = .returned (.tuple #[v, .int .i64 TT.2]) ∧ RL w' V.heap.size v TT.1 ∧ V.grownBy w' none) := fun V hV => by
              have h := rscan_any A3 c3 Z V (AH0 V hV).out ZB.out (by rw [ZL.out]; omega) (by rw [ZL.out]; exact kc3)
              rw [ZL.out] at h
              rw [← hTT] at h
              exact h
            have TB := Lib.hid (show TT.1.length ≤ 1099511627776 by rw [hTT]; exact Nat.le_trans (scan_few Z) (by rw [ZL.out]; omega))
            have ALLC : ∀ V, V0.grownBy V none → Hid (V.cell? ⟨SB, 0, none⟩ = some (.slice A3 k c3)) := fun V hV => ((HAL V hV).out.1 : _)
            clear SX hTT cells
            go_wp2_with fail
            refine SX'.out.mono ?_
            rintro _ w5 ⟨v5, rfl, r5, g5⟩
            obtain ⟨A5, c5, rfl⟩ := r5.form
            have D5 := Lib.hid g5
            have R5 := Lib.hid r5.rr
            have V5 : Hid (V0.grownBy w5 none) := only_step hVj.out g5 (fun _ h => by cases h)
            have C5 : Hid (w9.grownBy w5 none) := only_step hCj.out g5 (fun _ h => by cases h)
            have ce5 := (ALLC w5 V5.out).out
            clear r5 g5
            go_wp2_with fail
            refine (RX w5 C5.out).out.mono ?_
            rintro _ w6 ⟨v6, rfl, r6, g6⟩
            obtain ⟨A6, c6, rfl⟩ := r6.form
            have D6 := Lib.hid g6
            have RS := Lib.hid (rows_same A5 A6 c5 c6 TT.1 w6 (R5.out.grow g6) r6.rr TB.out)
            clear r6 g6
            go_wp2_with fail
            refine RS.out.mono ?_
            rintro _ w7 ⟨rfl, g7⟩
            have G7 : Hid (w.grownBy w7 none) := only_step (only_step (only_step hGj.out D5.out (fun _ h => by cases h)) D6.out (fun _ h => by cases h)) g7 (fun _ h => by cases h)
            have V7 : Hid (V0.grownBy w7 none) := only_step (only_step V5.out D6.out (fun _ h => by cases h)) g7 (fun _ h => by cases h)
            clear g7
            go_wp2_with fail
            exact ⟨⟨1, by omega, by go_num, G7, V7⟩, by simp [intOf]⟩
          · have ce := cells.out.2.1
            have SX := scan_any A9 c9 Z2 wr (AH1 wr hCj.out).out Z2B.out (Nat.le_trans Z2L.out (by decide)) N9 (HT.out.grow hGj.out)
            obtain ⟨TT, hTT⟩ : ∃ TT, TT = scanP Z2 := ⟨_, rfl⟩
            rw [← hTT] at SX
            have SX' := Lib.hid SX
            have RX : ∀ V, w9.grownBy V none → Hid (Calls Tryd.prog 20 #[.slice A9 Z2.length c9] V fun e w' => ∃ v, e = .returned (.tuple #[v, .int .i64 TT.2]) ∧ RL w' V.heap.size v TT.1 ∧ V.grownBy w' none) := fun V hV => by
              have h := rscan_any A9 c9 Z2 V (AH1 V hV).out Z2B.out (Nat.le_trans Z2L.out (by decide)) N9
              rw [← hTT] at h
              exact h
            have TB := Lib.hid (show TT.1.length ≤ 1099511627776 by rw [hTT]; exact Nat.le_trans (scan_few Z2) (Nat.le_trans Z2L.out (by decide)))
            have ALLC : ∀ V, V0.grownBy V none → Hid (V.cell? ⟨SB, 1, none⟩ = some (.slice A9 Z2.length c9)) := fun V hV => ((HAL V hV).out.2.1 : _)
            clear SX hTT cells
            go_wp2_with fail
            refine SX'.out.mono ?_
            rintro _ w5 ⟨v5, rfl, r5, g5⟩
            obtain ⟨A5, c5, rfl⟩ := r5.form
            have D5 := Lib.hid g5
            have R5 := Lib.hid r5.rr
            have V5 : Hid (V0.grownBy w5 none) := only_step hVj.out g5 (fun _ h => by cases h)
            have C5 : Hid (w9.grownBy w5 none) := only_step hCj.out g5 (fun _ h => by cases h)
            have ce5 := (ALLC w5 V5.out).out
            clear r5 g5
            go_wp2_with fail
            refine (RX w5 C5.out).out.mono ?_
            rintro _ w6 ⟨v6, rfl, r6, g6⟩
            obtain ⟨A6, c6, rfl⟩ := r6.form
            have D6 := Lib.hid g6
            have RS := Lib.hid (rows_same A5 A6 c5 c6 TT.1 w6 (R5.out.grow g6) r6.rr TB.out)
            clear r6 g6
            go_wp2_with fail
            refine RS.out.mono ?_
            rintro _ w7 ⟨rfl, g7⟩
            have G7 : Hid (w.grownBy w7 none) := only_step (only_step (only_step hGj.out D5.out (fun _ h => by cases h)) D6.out (fun _ h => by cases h)) g7 (fun _ h => by cases h)
            have V7 : Hid (V0.grownBy w7 none) := only_step (only_step V5.out D6.out (fun _ h => by cases h)) g7 (fun _ h => by cases h)
            clear g7
            go_wp2_with fail
            exact ⟨⟨2, by omega, by go_num, G7, V7⟩, by simp [intOf]⟩
          · have ce := cells.out.2.2
            have SX := scan_any R cr m wr (AH2 wr hCj.out).out BM.out (by omega) hcr (HT.out.grow hGj.out)
            obtain ⟨TT, hTT⟩ : ∃ TT, TT = scanP m := ⟨_, rfl⟩
            rw [← hTT] at SX
            have SX' := Lib.hid SX
            have RX : ∀ V, w9.grownBy V none → Hid (Calls Tryd.prog 20 #[.slice R m.length cr] V fun e w' => ∃ v, e = .returned (.tuple #[v, .int .i64 TT.2]) ∧ RL w' V.heap.size v TT.1 ∧ V.grownBy w' none) := fun V hV => by
              have h := rscan_any R cr m V (AH2 V hV).out BM.out (by omega) hcr
              rw [← hTT] at h
              exact h
            have TB := Lib.hid (show TT.1.length ≤ 1099511627776 by rw [hTT]; exact Nat.le_trans (scan_few m) (by omega))
            have ALLC : ∀ V, V0.grownBy V none → Hid (V.cell? ⟨SB, 2, none⟩ = some (.slice R m.length cr)) := fun V hV => ((HAL V hV).out.2.2 : _)
            clear SX hTT cells
            go_wp2_with fail
            refine SX'.out.mono ?_
            rintro _ w5 ⟨v5, rfl, r5, g5⟩
            obtain ⟨A5, c5, rfl⟩ := r5.form
            have D5 := Lib.hid g5
            have R5 := Lib.hid r5.rr
            have V5 : Hid (V0.grownBy w5 none) := only_step hVj.out g5 (fun _ h => by cases h)
            have C5 : Hid (w9.grownBy w5 none) := only_step hCj.out g5 (fun _ h => by cases h)
            have ce5 := (ALLC w5 V5.out).out
            clear r5 g5
            go_wp2_with fail
            refine (RX w5 C5.out).out.mono ?_
            rintro _ w6 ⟨v6, rfl, r6, g6⟩
            obtain ⟨A6, c6, rfl⟩ := r6.form
            have D6 := Lib.hid g6
            have RS := Lib.hid (rows_same A5 A6 c5 c6 TT.1 w6 (R5.out.grow g6) r6.rr TB.out)
            clear r6 g6
            go_wp2_with fail
            refine RS.out.mono ?_
            rintro _ w7 ⟨rfl, g7⟩
            have G7 : Hid (w.grownBy w7 none) := only_step (only_step (only_step hGj.out D5.out (fun _ h => by cases h)) D6.out (fun _ h => by cases h)) g7 (fun _ h => by cases h)
            have V7 : Hid (V0.grownBy w7 none) := only_step (only_step V5.out D6.out (fun _ h => by cases h)) g7 (fun _ h => by cases h)
            clear g7
            go_wp2_with fail
            exact ⟨⟨3, by omega, by go_num, G7, V7⟩, by simp [intOf]⟩
          · clear cells
            go_wp2_with fail
            go_ret
            exact ⟨rfl, hGj.out⟩
      · have tc : (cut.tmod 2 == 1) = false := by rw [beq_eq_false_iff_ne]; exact tcut
        obtain ⟨Z, hZ⟩ : ∃ Z, Z = Y := ⟨_, rfl⟩
        have ZL := Lib.hid (show Z.length = n by rw [hZ]; exact YL.out)
        have ZB := Lib.hid (show ∀ x ∈ Z, 0 ≤ x ∧ x ≤ 255 by rw [hZ]; exact YB.out)
        have ZH : Hid (Has wr wr.heap.size A3 (bs Z)) := by rw [hZ]; exact Has.own O.out
        have kc3 : n ≤ c3 := by omega
        obtain ⟨Z2, hZ2⟩ : ∃ Z2, Z2 = Z ++ m := ⟨_, rfl⟩
        have Z2L := Lib.hid (show Z2.length ≤ 4000 by rw [hZ2, List.length_append, ZL.out]; omega)
        have Z2B := Lib.hid (show ∀ x ∈ Z2, 0 ≤ x ∧ x ≤ 255 from fun x hx => by rw [hZ2] at hx; exact (List.mem_append.1 hx).elim (ZB.out x) (BM.out x))
        have HZ2 := Lib.hid hZ2
        have d4 := Lib.hid (World.grownBy_alloc wr (.cells #[] 5) none)
        have sZ : Hid (Src Tryd.prog 1 22 (.slice A3 n c3) (bs Z).length (bs Z) (wr.alloc (.cells #[] 5))) := by
          have h := ZH.out.srcAt d4.out c3
          rw [ZL.out] at h; exact h
        have len1 : ([] : List Value).length + (bs Z).length ≤ 70368744177664 := by rw [bs_len, ZL.out]; show 0 + n ≤ _; omega
        have len2 : (bs Z).length + (bs m).length ≤ 70368744177664 := by rw [bs_len, bs_len, ZL.out]; omega
        have z4 := d4.out.size
        obtain ⟨B0, hB0⟩ : ∃ B0, B0 = wr := ⟨_, rfl⟩
        clear hZ hZ2 tcut hB0
        go_wp2_with (first
          | (at_builtin; refine app_bytes rfl _ _ 22 rfl wr.heap.size (.slice (some ⟨wr.heap.size, 0, none⟩) 0 0) [] rfl (own_lit0 wr) (.slice A3 n c3) (bs Z) rfl sZ.out len1 z4 ?_; intro v8 w8 g8; rw [List.nil_append] at g8; have D8 := Lib.hid (g8.all (own_lit0 wr) d4.out (Nat.le_refl _)); have O8 := Lib.hid g8.own; have G8 : Hid (w.grownBy w8 none) := only_step GW.out D8.out (fun _ h => by cases h); have s8 := Lib.hid (HR.out.srcAt G8.out cr); have z8 : wr.heap.size ≤ w8.heap.size := D8.out.size; clear g8)
          | (at_builtin; refine app_bytes rfl _ _ 22 rfl wr.heap.size v8 (bs Z) rfl O8.out (.slice R m.length cr) (bs m) rfl s8.out len2 z8 ?_; intro v9 w9 g9; rw [← bs_append, ← HZ2.out] at g9; have D9 := Lib.hid (g9.all O8.out D8.out (Nat.le_refl _)); have O9 : Hid (w9.ownsRow wr.heap.size 5 1 v9 Z2.length (bs Z2)) := (by have h := g9.own; rw [bs_len] at h; exact h); have G9 : Hid (w.grownBy w9 none) := only_step GW.out D9.out (fun _ h => by cases h); clear g9; obtain ⟨A9, c9, rfl⟩ := own_slice O9.out))
        have N9 := own_cap O9.out
        have AH0 : ∀ V, w9.grownBy V none → Hid (Has V V.heap.size A3 (bs Z)) := fun V hV => (((ZH.out.only D9.out (Nat.le_refl _) (fun _ h => by cases h)).more D9.out.size).only hV (Nat.le_refl _) (fun _ h => by cases h)).more hV.size
        have AH1 : ∀ V, w9.grownBy V none → Hid (Has V V.heap.size A9 (bs Z2)) := fun V hV => ((Has.own O9.out).only hV (Nat.le_refl _) (fun _ h => by cases h)).more hV.size
        have AH2 : ∀ V, w9.grownBy V none → Hid (Has V V.heap.size R (bs m)) := fun V hV => (HR.out.only (only_step G9.out hV (fun _ h => by cases h)) (Nat.le_refl _) (fun _ h => by cases h)).more (only_step G9.out hV (fun _ h => by cases h)).size
        have W9 := Lib.hid (World.grownBy_alloc w9 (.cells #[.slice A3 n c3, .slice A9 Z2.length c9, .slice R m.length cr] 22) none)
        have HAL : ∀ V, (w9.alloc (.cells #[.slice A3 n c3, .slice A9 Z2.length c9, .slice R m.length cr] 22)).grownBy V none → Hid (V.cell? ⟨w9.heap.size, 0, none⟩ = some (.slice A3 n c3) ∧ V.cell? ⟨w9.heap.size, 1, none⟩ = some (.slice A9 Z2.length c9) ∧ V.cell? ⟨w9.heap.size, 2, none⟩ = some (.slice R m.length cr)) := fun V hV => by
          have hlt : w9.heap.size < (w9.alloc (.cells #[.slice A3 n c3, .slice A9 Z2.length c9, .slice R m.length cr] 22)).heap.size := by show _ < (w9.heap.push _).size; rw [Array.size_push]; omega
          have o : ∀ j, V.cell? ⟨w9.heap.size, j, none⟩ = (#[Value.slice A3 n c3, .slice A9 Z2.length c9, .slice R m.length cr])[j]? := fun j => (World.cell?_of_block (hV.block _ hlt (by simp))).trans (by unfold World.cell?; rw [heap_alloc_new]; rfl)
          exact ⟨o 0, o 1, o 2⟩
        clear D8 O8 G8 s8 z8 sZ len1 len2 z4 d4
        obtain ⟨V0, hV0⟩ : ∃ V0, V0 = w9.alloc (.cells #[.slice A3 n c3, .slice A9 Z2.length c9, .slice R m.length cr] 22) := ⟨_, rfl⟩
        have g90 : w9.grownBy V0 none := by rw [hV0]; exact W9.out
        rw [← hV0] at HAL ⊢
        have g0 : Hid (w.grownBy V0 none) := only_step G9.out g90 (fun _ h => by cases h)
        have G90 := Lib.hid g90
        obtain ⟨SB, hSB⟩ : ∃ SB, SB = w9.heap.size := ⟨_, rfl⟩
        rw [← hSB] at HAL ⊢
        clear hV0 hSB g90 W9 O9 D9
        go_wp2_with fail
        go_loopw [14] (fun si wx => ∃ i : Nat, i ≤ 3 ∧ si = .int .i64 i ∧ Hid (w.grownBy wx none) ∧ Hid (V0.grownBy wx none)) (fun si _ => 3 - (intOf si).toNat)
        case atStart => exact ⟨0, by omega, rfl, g0, only_refl _ _⟩
        case round =>
          obtain ⟨j, hj, rfl, hGj, hVj⟩ := hrel
          have cells := HAL wr hVj.out
          have hCj : Hid (w9.grownBy wr none) := only_step G90.out hVj.out (fun _ h => by cases h)
          rcases (show j = 0 ∨ j = 1 ∨ j = 2 ∨ j = 3 by omega) with rfl | rfl | rfl | rfl
          · have ce := cells.out.1
            have SX := scan_any A3 c3 Z wr (AH0 wr hCj.out).out ZB.out (by rw [ZL.out]; omega) (by rw [ZL.out]; exact kc3) (HT.out.grow hGj.out)
            rw [ZL.out] at SX
            obtain ⟨TT, hTT⟩ : ∃ TT, TT = scanP Z := ⟨_, rfl⟩
            rw [← hTT] at SX
            have SX' := Lib.hid SX
            have RX : ∀ V, w9.grownBy V none → Hid (Calls Tryd.prog 20 #[.slice A3 n c3] V fun e w' => ∃ v, e = .returned (.tuple #[v, .int .i64 TT.2]) ∧ RL w' V.heap.size v TT.1 ∧ V.grownBy w' none) := fun V hV => by
              have h := rscan_any A3 c3 Z V (AH0 V hV).out ZB.out (by rw [ZL.out]; omega) (by rw [ZL.out]; exact kc3)
              rw [ZL.out] at h
              rw [← hTT] at h
              exact h
            have TB := Lib.hid (show TT.1.length ≤ 1099511627776 by rw [hTT]; exact Nat.le_trans (scan_few Z) (by rw [ZL.out]; omega))
            have ALLC : ∀ V, V0.grownBy V none → Hid (V.cell? ⟨SB, 0, none⟩ = some (.slice A3 n c3)) := fun V hV => ((HAL V hV).out.1 : _)
            clear SX hTT cells
            go_wp2_with fail
            refine SX'.out.mono ?_
            rintro _ w5 ⟨v5, rfl, r5, g5⟩
            obtain ⟨A5, c5, rfl⟩ := r5.form
            have D5 := Lib.hid g5
            have R5 := Lib.hid r5.rr
            have V5 : Hid (V0.grownBy w5 none) := only_step hVj.out g5 (fun _ h => by cases h)
            have C5 : Hid (w9.grownBy w5 none) := only_step hCj.out g5 (fun _ h => by cases h)
            have ce5 := (ALLC w5 V5.out).out
            clear r5 g5
            go_wp2_with fail
            refine (RX w5 C5.out).out.mono ?_
            rintro _ w6 ⟨v6, rfl, r6, g6⟩
            obtain ⟨A6, c6, rfl⟩ := r6.form
            have D6 := Lib.hid g6
            have RS := Lib.hid (rows_same A5 A6 c5 c6 TT.1 w6 (R5.out.grow g6) r6.rr TB.out)
            clear r6 g6
            go_wp2_with fail
            refine RS.out.mono ?_
            rintro _ w7 ⟨rfl, g7⟩
            have G7 : Hid (w.grownBy w7 none) := only_step (only_step (only_step hGj.out D5.out (fun _ h => by cases h)) D6.out (fun _ h => by cases h)) g7 (fun _ h => by cases h)
            have V7 : Hid (V0.grownBy w7 none) := only_step (only_step V5.out D6.out (fun _ h => by cases h)) g7 (fun _ h => by cases h)
            clear g7
            go_wp2_with fail
            exact ⟨⟨1, by omega, by go_num, G7, V7⟩, by simp [intOf]⟩
          · have ce := cells.out.2.1
            have SX := scan_any A9 c9 Z2 wr (AH1 wr hCj.out).out Z2B.out (Nat.le_trans Z2L.out (by decide)) N9 (HT.out.grow hGj.out)
            obtain ⟨TT, hTT⟩ : ∃ TT, TT = scanP Z2 := ⟨_, rfl⟩
            rw [← hTT] at SX
            have SX' := Lib.hid SX
            have RX : ∀ V, w9.grownBy V none → Hid (Calls Tryd.prog 20 #[.slice A9 Z2.length c9] V fun e w' => ∃ v, e = .returned (.tuple #[v, .int .i64 TT.2]) ∧ RL w' V.heap.size v TT.1 ∧ V.grownBy w' none) := fun V hV => by
              have h := rscan_any A9 c9 Z2 V (AH1 V hV).out Z2B.out (Nat.le_trans Z2L.out (by decide)) N9
              rw [← hTT] at h
              exact h
            have TB := Lib.hid (show TT.1.length ≤ 1099511627776 by rw [hTT]; exact Nat.le_trans (scan_few Z2) (Nat.le_trans Z2L.out (by decide)))
            have ALLC : ∀ V, V0.grownBy V none → Hid (V.cell? ⟨SB, 1, none⟩ = some (.slice A9 Z2.length c9)) := fun V hV => ((HAL V hV).out.2.1 : _)
            clear SX hTT cells
            go_wp2_with fail
            refine SX'.out.mono ?_
            rintro _ w5 ⟨v5, rfl, r5, g5⟩
            obtain ⟨A5, c5, rfl⟩ := r5.form
            have D5 := Lib.hid g5
            have R5 := Lib.hid r5.rr
            have V5 : Hid (V0.grownBy w5 none) := only_step hVj.out g5 (fun _ h => by cases h)
            have C5 : Hid (w9.grownBy w5 none) := only_step hCj.out g5 (fun _ h => by cases h)
            have ce5 := (ALLC w5 V5.out).out
            clear r5 g5
            go_wp2_with fail
            refine (RX w5 C5.out).out.mono ?_
            rintro _ w6 ⟨v6, rfl, r6, g6⟩
            obtain ⟨A6, c6, rfl⟩ := r6.form
            have D6 := Lib.hid g6
            have RS := Lib.hid (rows_same A5 A6 c5 c6 TT.1 w6 (R5.out.grow g6) r6.rr TB.out)
            clear r6 g6
            go_wp2_with fail
            refine RS.out.mono ?_
            rintro _ w7 ⟨rfl, g7⟩
            have G7 : Hid (w.grownBy w7 none) := only_step (only_step (only_step hGj.out D5.out (fun _ h => by cases h)) D6.out (fun _ h => by cases h)) g7 (fun _ h => by cases h)
            have V7 : Hid (V0.grownBy w7 none) := only_step (only_step V5.out D6.out (fun _ h => by cases h)) g7 (fun _ h => by cases h)
            clear g7
            go_wp2_with fail
            exact ⟨⟨2, by omega, by go_num, G7, V7⟩, by simp [intOf]⟩
          · have ce := cells.out.2.2
            have SX := scan_any R cr m wr (AH2 wr hCj.out).out BM.out (by omega) hcr (HT.out.grow hGj.out)
            obtain ⟨TT, hTT⟩ : ∃ TT, TT = scanP m := ⟨_, rfl⟩
            rw [← hTT] at SX
            have SX' := Lib.hid SX
            have RX : ∀ V, w9.grownBy V none → Hid (Calls Tryd.prog 20 #[.slice R m.length cr] V fun e w' => ∃ v, e = .returned (.tuple #[v, .int .i64 TT.2]) ∧ RL w' V.heap.size v TT.1 ∧ V.grownBy w' none) := fun V hV => by
              have h := rscan_any R cr m V (AH2 V hV).out BM.out (by omega) hcr
              rw [← hTT] at h
              exact h
            have TB := Lib.hid (show TT.1.length ≤ 1099511627776 by rw [hTT]; exact Nat.le_trans (scan_few m) (by omega))
            have ALLC : ∀ V, V0.grownBy V none → Hid (V.cell? ⟨SB, 2, none⟩ = some (.slice R m.length cr)) := fun V hV => ((HAL V hV).out.2.2 : _)
            clear SX hTT cells
            go_wp2_with fail
            refine SX'.out.mono ?_
            rintro _ w5 ⟨v5, rfl, r5, g5⟩
            obtain ⟨A5, c5, rfl⟩ := r5.form
            have D5 := Lib.hid g5
            have R5 := Lib.hid r5.rr
            have V5 : Hid (V0.grownBy w5 none) := only_step hVj.out g5 (fun _ h => by cases h)
            have C5 : Hid (w9.grownBy w5 none) := only_step hCj.out g5 (fun _ h => by cases h)
            have ce5 := (ALLC w5 V5.out).out
            clear r5 g5
            go_wp2_with fail
            refine (RX w5 C5.out).out.mono ?_
            rintro _ w6 ⟨v6, rfl, r6, g6⟩
            obtain ⟨A6, c6, rfl⟩ := r6.form
            have D6 := Lib.hid g6
            have RS := Lib.hid (rows_same A5 A6 c5 c6 TT.1 w6 (R5.out.grow g6) r6.rr TB.out)
            clear r6 g6
            go_wp2_with fail
            refine RS.out.mono ?_
            rintro _ w7 ⟨rfl, g7⟩
            have G7 : Hid (w.grownBy w7 none) := only_step (only_step (only_step hGj.out D5.out (fun _ h => by cases h)) D6.out (fun _ h => by cases h)) g7 (fun _ h => by cases h)
            have V7 : Hid (V0.grownBy w7 none) := only_step (only_step V5.out D6.out (fun _ h => by cases h)) g7 (fun _ h => by cases h)
            clear g7
            go_wp2_with fail
            exact ⟨⟨3, by omega, by go_num, G7, V7⟩, by simp [intOf]⟩
          · clear cells
            go_wp2_with fail
            go_ret
            exact ⟨rfl, hGj.out⟩
end Go.Proofs.YtjdpnidenjeigaaDoor
