/- The walk of VectorAsks: it returns true for every input. No condition. -/
import Derived.Test.YtlanldjpafkckaaVa
namespace Go.Proofs.Ytlanldjpafkckaa
open Go.RowKit Go.Deep

set_option maxRecDepth 100000 in
set_option maxHeartbeats 8000000 in
theorem asks_true (A0 : Option Addr) (c0 : Nat) (ns : List Int) (A1 : Option Addr) (c1 : Nat) (ms : List Int) (d1 d2 d3 : Int) (w : World) (h : Has w w.heap.size A0 (is_ ns)) (hb : ∀ n ∈ ns, -9223372036854775808 ≤ n ∧ n ≤ 9223372036854775807) (h1 : Has w w.heap.size A1 (is_ ms)) (hb1 : ∀ n ∈ ms, -9223372036854775808 ≤ n ∧ n ≤ 9223372036854775807)
    (b1 : -9223372036854775808 ≤ d1 ∧ d1 ≤ 9223372036854775807) (b2 : -9223372036854775808 ≤ d2 ∧ d2 ≤ 9223372036854775807) (b3 : -9223372036854775808 ≤ d3 ∧ d3 ≤ 9223372036854775807) :
    Calls Try.prog 3 #[.slice A0 ns.length c0, .slice A1 ms.length c1, .agg #[.int .i64 d1, .int .i64 d2, .int .i64 d3], .bool true] w fun e w' => e = .returned (.bool true) ∧ w.grownBy w' none := by
  have HA := Lib.hid h
  have HB := Lib.hid hb
  have HA1 := Lib.hid h1
  have HB1 := Lib.hid hb1
  clear h hb h1 hb1
  go_enter Try.func3, Try.ntmps3
  go_wp2_with fail
  have hb0 := heap_alloc_new w (.cells #[.int .i64 d1, .int .i64 d2, .int .i64 d3] 24)
  have g0 := World.grownBy_alloc w (.cells #[.int .i64 d1, .int .i64 d2, .int .i64 d3] 24) none
  have z0 : w.heap.size < (w.alloc (.cells #[.int .i64 d1, .int .i64 d2, .int .i64 d3] 24)).heap.size := by show _ < (w.heap.push _).size; rw [Array.size_push]; omega
  obtain ⟨w0, hw0⟩ : ∃ w0, w0 = w.alloc (.cells #[.int .i64 d1, .int .i64 d2, .int .i64 d3] 24) := ⟨_, rfl⟩
  rw [← hw0] at hb0 g0 z0 ⊢
  have B0 := Lib.hid hb0
  have G0 := Lib.hid g0
  clear hw0 hb0 g0
  refine (known_any _).mono ?_
  rintro _ w1 ⟨rfl, g1⟩
  have G01 := Lib.hid g1
  have z1 : w.heap.size < w1.heap.size := Nat.lt_of_lt_of_le z0 g1.size
  have G1 := Lib.hid (grow2 G0.out g1)
  clear g1
  go_wp2_with fail
  refine (of_any A0 c0 ns w1 (HA.out.up G1.out) HB.out).mono ?_
  rintro _ w2 ⟨vx, x, rfl, ho, ok, g2⟩
  have OX := Lib.hid ok
  have HOX := Lib.hid ho
  have xl : x.length ≤ 12 := ok.len
  have G02 := Lib.hid (grow2 G01.out g2)
  have G2 := Lib.hid (grow2 G1.out g2)
  have z2 : w.heap.size < w2.heap.size := Nat.lt_of_lt_of_le z1 g2.size
  clear ho ok g2
  go_wp2_with fail
  refine (of_any A1 c1 ms w2 (HA1.out.up G2.out) HB1.out).mono ?_
  rintro _ w3 ⟨vy, y, rfl, ho, ok, g3⟩
  have OY := Lib.hid ok
  have HOY := Lib.hid ho
  have HOX := Lib.hid (HOX.out.kept g3 (by cases vx.ownBlock <;> simp))
  have yl : y.length ≤ 12 := ok.len
  have G03 := Lib.hid (grow2 G02.out g3)
  have G3 := Lib.hid (grow2 G2.out g3)
  obtain ⟨Ax, cx, rfl⟩ := own_slice_w HOX.out
  obtain ⟨Ay, cy, rfl⟩ := own_slice_w HOY.out
  clear ho ok g3 HA HB HA1 HB1 G1 G2 G01 G02
  have hB3 : Hid (w3.heap[w.heap.size]? = some (.cells #[.int .i64 d1, .int .i64 d2, .int .i64 d3] 24 (0, 0))) := Lib.hid ((G03.out.block _ z0 (by simp)).trans B0.out)
  have q1 := cell_of_heap hB3.out 0 _ rfl
  have q2 := cell_of_heap hB3.out 1 _ rfl
  have q3 := cell_of_heap hB3.out 2 _ rfl
  have f1 : ∀ j, w3.frozen? ⟨w.heap.size, j, none⟩ = false := fun j => by unfold World.frozen?; rw [hB3.out]; simp
  obtain ⟨x1, hx1⟩ : ∃ a, a = d1 % 4 := ⟨_, rfl⟩
  obtain ⟨x2, hx2⟩ : ∃ a, a = d2 % 4 := ⟨_, rfl⟩
  obtain ⟨x3, hx3⟩ : ∃ a, a = d3 % 8 := ⟨_, rfl⟩
  have N1 : ∀ W, Calls Try.prog 11 #[.int .i64 d1, .int .i64 4] W fun e w' => e = .returned (.int .i64 x1) ∧ w' = W := fun W => by rw [hx1]; exact (within_any d1 4 b1.1 b1.2 (by omega) (by omega) W).mono fun _ _ h => ⟨h.1, h.2.symm⟩
  have N2 : ∀ W, Calls Try.prog 11 #[.int .i64 d2, .int .i64 4] W fun e w' => e = .returned (.int .i64 x2) ∧ w' = W := fun W => by rw [hx2]; exact (within_any d2 4 b2.1 b2.2 (by omega) (by omega) W).mono fun _ _ h => ⟨h.1, h.2.symm⟩
  have N3 : ∀ W, Calls Try.prog 11 #[.int .i64 d3, .int .i64 8] W fun e w' => e = .returned (.int .i64 x3) ∧ w' = W := fun W => by rw [hx3]; exact (within_any d3 8 b3.1 b3.2 (by omega) (by omega) W).mono fun _ _ h => ⟨h.1, h.2.symm⟩
  have N1 := Lib.hid N1
  have N2 := Lib.hid N2
  have N3 := Lib.hid N3
  clear hx1 hx2 hx3 b1 b2 b3
  go_wp2_with fail
  refine wp_region_still_tail 10 (by kernel_rfl) (by kernel_rfl) ?_
  simp only [List.take_succ_cons, List.take_zero, List.drop_succ_cons, List.drop_zero]
  repeat still_step
  still_call (N1.out _)
  repeat still_step
  still_call (N2.out _)
  repeat still_step
  still_call (N3.out _)
  repeat still_step
  refine wpStill_nil ?_
  go_wp2_with fail
  obtain ⟨w4, hw4⟩ : ∃ w4, w4 = (((w3.setCell ⟨w.heap.size, 0, none⟩ (.int .i64 x1)).setCell ⟨w.heap.size, 1, none⟩ (.int .i64 x2)).setCell ⟨w.heap.size, 2, none⟩ (.int .i64 x3)).drew := ⟨_, rfl⟩
  rw [← hw4]
  have g34 : w3.grownBy w4 (some w.heap.size) := by
    rw [hw4]; exact (box_set w3 w.heap.size _ _ _ x1 x2 x3 hB3.out).2
  have hb4 : w4.heap[w.heap.size]? = some (.cells #[.int .i64 x1, .int .i64 x2, .int .i64 x3] 24 (0, 0)) := by
    rw [hw4]; exact (box_set w3 w.heap.size _ _ _ x1 x2 x3 hB3.out).1
  have LX : Hid (Lv w4 Ax cx x) := Lib.hid (Lv.of (Vw.own (HOX.out.kept g34 (.inr (fun e => by have := own_ge HOX.out _ e; omega)))).1)
  have LY : Hid (Lv w4 Ay cy y) := Lib.hid (Lv.of (Vw.own (HOY.out.kept g34 (.inr (fun e => by have := own_ge HOY.out _ e; omega)))).1)
  have G4 : Hid (w.grownBy w4 none) := Lib.hid (only_step G3.out g34 (fun k hk => by cases hk; exact .inr (Nat.le_refl _)))
  have z4 : w.heap.size < w4.heap.size := (Array.getElem?_eq_some_iff.1 hb4).1
  have B4 := Lib.hid hb4
  have SV : ∀ V, w4.grownBy V none → Hid (V.cell? ⟨w.heap.size, 0, none⟩ = some (.int .i64 x1) ∧ V.cell? ⟨w.heap.size, 1, none⟩ = some (.int .i64 x2) ∧ V.cell? ⟨w.heap.size, 2, none⟩ = some (.int .i64 x3) ∧ w4.grownBy V none) := fun V hV => by
    have e := (hV.block _ z4 (by simp)).trans B4.out
    exact ⟨cell_of_heap e 0 _ rfl, cell_of_heap e 1 _ rfl, cell_of_heap e 2 _ rfl, hV⟩
  clear hw4 g34 hb4 HOX HOY G03 G3 hB3 q1 q2 q3 f1 N1 N2 N3 B0 G0
  obtain ⟨q1, q2, q3, _⟩ := (SV w4 (only_refl _ _)).out
  have ST := Lib.hid (step_lv LX.out OX.out.srt (by omega) (x1, x2, x3) (only_refl w4 none))
  obtain ⟨E, hE⟩ : ∃ E, E = sErr x (x1, x2, x3) := ⟨_, rfl⟩
  obtain ⟨R, hR⟩ : ∃ R, R = sRow x (x1, x2, x3) := ⟨_, rfl⟩
  have rl : R.length ≤ 13 := by rw [hR]; have := sRow_len x (x1, x2, x3); omega
  rw [← hE, ← hR] at ST
  have EH := Lib.hid hE
  have RH := Lib.hid hR
  clear hE hR
  refine ST.out.mono ?_
  rintro _ w5 ⟨A5, c5, rfl, l5, g5⟩
  have L5 := Lib.hid l5
  have LX5 := Lib.hid (LX.out.on g5)
  have LY5 := Lib.hid (LY.out.on g5)
  obtain ⟨p1, p2, p3, _⟩ := (SV w5 g5).out
  have G5 := Lib.hid g5
  have ST := Lib.hid (rstep_lv LX5.out (by omega) (x1, x2, x3) (only_refl w5 none))
  rw [← EH.out, ← RH.out] at ST
  clear q1 q2 q3 l5 g5
  go_wp2_with fail
  refine ST.out.mono ?_
  rintro _ w6 ⟨A6, c6, rfl, l6, g6⟩
  have L6 := Lib.hid l6
  have L56 := Lib.hid (L5.out.on g6)
  have LX6 := Lib.hid (LX5.out.on g6)
  have LY6 := Lib.hid (LY5.out.on g6)
  have G6 := Lib.hid (grow2 G5.out g6)
  have G06 := Lib.hid (grow2 G4.out G6.out)
  have S6 : ∀ V, w6.grownBy V none → Hid (V.cell? ⟨w.heap.size, 0, none⟩ = some (.int .i64 x1) ∧ V.cell? ⟨w.heap.size, 1, none⟩ = some (.int .i64 x2) ∧ V.cell? ⟨w.heap.size, 2, none⟩ = some (.int .i64 x3) ∧ w6.grownBy V none) := fun V hV => by
    obtain ⟨e1, e2, e3, _⟩ := (SV V (grow2 G6.out hV)).out
    exact ⟨e1, e2, e3, hV⟩
  clear l6 g6 ST L5 LX5 LY5 G5 SV p1 p2 p3
  have tE : (E == E) = true := by simp
  obtain ⟨G, hG⟩ : ∃ G, G = vget x x1 x2 := ⟨_, rfl⟩
  obtain ⟨H, hH⟩ : ∃ H, H = vhas x (x1, x2, x3) := ⟨_, rfl⟩
  obtain ⟨B, hB⟩ : ∃ B, B = decide (vle x y) := ⟨_, rfl⟩
  have tG : (G == G) = true := by simp
  have tH : (H == H) = true := by simp
  have tB : (B == B) = true := by simp
  obtain ⟨j, hj⟩ : ∃ j, j = vmrg x y := ⟨_, rfl⟩
  have jl : j.length ≤ 24 := by rw [hj]; have := vmrg_len x y; omega
  have C1 : ∀ V, w6.grownBy V none → Hid (Calls Try.prog 14 #[.slice A5 R.length c5, .slice A6 R.length c6] V fun e w' => e = .returned (.bool true) ∧ w6.grownBy w' none) := fun V hV => same_lv L56.out L6.out (by omega) true (by simp) hV
  have C2 : ∀ V, w6.grownBy V none → Hid (Calls Try.prog 15 #[.slice Ax x.length cx, .int .i64 x1, .int .i64 x2] V fun e w' => e = .returned (.int .i64 G) ∧ w6.grownBy w' none) := fun V hV => by rw [hG]; exact get_lv LX6.out OX.out.srt (by omega) x1 x2 hV
  have C3 : ∀ V, w6.grownBy V none → Hid (Calls Try.prog 16 #[.slice Ax x.length cx, .int .i64 x1, .int .i64 x2] V fun e w' => e = .returned (.int .i64 G) ∧ w6.grownBy w' none) := fun V hV => by rw [hG]; exact rget_lv LX6.out (by omega) x1 x2 hV
  have C4 : ∀ V, w6.grownBy V none → Hid (Calls Try.prog 17 #[.slice Ax x.length cx, .agg #[.int .i64 x1, .int .i64 x2, .int .i64 x3]] V fun e w' => e = .returned (.bool H) ∧ w6.grownBy w' none) := fun V hV => has_lv LX6.out OX.out.srt (by omega) (x1, x2, x3) H hH.symm hV
  have C5 : ∀ V, w6.grownBy V none → Hid (Calls Try.prog 18 #[.slice Ax x.length cx, .agg #[.int .i64 x1, .int .i64 x2, .int .i64 x3]] V fun e w' => e = .returned (.bool H) ∧ w6.grownBy w' none) := fun V hV => rhas_lv LX6.out (by omega) (x1, x2, x3) H hH.symm hV
  have C6 : ∀ V, w6.grownBy V none → Hid (Calls Try.prog 19 #[.slice Ax x.length cx, .slice Ay y.length cy] V (GotL w6 j)) := fun V hV => by rw [hj]; exact join_lv LX6.out LY6.out (by omega) (by omega) hV
  have C7 : ∀ V, w6.grownBy V none → Hid (Calls Try.prog 20 #[.slice Ax x.length cx, .slice Ay y.length cy] V (GotL V j)) := fun V hV => by rw [hj, vmrg_join x y OX.out.srt OY.out.srt OX.out.pos OY.out.pos]; exact rjoin_lv (LX6.out.on hV) (LY6.out.on hV) (by omega) (by omega) (only_refl V none)
  have C8 : ∀ V, w6.grownBy V none → Hid (Calls Try.prog 21 #[.slice Ax x.length cx, .slice Ay y.length cy] V fun e w' => e = .returned (.bool B) ∧ w6.grownBy w' none) := fun V hV => le_lv LX6.out LY6.out OY.out.srt (by omega) (by omega) B (by rw [hB]; simp) hV
  have C9 : ∀ V, w6.grownBy V none → Hid (Calls Try.prog 22 #[.slice Ax x.length cx, .slice Ay y.length cy] V fun e w' => e = .returned (.bool B) ∧ w6.grownBy w' none) := fun V hV => rle_lv LX6.out LY6.out (by omega) (by omega) B (by rw [hB]; simp) hV
  have e0 : w6.grownBy w6.drew none := only_drew (only_refl _ _)
  obtain ⟨s1, s2, s3, _⟩ := (S6 w6 (only_refl _ _)).out
  clear hG hH hB hj s1 s2 s3
  go_wp2_with fail
  go_region_held3 (fun V => V.cell? ⟨w.heap.size, 0, none⟩ = some (.int .i64 x1) ∧ V.cell? ⟨w.heap.size, 1, none⟩ = some (.int .i64 x2) ∧ V.cell? ⟨w.heap.size, 2, none⟩ = some (.int .i64 x3) ∧ w6.grownBy V none) (first | exact (S6 _ (by assumption)).out | exact (S6 _ (only_drew (by assumption))).out) ((first
    | (go_at_call 15; refine (C2 _ (by assumption)).out.mono ?_; rintro e w_2 ⟨rfl, g_2⟩)
    | (go_at_call 16; refine (C3 _ (by assumption)).out.mono ?_; rintro e w_3 ⟨rfl, g_3⟩)
    | (go_at_call 17; refine (C4 _ (by assumption)).out.mono ?_; rintro e w_4 ⟨rfl, g_4⟩)
    | (go_at_call 18; refine (C5 _ (by assumption)).out.mono ?_; rintro e w_5 ⟨rfl, g_5⟩)
    | (go_at_call 19; refine (C6 _ (by assumption)).out.mono ?_; rintro e w_6 ⟨Aj, cj, rfl, l_6, g_6⟩; have L_6 := Lib.hid l_6; clear l_6)
    | (go_at_call 20; refine (C7 _ (by assumption)).out.mono ?_; rintro e w_7 ⟨Ak, ck, rfl, l_7, g_7⟩; have L_7 := Lib.hid l_7; have H_7 := Lib.hid g_7; have g_7 := grow2 (by assumption : w6.grownBy _ none) g_7; clear l_7)
    | (go_at_call 21; refine (C8 _ (by assumption)).out.mono ?_; rintro e w_8 ⟨rfl, g_8⟩)
    | (go_at_call 22; refine (C9 _ (by assumption)).out.mono ?_; rintro e w_9 ⟨rfl, g_9⟩)
    | (go_at_call 14; (fail_if_success (have := L_7)); refine (C1 _ (by assumption)).out.mono ?_; rintro e w_1 ⟨rfl, g_1⟩)
    | (go_at_call 14; refine (same_lv (L_6.out.on H_7.out) L_7.out (by omega) true (by simp) (only_refl _ none)).mono ?_; rintro e w_10 ⟨rfl, g_10⟩; have g_10 := grow2 (by assumption : w6.grownBy w_7 none) g_10)))
  go_wp2_with fail
  go_ret
  exact ⟨rfl, grow2 G06.out (by assumption)⟩
theorem vectorAsks_walk (A0 : Option Addr) (c0 : Nat) (ns : List Int) (A1 : Option Addr) (c1 : Nat) (ms : List Int) (d1 d2 d3 : Int) (small : Bool) (w : World) (h : Has w w.heap.size A0 (is_ ns)) (hb : ∀ n ∈ ns, -9223372036854775808 ≤ n ∧ n ≤ 9223372036854775807) (h1 : Has w w.heap.size A1 (is_ ms)) (hb1 : ∀ n ∈ ms, -9223372036854775808 ≤ n ∧ n ≤ 9223372036854775807)
    (b1 : -9223372036854775808 ≤ d1 ∧ d1 ≤ 9223372036854775807) (b2 : -9223372036854775808 ≤ d2 ∧ d2 ≤ 9223372036854775807) (b3 : -9223372036854775808 ≤ d3 ∧ d3 ≤ 9223372036854775807) :
    Calls Try.prog 3 #[.slice A0 ns.length c0, .slice A1 ms.length c1, .agg #[.int .i64 d1, .int .i64 d2, .int .i64 d3], .bool small] w fun e w' => e = .returned (.bool true) ∧ w.grownBy w' none := by
  cases small
  · exact asks_false A0 c0 ns A1 c1 ms d1 d2 d3 w h hb h1 hb1
  · exact asks_true A0 c0 ns A1 c1 ms d1 d2 d3 w h hb h1 hb1 b1 b2 b3
end Go.Proofs.Ytlanldjpafkckaa
