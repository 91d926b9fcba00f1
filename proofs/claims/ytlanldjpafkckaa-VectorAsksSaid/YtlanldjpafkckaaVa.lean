/- The walk of VectorAsks: it returns true for every input. No condition. -/
import Derived.Test.YtlanldjpafkckaaVz
import Derived.StillTailTactics
namespace Go.Proofs.Ytlanldjpafkckaa
open Go.RowKit Go.Deep

theorem get_lv {w : World} {A : Option Addr} {c : Nat} {l : List E3} (h : Lv w A c l) (hs : Srt l) (hl : l.length ≤ 1073741824) (d e : Int) {V : World} (g : w.grownBy V none) :
    Calls Try.prog 15 #[.slice A l.length c, .int .i64 d, .int .i64 e] V fun e' w' => e' = .returned (.int .i64 (vget l d e)) ∧ w.grownBy w' none :=
  (get_any A c l d e V (h V g).has hs (by omega)).mono fun _ _ h => ⟨h.1, grow2 g h.2⟩
theorem rget_lv {w : World} {A : Option Addr} {c : Nat} {l : List E3} (h : Lv w A c l) (hl : l.length ≤ 1073741824) (d e : Int) {V : World} (g : w.grownBy V none) :
    Calls Try.prog 16 #[.slice A l.length c, .int .i64 d, .int .i64 e] V fun e' w' => e' = .returned (.int .i64 (vget l d e)) ∧ w.grownBy w' none :=
  (rget_only A c l d e V (h V g).has (by omega)).mono fun _ _ h => ⟨h.1, grow2 g h.2⟩
theorem has_lv {w : World} {A : Option Addr} {c : Nat} {l : List E3} (h : Lv w A c l) (hs : Srt l) (hl : l.length ≤ 1073741824) (x : E3) (r : Bool) (hr : vhas l x = r) {V : World} (g : w.grownBy V none) :
    Calls Try.prog 17 #[.slice A l.length c, .agg #[.int .i64 x.1, .int .i64 x.2.1, .int .i64 x.2.2]] V fun e' w' => e' = .returned (.bool r) ∧ w.grownBy w' none := by
  rw [← hr]
  exact (has_any A c l x V (h V g).has hs (by omega)).mono fun _ _ h => ⟨h.1, grow2 g h.2⟩
theorem rhas_lv {w : World} {A : Option Addr} {c : Nat} {l : List E3} (h : Lv w A c l) (hl : l.length ≤ 1073741824) (x : E3) (r : Bool) (hr : vhas l x = r) {V : World} (g : w.grownBy V none) :
    Calls Try.prog 18 #[.slice A l.length c, .agg #[.int .i64 x.1, .int .i64 x.2.1, .int .i64 x.2.2]] V fun e' w' => e' = .returned (.bool r) ∧ w.grownBy w' none := by
  rw [← hr]
  exact (rhas_any A c l x V (h V g).has (by omega)).mono fun _ _ h => ⟨h.1, grow2 g h.2⟩
theorem rjoin_lv {w : World} {A A' : Option Addr} {c c' : Nat} {l m : List E3} (h : Lv w A c l) (k : Lv w A' c' m) (hl : l.length ≤ 1073741824) (hm : m.length ≤ 1073741824) {V : World} (g : w.grownBy V none) :
    Calls Try.prog 20 #[.slice A l.length c, .slice A' m.length c'] V (GotL w (vjoin l m)) :=
  (rjoin_any A c l A' c' m V (h V g) (k V g) hl hm).mono fun e w' ⟨v, he, ho, hg⟩ => by
    obtain ⟨A3, c3, rfl⟩ := own_slice_w ho
    exact ⟨A3, c3, he, Lv.of (Vw.own ho).1, grow2 g hg⟩
theorem rle_lv {w : World} {A A' : Option Addr} {c c' : Nat} {l m : List E3} (h : Lv w A c l) (k : Lv w A' c' m) (hl : l.length ≤ 1073741824) (hm : m.length ≤ 1073741824) (r : Bool) (hr : r = true ↔ vle l m) {V : World} (g : w.grownBy V none) :
    Calls Try.prog 22 #[.slice A l.length c, .slice A' m.length c'] V fun e w' => e = .returned (.bool r) ∧ w.grownBy w' none := by
  have := rle_any A c l A' c' m V (h V g).has (k V g).has (by omega) (by omega)
  rw [show decide (vle l m) = r by cases r <;> simp_all] at this
  exact this.mono fun _ _ h => ⟨h.1, grow2 g h.2⟩
theorem set_only {a w : World} {B : Nat} (h : a.grownBy w (some B)) (j : Nat) (u : Value) : a.grownBy (w.setCell ⟨B, j, none⟩ u) (some B) := only_set h (.inl rfl) u
theorem set_heap {w : World} {B : Nat} {arr : Array Value} {T : TypeId} (h : w.heap[B]? = some (.cells arr T (0, 0))) (j : Nat) (u : Value) : (w.setCell ⟨B, j, none⟩ u).heap[B]? = some (.cells (arr.setIfInBounds j u) T (0, 0)) := by
  simp [World.setCell, Array.getElem?_modify, h]
theorem box_set (w : World) (B : Nat) {T : TypeId} (d1 d2 d3 x1 x2 x3 : Int) (h : w.heap[B]? = some (.cells #[.int .i64 d1, .int .i64 d2, .int .i64 d3] T (0, 0))) :
    ((((w.setCell ⟨B, 0, none⟩ (.int .i64 x1)).setCell ⟨B, 1, none⟩ (.int .i64 x2)).setCell ⟨B, 2, none⟩ (.int .i64 x3)).drew).heap[B]? = some (.cells #[.int .i64 x1, .int .i64 x2, .int .i64 x3] T (0, 0)) ∧
    w.grownBy (((w.setCell ⟨B, 0, none⟩ (.int .i64 x1)).setCell ⟨B, 1, none⟩ (.int .i64 x2)).setCell ⟨B, 2, none⟩ (.int .i64 x3)).drew (some B) := by
  refine ⟨?_, only_drew (set_only (set_only (set_only (only_refl w _) 0 _) 1 _) 2 _)⟩
  exact set_heap (set_heap (set_heap h 0 _) 1 _) 2 _
def GotS (w : World) (L : List E3) (x : Int) (e : Ending) (w' : World) : Prop := ∃ A c, e = .returned (.tuple #[.slice A L.length c, .int .i64 x]) ∧ Lv w' A c L ∧ w.grownBy w' none
theorem step_lv {w : World} {A : Option Addr} {c : Nat} {l : List E3} (h : Lv w A c l) (hs : Srt l) (hl : l.length ≤ 1073741824) (x : E3) {V : World} (g : w.grownBy V none) :
    Calls Try.prog 12 #[.slice A l.length c, .agg #[.int .i64 x.1, .int .i64 x.2.1, .int .i64 x.2.2]] V (GotS w (sRow l x) (sErr l x)) :=
  (step_any A c l x V (h V g) hs (by omega)).mono fun e w' ⟨v, he, ho, hg⟩ => by
    obtain ⟨A3, c3, rfl⟩ := own_slice_w ho
    exact ⟨A3, c3, he, Lv.of (Vw.own ho).1, grow2 g hg⟩
theorem rstep_lv {w : World} {A : Option Addr} {c : Nat} {l : List E3} (h : Lv w A c l) (hl : l.length ≤ 1073741824) (x : E3) {V : World} (g : w.grownBy V none) :
    Calls Try.prog 13 #[.slice A l.length c, .agg #[.int .i64 x.1, .int .i64 x.2.1, .int .i64 x.2.2]] V (GotS w (sRow l x) (sErr l x)) :=
  (rstep_any A c l x V (h V g) (by omega)).mono fun e w' ⟨v, he, ho, hg⟩ => by
    obtain ⟨A3, c3, rfl⟩ := own_slice_w ho
    exact ⟨A3, c3, he, Lv.of (Vw.own ho).1, grow2 g hg⟩
theorem sRow_len (l : List E3) (x : E3) : (sRow l x).length ≤ l.length + 1 := by
  unfold sRow; split
  · exact vput_len l x
  · simp

set_option maxRecDepth 100000 in
set_option maxHeartbeats 8000000 in
theorem asks_false (A0 : Option Addr) (c0 : Nat) (ns : List Int) (A1 : Option Addr) (c1 : Nat) (ms : List Int) (d1 d2 d3 : Int) (w : World) (h : Has w w.heap.size A0 (is_ ns)) (hb : ∀ n ∈ ns, -9223372036854775808 ≤ n ∧ n ≤ 9223372036854775807) (h1 : Has w w.heap.size A1 (is_ ms)) (hb1 : ∀ n ∈ ms, -9223372036854775808 ≤ n ∧ n ≤ 9223372036854775807) :
    Calls Try.prog 3 #[.slice A0 ns.length c0, .slice A1 ms.length c1, .agg #[.int .i64 d1, .int .i64 d2, .int .i64 d3], .bool false] w fun e w' => e = .returned (.bool true) ∧ w.grownBy w' none := by
  have HA := Lib.hid h
  have HB := Lib.hid hb
  have HA1 := Lib.hid h1
  have HB1 := Lib.hid hb1
  clear h hb h1 hb1
  go_enter Try.func3, Try.ntmps3
  go_wp2_with fail
  have b0 := box3_new w (d1, d2, d3) 24
  have g0 := World.grownBy_alloc w (.cells #[.int .i64 d1, .int .i64 d2, .int .i64 d3] 24) none
  have z0 : w.heap.size < (w.alloc (.cells #[.int .i64 d1, .int .i64 d2, .int .i64 d3] 24)).heap.size := by show _ < (w.heap.push _).size; rw [Array.size_push]; omega
  obtain ⟨w0, hw0⟩ : ∃ w0, w0 = w.alloc (.cells #[.int .i64 d1, .int .i64 d2, .int .i64 d3] 24) := ⟨_, rfl⟩
  rw [← hw0] at b0 g0 z0 ⊢
  have B0 := Lib.hid b0
  have G0 := Lib.hid g0
  clear hw0 b0 g0
  refine (known_any _).mono ?_
  rintro _ w1 ⟨rfl, g1⟩
  have G01 := Lib.hid g1
  have G1 := Lib.hid (grow2 G0.out g1)
  clear g1
  go_wp2_with fail
  refine (of_lv A0 c0 ns w1 (HA.out.up G1.out) HB.out).mono ?_
  rintro _ w2 ⟨Ax, cx, x, rfl, lx, ok, g2⟩
  have LX := Lib.hid lx
  have OX := Lib.hid ok
  have xl : x.length ≤ 12 := ok.len
  have G02 := Lib.hid (grow2 G01.out g2)
  have G2 := Lib.hid (grow2 G1.out g2)
  clear lx ok g2
  go_wp2_with fail
  refine (of_lv A1 c1 ms w2 (HA1.out.up G2.out) HB1.out).mono ?_
  rintro _ w4 ⟨Ay, cy, y, rfl, ly, ok, g3⟩
  have LY := Lib.hid ly
  have OY := Lib.hid ok
  have yl : y.length ≤ 12 := ok.len
  have LX := Lib.hid (LX.out.on g3)
  have G04 := Lib.hid (grow2 G02.out g3)
  have G4 := Lib.hid (grow2 G2.out g3)
  clear ly ok g3 HA HB HA1 HB1 G1 G2 G01 G02
  obtain ⟨x1, hx1⟩ : ∃ a, a = d1 := ⟨_, rfl⟩
  obtain ⟨x2, hx2⟩ : ∃ a, a = d2 := ⟨_, rfl⟩
  obtain ⟨x3, hx3⟩ : ∃ a, a = d3 := ⟨_, rfl⟩
  have SV : ∀ V, w4.grownBy V none → Hid (V.cell? ⟨w.heap.size, 0, none⟩ = some (.int .i64 x1) ∧ V.cell? ⟨w.heap.size, 1, none⟩ = some (.int .i64 x2) ∧ V.cell? ⟨w.heap.size, 2, none⟩ = some (.int .i64 x3) ∧ w4.grownBy V none) := fun V hV => by
    have q := B0.out.kept (grow2 G04.out hV) z0
    rw [hx1, hx2, hx3]
    exact ⟨q.1, q.2.1, q.2.2, hV⟩
  clear hx1 hx2 hx3
  obtain ⟨q1, q2, q3, _⟩ := (SV w4 (only_refl _ _)).out
  have ST := Lib.hid (step_lv LX.out OX.out.srt (by omega) (x1, x2, x3) (only_refl w4 none))
  obtain ⟨E, hE⟩ : ∃ E, E = sErr x (x1, x2, x3) := ⟨_, rfl⟩
  obtain ⟨R, hR⟩ : ∃ R, R = sRow x (x1, x2, x3) := ⟨_, rfl⟩
  have rl : R.length ≤ 13 := by rw [hR]; have := sRow_len x (x1, x2, x3); omega
  rw [← hE, ← hR] at ST
  have EH := Lib.hid hE
  have RH := Lib.hid hR
  clear hE hR
  go_wp2_with fail
  refine ST.out.mono ?_
  rintro _ w5 ⟨A5, c5, rfl, l5, g5⟩
  have L5 := Lib.hid l5
  have LX5 := Lib.hid (LX.out.on g5)
  have LY5 := Lib.hid (LY.out.on g5)
  obtain ⟨p1, p2, p3, _⟩ := (SV w5 g5).out
  have G5 := Lib.hid g5
  have ST := Lib.hid (rstep_lv LX5.out (by omega) (x1, x2, x3) (only_refl w5 none))
  rw [← EH.out, ← RH.out] at ST
  clear q1 q2 q3 l5 g5
  go_wp2_with fail
  refine ST.out.mono ?_
  rintro _ w6 ⟨A6, c6, rfl, l6, g6⟩
  have L6 := Lib.hid l6
  have L56 := Lib.hid (L5.out.on g6)
  have LX6 := Lib.hid (LX5.out.on g6)
  have LY6 := Lib.hid (LY5.out.on g6)
  have G6 := Lib.hid (grow2 G5.out g6)
  have G06 := Lib.hid (grow2 G4.out G6.out)
  have S6 : ∀ V, w6.grownBy V none → Hid (V.cell? ⟨w.heap.size, 0, none⟩ = some (.int .i64 x1) ∧ V.cell? ⟨w.heap.size, 1, none⟩ = some (.int .i64 x2) ∧ V.cell? ⟨w.heap.size, 2, none⟩ = some (.int .i64 x3) ∧ w6.grownBy V none) := fun V hV => by
    obtain ⟨e1, e2, e3, _⟩ := (SV V (grow2 G6.out hV)).out
    exact ⟨e1, e2, e3, hV⟩
  clear l6 g6 ST L5 LX5 LY5 G5 SV p1 p2 p3
  have tE : (E == E) = true := by simp
  obtain ⟨G, hG⟩ : ∃ G, G = vget x x1 x2 := ⟨_, rfl⟩
  obtain ⟨H, hH⟩ : ∃ H, H = vhas x (x1, x2, x3) := ⟨_, rfl⟩
  obtain ⟨B, hB⟩ : ∃ B, B = decide (vle x y) := ⟨_, rfl⟩
  have tG : (G == G) = true := by simp
  have tH : (H == H) = true := by simp
  have tB : (B == B) = true := by simp
  obtain ⟨j, hj⟩ : ∃ j, j = vmrg x y := ⟨_, rfl⟩
  have jl : j.length ≤ 24 := by rw [hj]; have := vmrg_len x y; omega
  have C1 : ∀ V, w6.grownBy V none → Hid (Calls Try.prog 14 #[.slice A5 R.length c5, .slice A6 R.length c6] V fun e w' => e = .returned (.bool true) ∧ w6.grownBy w' none) := fun V hV => same_lv L56.out L6.out (by omega) true (by simp) hV
  have C2 : ∀ V, w6.grownBy V none → Hid (Calls Try.prog 15 #[.slice Ax x.length cx, .int .i64 x1, .int .i64 x2] V fun e w' => e = .returned (.int .i64 G) ∧ w6.grownBy w' none) := fun V hV => by rw [hG]; exact get_lv LX6.out OX.out.srt (by omega) x1 x2 hV
  have C3 : ∀ V, w6.grownBy V none → Hid (Calls Try.prog 16 #[.slice Ax x.length cx, .int .i64 x1, .int .i64 x2] V fun e w' => e = .returned (.int .i64 G) ∧ w6.grownBy w' none) := fun V hV => by rw [hG]; exact rget_lv LX6.out (by omega) x1 x2 hV
  have C4 : ∀ V, w6.grownBy V none → Hid (Calls Try.prog 17 #[.slice Ax x.length cx, .agg #[.int .i64 x1, .int .i64 x2, .int .i64 x3]] V fun e w' => e = .returned (.bool H) ∧ w6.grownBy w' none) := fun V hV => has_lv LX6.out OX.out.srt (by omega) (x1, x2, x3) H hH.symm hV
  have C5 : ∀ V, w6.grownBy V none → Hid (Calls Try.prog 18 #[.slice Ax x.length cx, .agg #[.int .i64 x1, .int .i64 x2, .int .i64 x3]] V fun e w' => e = .returned (.bool H) ∧ w6.grownBy w' none) := fun V hV => rhas_lv LX6.out (by omega) (x1, x2, x3) H hH.symm hV
  have C6 : ∀ V, w6.grownBy V none → Hid (Calls Try.prog 19 #[.slice Ax x.length cx, .slice Ay y.length cy] V (GotL w6 j)) := fun V hV => by rw [hj]; exact join_lv LX6.out LY6.out (by omega) (by omega) hV
  have C7 : ∀ V, w6.grownBy V none → Hid (Calls Try.prog 20 #[.slice Ax x.length cx, .slice Ay y.length cy] V (GotL V j)) := fun V hV => by rw [hj, vmrg_join x y OX.out.srt OY.out.srt OX.out.pos OY.out.pos]; exact rjoin_lv (LX6.out.on hV) (LY6.out.on hV) (by omega) (by omega) (only_refl V none)
  have C8 : ∀ V, w6.grownBy V none → Hid (Calls Try.prog 21 #[.slice Ax x.length cx, .slice Ay y.length cy] V fun e w' => e = .returned (.bool B) ∧ w6.grownBy w' none) := fun V hV => le_lv LX6.out LY6.out OY.out.srt (by omega) (by omega) B (by rw [hB]; simp) hV
  have C9 : ∀ V, w6.grownBy V none → Hid (Calls Try.prog 22 #[.slice Ax x.length cx, .slice Ay y.length cy] V fun e w' => e = .returned (.bool B) ∧ w6.grownBy w' none) := fun V hV => rle_lv LX6.out LY6.out (by omega) (by omega) B (by rw [hB]; simp) hV
  have e0 : w6.grownBy w6.drew none := only_drew (only_refl _ _)
  obtain ⟨s1, s2, s3, _⟩ := (S6 w6 (only_refl _ _)).out
  clear hG hH hB hj s1 s2 s3
  go_wp2_with fail
  go_region_held3 (fun V => V.cell? ⟨w.heap.size, 0, none⟩ = some (.int .i64 x1) ∧ V.cell? ⟨w.heap.size, 1, none⟩ = some (.int .i64 x2) ∧ V.cell? ⟨w.heap.size, 2, none⟩ = some (.int .i64 x3) ∧ w6.grownBy V none) (first | exact (S6 _ (by assumption)).out | exact (S6 _ (only_drew (by assumption))).out) ((first
    | (go_at_call 15; refine (C2 _ (by assumption)).out.mono ?_; rintro e w_2 ⟨rfl, g_2⟩)
    | (go_at_call 16; refine (C3 _ (by assumption)).out.mono ?_; rintro e w_3 ⟨rfl, g_3⟩)
    | (go_at_call 17; refine (C4 _ (by assumption)).out.mono ?_; rintro e w_4 ⟨rfl, g_4⟩)
    | (go_at_call 18; refine (C5 _ (by assumption)).out.mono ?_; rintro e w_5 ⟨rfl, g_5⟩)
    | (go_at_call 19; refine (C6 _ (by assumption)).out.mono ?_; rintro e w_6 ⟨Aj, cj, rfl, l_6, g_6⟩; have L_6 := Lib.hid l_6; clear l_6)
    | (go_at_call 20; refine (C7 _ (by assumption)).out.mono ?_; rintro e w_7 ⟨Ak, ck, rfl, l_7, g_7⟩; have L_7 := Lib.hid l_7; have H_7 := Lib.hid g_7; have g_7 := grow2 (by assumption : w6.grownBy _ none) g_7; clear l_7)
    | (go_at_call 21; refine (C8 _ (by assumption)).out.mono ?_; rintro e w_8 ⟨rfl, g_8⟩)
    | (go_at_call 22; refine (C9 _ (by assumption)).out.mono ?_; rintro e w_9 ⟨rfl, g_9⟩)
    | (go_at_call 14; (fail_if_success (have := L_7)); refine (C1 _ (by assumption)).out.mono ?_; rintro e w_1 ⟨rfl, g_1⟩)
    | (go_at_call 14; refine (same_lv (L_6.out.on H_7.out) L_7.out (by omega) true (by simp) (only_refl _ none)).mono ?_; rintro e w_10 ⟨rfl, g_10⟩; have g_10 := grow2 (by assumption : w6.grownBy w_7 none) g_10)))
  go_wp2_with fail
  go_ret
  exact ⟨rfl, grow2 G06.out (by assumption)⟩


end Go.Proofs.Ytlanldjpafkckaa
