/- journal.Open of a disk whose log has a tail that is cut off, and the power goes. Conditions: the disk's numbers stay below 2^40. -/
import Derived.Test.YtpfahfakinonnaaDoorJa8
import Derived.RegionTactic
import Derived.ChangeAlike
import Derived.BigRegion
namespace Go.Proofs.YtpfahfakinonnaaDoor
open Go.RowKit Go.Deep
set_option maxRecDepth 100000 in
set_option maxHeartbeats 2000000 in
theorem open_die0 (B g : Nat) (d : DS) (w : World) (h : Dk w B g d) (hk : Ok d) (hd : d.dd = false) (hS : d.S = []) (bL : ∀ x ∈ d.L, 0 ≤ x ∧ x ≤ 255) (lL : d.L.length ≤ 4294967296) (hN : (scanP d.L).2 < d.L.length) (hE : cutE d (scanP d.L).2 ≠ 0) (hT : Tab w) :
    Calls Tryd.prog 12 #[.pointer (some ⟨g, 0, none⟩)] w fun e w' => e = .returned (.tuple #[.pointer none, .slice none 0 0, .slice none 0 0, .int .i64 (cutE d (scanP d.L).2)]) ∧ Dk w' B g (cutS d (scanP d.L).2) ∧ w.grownBy w' (some g) := by
  have hmf : ∀ (fn : Fn) (first cap : Array Value) (w : World), (Instr.makeFunc fn first cap).run Tryd.prog w = .ok (.func fn first cap) w := fun _ _ _ _ => rfl
  obtain ⟨V, hV⟩ : ∃ V, (((w.alloc (.cells #[.pointer none] 32)).alloc (.cells #[.slice none 0 0] 33)).alloc (.cells #[.slice none 0 0] 34)).alloc (.cells #[.int .i64 0] 26) = V := ⟨_, rfl⟩
  obtain ⟨b2, b3, b4, b5, gV, sV⟩ := four_new w _ _ _ _ _ _ _ _ hV
  have DV := Lib.hid (h.below gV)
  have TV := Lib.hid (hT.grow gV)
  have glt := h.lt
  obtain ⟨LL, hLL⟩ : ∃ LL, (scanP d.L).1 = LL := ⟨_, rfl⟩
  obtain ⟨N, hNN⟩ : ∃ N, (scanP d.L).2 = N := ⟨_, rfl⟩
  have CUT := Lib.hid fun W H => cut_any B g d (N : Int) W H hk
  rw [hNN] at hN hE ⊢
  obtain ⟨K, hK⟩ : ∃ K, cutE d (N : Int) = K := ⟨_, rfl⟩
  obtain ⟨d', hd'⟩ : ∃ d', cutS d (N : Int) = d' := ⟨_, rfl⟩
  rw [hK] at hE CUT
  rw [hd'] at CUT ⊢
  rw [hK]
  have tN : (N : Int) < (d.L.length : Int) := by omega
  have HKK := Lib.hid hK
  have HDD := Lib.hid hd'
  clear hK hd'
  obtain ⟨c2, f2⟩ := hcell b2
  obtain ⟨c3, f3⟩ := hcell b3
  obtain ⟨c4, f4⟩ := hcell b4
  obtain ⟨c5, f5⟩ := hcell b5
  have HW := Lib.hid h
  have TW := Lib.hid hT
  clear h hT hk
  go_enter_defers Tryd.func12, Tryd.ntmps12
  go_wp2_with fail
  refine (dead_any B g d _ DV).mono ?_
  rintro _ _ ⟨rfl, rfl⟩
  rw [hd]
  go_wp2_with fail
  refine (snap_any B g d _ DV.out (by rw [hS]; simp)).mono ?_
  rintro _ X ⟨⟨v, rfl, hv⟩, gX⟩
  obtain ⟨A, c, rfl⟩ := own_slice hv
  have DX := Lib.hid (DV.out.below gX)
  have TX := Lib.hid (TV.out.grow gX)
  have t0 : d.S.length = 0 := by rw [hS]; rfl
  rw [t0]
  go_wp2_with fail
  have zX := gX.size
  have gwX : w.grownBy X none := only_step gV gX (fun _ hk => .inl hk)
  have d2 := (gX.block _ (by omega) (by simp)).trans b2
  have d3 := (gX.block _ (by omega) (by simp)).trans b3
  have d4 := (gX.block _ (by omega) (by simp)).trans b4
  have d5 := (gX.block _ (by omega) (by simp)).trans b5
  clear b2 b3 b4 b5
  clear c2 c3 c4 c5 f2 f3 f4 f5
  refine (log_any B g d _ DX.out (by omega)).mono ?_
  rintro _ Y ⟨⟨v, rfl, hy⟩, gY⟩
  obtain ⟨A', c', rfl⟩ := own_slice hy
  have TY := Lib.hid (TX.out.grow gY)
  go_wp2_with fail
  have SC := scan_any A' c' d.L Y (Has.own hy) bL lL (own_cap hy) TY.out
  rw [hLL, hNN] at SC
  refine SC.mono ?_
  rintro _ Z ⟨lv, rfl, hr, gZ⟩
  have gXZ : X.grownBy Z none := only_step gY gZ (fun _ hk => .inl hk)
  have zY := gY.size
  have zZ := gZ.size
  obtain ⟨Al, cl, rfl⟩ := hr.form
  have i2 := (gXZ.block _ (by omega) (by simp)).trans d2
  have i3 := (gXZ.block _ (by omega) (by simp)).trans d3
  have i4 := (gXZ.block _ (by omega) (by simp)).trans d4
  have i5 := (gXZ.block _ (by omega) (by simp)).trans d5
  obtain ⟨c2, f2⟩ := hcell i2
  obtain ⟨c3, f3⟩ := hcell i3
  obtain ⟨c4, f4⟩ := hcell i4
  obtain ⟨c5, f5⟩ := hcell i5
  go_wp2_with fail
  obtain ⟨U0, hU0⟩ : ∃ U0, Z.setCell ⟨w.heap.size + 1 + 1, 0, none⟩ (.slice Al LL.length cl) = U0 := ⟨_, rfl⟩
  have gZU0 : Z.grownBy U0 (some (w.heap.size + 1 + 1)) := by subst hU0; exact only_set (only_refl _ _) (.inl rfl) _
  have u2 : U0.heap[w.heap.size]? = some (.cells #[.pointer none] 32 (0, 0)) := by
    subst hU0
    exact set_else i2 _ (by first | (dsimp only; omega) | omega)
  have u3 : U0.heap[w.heap.size + 1]? = some (.cells #[.slice none 0 0] 33 (0, 0)) := by
    subst hU0
    exact set_else i3 _ (by first | (dsimp only; omega) | omega)
  have u4 : U0.heap[w.heap.size + 1 + 1]? = some (.cells #[.slice Al LL.length cl] 34 (0, 0)) := by
    subst hU0
    exact set_here i4 _
  have u5 : U0.heap[w.heap.size + 1 + 1 + 1]? = some (.cells #[.int .i64 0] 26 (0, 0)) := by
    subst hU0
    exact set_else i5 _ (by first | (dsimp only; omega) | omega)
  have gU0 : w.grownBy U0 none := only_step (only_step gwX gXZ (fun _ hk => .inl hk)) gZU0 (fun k hk => by cases hk; right; omega)
  have zU0 := gZU0.size
  rw [hU0]
  clear c2 c3 c4 c5 f2 f3 f4 f5
  have DZ : Dk Z B g d := DX.out.below gXZ
  have DU0 : Dk U0 B g d := DZ.apart i4 (by decide) (by omega) gZU0
  have R0 : RL U0 Y.heap.size (.slice Al LL.length cl) LL := RL.apart hr (k := w.heap.size + 1 + 1) (by omega) i4 (fun n => by simp) gZU0
  have HDU := Lib.hid DU0
  have HR0 := Lib.hid R0
  clear DZ DU0 R0 hr
  refine (CUT.out U0 HDU.out).mono ?_
  rintro _ CC ⟨rfl, DC, gC⟩
  have zC := gC.size
  have j2 := (gC.block _ (by omega) (by intro e; injection e with e; omega)).trans u2
  have j3 := (gC.block _ (by omega) (by intro e; injection e with e; omega)).trans u3
  have j4 := (gC.block _ (by omega) (by intro e; injection e with e; omega)).trans u4
  have j5 := (gC.block _ (by omega) (by intro e; injection e with e; omega)).trans u5
  clear u2 u3 u4 u5
  obtain ⟨c2, f2⟩ := hcell j2
  obtain ⟨c3, f3⟩ := hcell j3
  obtain ⟨c4, f4⟩ := hcell j4
  obtain ⟨c5, f5⟩ := hcell j5
  have RC : Hid (RL CC Y.heap.size (.slice Al LL.length cl) LL) := RL.apart8 HR0.out HDU.out (by omega) gC
  have HDC := Lib.hid DC
  clear DC
  go_wp2_with fail
  obtain ⟨U, hU⟩ : ∃ U, CC.setCell ⟨w.heap.size + 1 + 1 + 1, 0, none⟩ (.int .i64 K) = U := ⟨_, rfl⟩
  have gCU : CC.grownBy U (some (w.heap.size + 1 + 1 + 1)) := by subst hU; exact only_set (only_refl _ _) (.inl rfl) _
  have u2 : U.heap[w.heap.size]? = some (.cells #[.pointer none] 32 (0, 0)) := by
    subst hU
    exact set_else j2 _ (by first | (dsimp only; omega) | omega)
  have u3 : U.heap[w.heap.size + 1]? = some (.cells #[.slice none 0 0] 33 (0, 0)) := by
    subst hU
    exact set_else j3 _ (by first | (dsimp only; omega) | omega)
  have u4 : U.heap[w.heap.size + 1 + 1]? = some (.cells #[.slice Al LL.length cl] 34 (0, 0)) := by
    subst hU
    exact set_else j4 _ (by first | (dsimp only; omega) | omega)
  have u5 : U.heap[w.heap.size + 1 + 1 + 1]? = some (.cells #[.int .i64 K] 26 (0, 0)) := by
    subst hU
    exact set_here j5 _
  have gU : w.grownBy U (some g) := only_step (only_step (only_none gU0 _) gC (fun k hk => .inl hk)) gCU (fun k hk => by cases hk; right; omega)
  have zU := gCU.size
  have DU : Hid (Dk U B g d') := HDC.out.apart j5 (by decide) (by omega) gCU
  rw [hU]
  clear c2 c3 c4 c5 f2 f3 f4 f5
  obtain ⟨c2, f2⟩ := hcell u2
  obtain ⟨c3, f3⟩ := hcell u3
  obtain ⟨c4, f4⟩ := hcell u4
  obtain ⟨c5, f5⟩ := hcell u5
  have v2 : (U.alloc (.cells #[.pointer (some ⟨g, 0, none⟩), .int .i64 LL.length] 74)).heap[w.heap.size]? = some (.cells #[.pointer none] 32 (0, 0)) := (Below.heap_alloc _ _ _ (by first | (dsimp only; omega) | omega)).trans u2
  have v3 : (U.alloc (.cells #[.pointer (some ⟨g, 0, none⟩), .int .i64 LL.length] 74)).heap[w.heap.size + 1]? = some (.cells #[.slice none 0 0] 33 (0, 0)) := (Below.heap_alloc _ _ _ (by first | (dsimp only; omega) | omega)).trans u3
  have v4 : (U.alloc (.cells #[.pointer (some ⟨g, 0, none⟩), .int .i64 LL.length] 74)).heap[w.heap.size + 1 + 1]? = some (.cells #[.slice Al LL.length cl] 34 (0, 0)) := (Below.heap_alloc _ _ _ (by first | (dsimp only; omega) | omega)).trans u4
  have v5 : (U.alloc (.cells #[.pointer (some ⟨g, 0, none⟩), .int .i64 LL.length] 74)).heap[w.heap.size + 1 + 1 + 1]? = some (.cells #[.int .i64 K] 26 (0, 0)) := (Below.heap_alloc _ _ _ (by first | (dsimp only; omega) | omega)).trans u5
  have v6 : (U.alloc (.cells #[.pointer (some ⟨g, 0, none⟩), .int .i64 LL.length] 74)).heap[U.heap.size]? = some (.cells #[.pointer (some ⟨g, 0, none⟩), .int .i64 LL.length] 74 (0, 0)) := heap_alloc_new U _
  obtain ⟨a2, e2⟩ := hcell v2
  obtain ⟨a3, e3⟩ := hcell v3
  obtain ⟨a4, e4⟩ := hcell v4
  obtain ⟨a5, e5⟩ := hcell v5
  have R1 : RL U Y.heap.size (.slice Al LL.length cl) LL := RL.apart RC.out (k := w.heap.size + 1 + 1 + 1) (by omega) j5 (fun n => by simp) gCU
  have R2 : Hid (RL (U.alloc (.cells #[.pointer (some ⟨g, 0, none⟩), .int .i64 LL.length] 74)) Y.heap.size (.slice Al LL.length cl) LL) := R1.grow (World.grownBy_alloc _ _ none)
  have D2 : Hid (Dk (U.alloc (.cells #[.pointer (some ⟨g, 0, none⟩), .int .i64 LL.length] 74)) B g d') := DU.out.below (World.grownBy_alloc _ _ none)
  clear hmf DV TV DX TX TY hy gY gZ SC hU hU0 d2 d3 d4 d5 hV gV R1
  clear i2 i3 i4 i5 j2 j3 j4 j5
  go_region
  go_wp2_with fail
  obtain ⟨T1, h1⟩ : ∃ T1, (U.alloc (.cells #[.pointer (some ⟨g, 0, none⟩), .int .i64 LL.length] 74)).setCell ⟨w.heap.size, 0, none⟩ (.pointer (some ⟨U.heap.size, 0, none⟩)) = T1 := ⟨_, rfl⟩
  obtain ⟨T2, h2⟩ : ∃ T2, T1.setCell ⟨w.heap.size + 1, 0, none⟩ (.slice none 0 0) = T2 := ⟨_, rfl⟩
  obtain ⟨T3, h3⟩ : ∃ T3, T2.setCell ⟨w.heap.size + 1 + 1, 0, none⟩ (.slice Al LL.length cl) = T3 := ⟨_, rfl⟩
  obtain ⟨T4, h4⟩ : ∃ T4, T3.setCell ⟨w.heap.size + 1 + 1 + 1, 0, none⟩ (.int .i64 K) = T4 := ⟨_, rfl⟩
  rw [h1, h2, h3, h4]
  have g1 : (U.alloc (.cells #[.pointer (some ⟨g, 0, none⟩), .int .i64 LL.length] 74)).grownBy T1 (some w.heap.size) := by subst h1; exact only_set (only_refl _ _) (.inl rfl) _
  have g2 : T1.grownBy T2 (some (w.heap.size + 1)) := by subst h2; exact only_set (only_refl _ _) (.inl rfl) _
  have g3 : T2.grownBy T3 (some (w.heap.size + 1 + 1)) := by subst h3; exact only_set (only_refl _ _) (.inl rfl) _
  have g4 : T3.grownBy T4 (some (w.heap.size + 1 + 1 + 1)) := by subst h4; exact only_set (only_refl _ _) (.inl rfl) _
  have zz : (U.alloc (.cells #[.pointer (some ⟨g, 0, none⟩), .int .i64 LL.length] 74)).heap.size = U.heap.size + 1 := by simp
  have y1 := g1.size
  have y2 := g2.size
  have y3 := g3.size
  have y4 := g4.size
  have A12 : T1.heap[w.heap.size]? = some (.cells #[.pointer (some ⟨U.heap.size, 0, none⟩)] 32 (0, 0)) := by subst h1; exact set_here v2 _
  have A13 : T1.heap[w.heap.size + 1]? = some (.cells #[.slice none 0 0] 33 (0, 0)) := by subst h1; exact set_else v3 _ (by first | (dsimp only; omega) | omega)
  have A14 : T1.heap[w.heap.size + 1 + 1]? = some (.cells #[.slice Al LL.length cl] 34 (0, 0)) := by subst h1; exact set_else v4 _ (by first | (dsimp only; omega) | omega)
  have A15 : T1.heap[w.heap.size + 1 + 1 + 1]? = some (.cells #[.int .i64 K] 26 (0, 0)) := by subst h1; exact set_else v5 _ (by first | (dsimp only; omega) | omega)
  have A22 : T2.heap[w.heap.size]? = some (.cells #[.pointer (some ⟨U.heap.size, 0, none⟩)] 32 (0, 0)) := by subst h2; exact set_else A12 _ (by first | (dsimp only; omega) | omega)
  have A23 : T2.heap[w.heap.size + 1]? = some (.cells #[.slice none 0 0] 33 (0, 0)) := by subst h2; exact set_here A13 _
  have A24 : T2.heap[w.heap.size + 1 + 1]? = some (.cells #[.slice Al LL.length cl] 34 (0, 0)) := by subst h2; exact set_else A14 _ (by first | (dsimp only; omega) | omega)
  have A25 : T2.heap[w.heap.size + 1 + 1 + 1]? = some (.cells #[.int .i64 K] 26 (0, 0)) := by subst h2; exact set_else A15 _ (by first | (dsimp only; omega) | omega)
  have A32 : T3.heap[w.heap.size]? = some (.cells #[.pointer (some ⟨U.heap.size, 0, none⟩)] 32 (0, 0)) := by subst h3; exact set_else A22 _ (by first | (dsimp only; omega) | omega)
  have A33 : T3.heap[w.heap.size + 1]? = some (.cells #[.slice none 0 0] 33 (0, 0)) := by subst h3; exact set_else A23 _ (by first | (dsimp only; omega) | omega)
  have A34 : T3.heap[w.heap.size + 1 + 1]? = some (.cells #[.slice Al LL.length cl] 34 (0, 0)) := by subst h3; exact set_here A24 _
  have A35 : T3.heap[w.heap.size + 1 + 1 + 1]? = some (.cells #[.int .i64 K] 26 (0, 0)) := by subst h3; exact set_else A25 _ (by first | (dsimp only; omega) | omega)
  have x2 : T4.heap[w.heap.size]? = some (.cells #[.pointer (some ⟨U.heap.size, 0, none⟩)] 32 (0, 0)) := by subst h4; exact set_else A32 _ (by first | (dsimp only; omega) | omega)
  have x3 : T4.heap[w.heap.size + 1]? = some (.cells #[.slice none 0 0] 33 (0, 0)) := by subst h4; exact set_else A33 _ (by first | (dsimp only; omega) | omega)
  have x4 : T4.heap[w.heap.size + 1 + 1]? = some (.cells #[.slice Al LL.length cl] 34 (0, 0)) := by subst h4; exact set_else A34 _ (by first | (dsimp only; omega) | omega)
  have x5 : T4.heap[w.heap.size + 1 + 1 + 1]? = some (.cells #[.int .i64 K] 26 (0, 0)) := by subst h4; exact set_here A35 _
  have x6 : Jn T4 U.heap.size g LL.length := ((g4.block _ (by omega) (by intro e; injection e with e; omega)).trans ((g3.block _ (by omega) (by intro e; injection e with e; omega)).trans ((g2.block _ (by omega) (by intro e; injection e with e; omega)).trans (g1.block _ (by omega) (by intro e; injection e with e; omega))))).trans v6
  have R6 : RL T4 Y.heap.size (.slice Al LL.length cl) LL := RL.apart (RL.apart (RL.apart (RL.apart R2.out (by omega) v2 (fun n => by simp) g1) (by omega) A13 (fun n => by simp) g2) (by omega) A24 (fun n => by simp) g3) (by omega) A35 (fun n => by simp) g4
  have D6 : Dk T4 B g d' := Dk.apart (Dk.apart (Dk.apart (Dk.apart D2.out v2 (by decide) (by omega) g1) A13 (by decide) (by omega) g2) A24 (by decide) (by omega) g3) A35 (by decide) (by omega) g4
  have gT : w.grownBy T4 (some g) := only_step (only_step (only_step (only_step (only_alloc gU _) g1 (fun k hk => by cases hk; right; omega)) g2 (fun k hk => by cases hk; right; omega)) g3 (fun k hk => by cases hk; right; omega)) g4 (fun k hk => by cases hk; right; omega)
  obtain ⟨q2, r2⟩ := hcell x2
  obtain ⟨q3, r3⟩ := hcell x3
  obtain ⟨q4, r4⟩ := hcell x4
  obtain ⟨q5, r5⟩ := hcell x5
  clear h1 h2 h3 h4 A12 A13 A14 A15 A22 A23 A24 A25 A32 A33 A34 A35 v2 v3 v4 v5 v6 a2 a3 a4 a5 e2 e3 e4 e5
  obtain ⟨T, hTT⟩ : ∃ T, T4.drew = T := ⟨_, rfl⟩
  have X2 : T.heap[w.heap.size]? = some (.cells #[.pointer (some ⟨U.heap.size, 0, none⟩)] 32 (0, 0)) := by subst hTT; exact x2
  have X3 : T.heap[w.heap.size + 1]? = some (.cells #[.slice none 0 0] 33 (0, 0)) := by subst hTT; exact x3
  have X4 : T.heap[w.heap.size + 1 + 1]? = some (.cells #[.slice Al LL.length cl] 34 (0, 0)) := by subst hTT; exact x4
  have X5 : T.heap[w.heap.size + 1 + 1 + 1]? = some (.cells #[.int .i64 K] 26 (0, 0)) := by subst hTT; exact x5
  have D7 : Dk T B g d' := by subst hTT; exact D6
  have gT' : w.grownBy T (some g) := by subst hTT; exact only_drew gT
  have zT : T4.heap.size = T.heap.size := by subst hTT; rfl
  obtain ⟨q2', r2'⟩ := hcell X2
  obtain ⟨q3', r3'⟩ := hcell X3
  obtain ⟨q4', r4'⟩ := hcell X4
  obtain ⟨q5', r5'⟩ := hcell X5
  rw [hTT]
  clear hTT q2 q3 q4 q5 r2 r3 r4 r5
  refine leaves_cons (f := 32) (args := #[.pointer (some ⟨w.heap.size + 1 + 1 + 1, 0, none⟩), .pointer (some ⟨w.heap.size, 0, none⟩), .pointer (some ⟨w.heap.size + 1, 0, none⟩), .pointer (some ⟨w.heap.size + 1 + 1, 0, none⟩)]) (by simp) (by simp [go_sem]) ?_
  refine (close_bad _ _ _ _ K _ _ _ T hE q5' q2' q3' q4' r2' r3' r4' (by omega) (by omega) (by omega)).mono ?_
  rintro e u' w'' ⟨rfl, rfl, hw⟩
  obtain ⟨S1, k1⟩ : ∃ S1, T.setCell ⟨w.heap.size, 0, none⟩ (.pointer none) = S1 := ⟨_, rfl⟩
  obtain ⟨S2, k2⟩ : ∃ S2, S1.setCell ⟨w.heap.size + 1, 0, none⟩ (.slice none 0 0) = S2 := ⟨_, rfl⟩
  rw [k1, k2] at hw
  have G1 : T.grownBy S1 (some w.heap.size) := by subst k1; exact only_set (only_refl _ _) (.inl rfl) _
  have G2 : S1.grownBy S2 (some (w.heap.size + 1)) := by subst k2; exact only_set (only_refl _ _) (.inl rfl) _
  have G3 : S2.grownBy w'' (some (w.heap.size + 1 + 1)) := by subst hw; exact only_set (only_refl _ _) (.inl rfl) _
  have B12 : S1.heap[w.heap.size]? = some (.cells #[.pointer none] 32 (0, 0)) := by subst k1; exact set_here X2 _
  have B13 : S1.heap[w.heap.size + 1]? = some (.cells #[.slice none 0 0] 33 (0, 0)) := by subst k1; exact set_else X3 _ (by first | (dsimp only; omega) | omega)
  have B14 : S1.heap[w.heap.size + 1 + 1]? = some (.cells #[.slice Al LL.length cl] 34 (0, 0)) := by subst k1; exact set_else X4 _ (by first | (dsimp only; omega) | omega)
  have B15 : S1.heap[w.heap.size + 1 + 1 + 1]? = some (.cells #[.int .i64 K] 26 (0, 0)) := by subst k1; exact set_else X5 _ (by first | (dsimp only; omega) | omega)
  have B22 : S2.heap[w.heap.size]? = some (.cells #[.pointer none] 32 (0, 0)) := by subst k2; exact set_else B12 _ (by first | (dsimp only; omega) | omega)
  have B23 : S2.heap[w.heap.size + 1]? = some (.cells #[.slice none 0 0] 33 (0, 0)) := by subst k2; exact set_here B13 _
  have B24 : S2.heap[w.heap.size + 1 + 1]? = some (.cells #[.slice Al LL.length cl] 34 (0, 0)) := by subst k2; exact set_else B14 _ (by first | (dsimp only; omega) | omega)
  have B25 : S2.heap[w.heap.size + 1 + 1 + 1]? = some (.cells #[.int .i64 K] 26 (0, 0)) := by subst k2; exact set_else B15 _ (by first | (dsimp only; omega) | omega)
  have z2 : w''.heap[w.heap.size]? = some (.cells #[.pointer none] 32 (0, 0)) := by subst hw; exact set_else B22 _ (by first | (dsimp only; omega) | omega)
  have z3 : w''.heap[w.heap.size + 1]? = some (.cells #[.slice none 0 0] 33 (0, 0)) := by subst hw; exact set_else B23 _ (by first | (dsimp only; omega) | omega)
  have z4 : w''.heap[w.heap.size + 1 + 1]? = some (.cells #[.slice none 0 0] 34 (0, 0)) := by subst hw; exact set_here B24 _
  have z5 : w''.heap[w.heap.size + 1 + 1 + 1]? = some (.cells #[.int .i64 K] 26 (0, 0)) := by subst hw; exact set_else B25 _ (by first | (dsimp only; omega) | omega)
  have D9 : Dk w'' B g d' := Dk.apart (Dk.apart (Dk.apart D7 X2 (by decide) (by omega) G1) B13 (by decide) (by omega) G2) B24 (by decide) (by omega) G3
  have gz : w.grownBy w'' (some g) := only_step (only_step (only_step gT' G1 (fun k hk => by cases hk; right; omega)) G2 (fun k hk => by cases hk; right; omega)) G3 (fun k hk => by cases hk; right; omega)
  have q2 := (hcell z2).1
  have q3 := (hcell z3).1
  have q4 := (hcell z4).1
  have q5 := (hcell z5).1
  simp
  simp [Leaves, settle, results, Tryd.results12, go_sem, q2, q3, q4, q5]
  exact ⟨D9, gz⟩
set_option maxRecDepth 100000 in
set_option maxHeartbeats 2000000 in
theorem open_die1 (B g : Nat) (d : DS) (w : World) (h : Dk w B g d) (hk : Ok d) (hd : d.dd = false) (h0 : 0 < d.S.length) (hl : d.S.length ≤ 1099511627776) (hb : ∀ x ∈ d.S, 0 ≤ x ∧ x ≤ 255) (ho : oneE d.S = 0) (bL : ∀ x ∈ d.L, 0 ≤ x ∧ x ≤ 255) (lL : d.L.length ≤ 4294967296) (hN : (scanP d.L).2 < d.L.length) (hE : cutE d (scanP d.L).2 ≠ 0) (hT : Tab w) :
    Calls Tryd.prog 12 #[.pointer (some ⟨g, 0, none⟩)] w fun e w' => e = .returned (.tuple #[.pointer none, .slice none 0 0, .slice none 0 0, .int .i64 (cutE d (scanP d.L).2)]) ∧ Dk w' B g (cutS d (scanP d.L).2) ∧ w.grownBy w' (some g) := by
  have hmf : ∀ (fn : Fn) (first cap : Array Value) (w : World), (Instr.makeFunc fn first cap).run Tryd.prog w = .ok (.func fn first cap) w := fun _ _ _ _ => rfl
  obtain ⟨V, hV⟩ : ∃ V, (((w.alloc (.cells #[.pointer none] 32)).alloc (.cells #[.slice none 0 0] 33)).alloc (.cells #[.slice none 0 0] 34)).alloc (.cells #[.int .i64 0] 26) = V := ⟨_, rfl⟩
  obtain ⟨b2, b3, b4, b5, gV, sV⟩ := four_new w _ _ _ _ _ _ _ _ hV
  have DV := Lib.hid (h.below gV)
  have TV := Lib.hid (hT.grow gV)
  have glt := h.lt
  obtain ⟨LL, hLL⟩ : ∃ LL, (scanP d.L).1 = LL := ⟨_, rfl⟩
  obtain ⟨N, hNN⟩ : ∃ N, (scanP d.L).2 = N := ⟨_, rfl⟩
  have CUT := Lib.hid fun W H => cut_any B g d (N : Int) W H hk
  rw [hNN] at hN hE ⊢
  obtain ⟨K, hK⟩ : ∃ K, cutE d (N : Int) = K := ⟨_, rfl⟩
  obtain ⟨d', hd'⟩ : ∃ d', cutS d (N : Int) = d' := ⟨_, rfl⟩
  rw [hK] at hE CUT
  rw [hd'] at CUT ⊢
  rw [hK]
  have tN : (N : Int) < (d.L.length : Int) := by omega
  have HKK := Lib.hid hK
  have HDD := Lib.hid hd'
  clear hK hd'
  obtain ⟨c2, f2⟩ := hcell b2
  obtain ⟨c3, f3⟩ := hcell b3
  obtain ⟨c4, f4⟩ := hcell b4
  obtain ⟨c5, f5⟩ := hcell b5
  have HW := Lib.hid h
  have TW := Lib.hid hT
  clear h hT hk
  go_enter_defers Tryd.func12, Tryd.ntmps12
  go_wp2_with fail
  refine (dead_any B g d _ DV).mono ?_
  rintro _ _ ⟨rfl, rfl⟩
  rw [hd]
  go_wp2_with fail
  refine (snap_any B g d _ DV.out hl).mono ?_
  rintro _ X0 ⟨⟨v, rfl, hv⟩, gX0⟩
  obtain ⟨A, c, rfl⟩ := own_slice hv
  have TX0 := Lib.hid (TV.out.grow gX0)
  have t0 : (0 : Int) < d.S.length := by omega
  go_wp2_with fail
  refine (one_any A c d.S X0 (Has.own hv) hb hl (own_cap hv) TX0.out).mono ?_
  rintro _ Y0 ⟨s, rfl, hs, gY0⟩
  have gVY : V.grownBy Y0 none := only_step gX0 gY0 (fun _ hk => .inl hk)
  have zX0 := gX0.size
  have zY0 := gY0.size
  have i2 := (gVY.block _ (by omega) (by simp)).trans b2
  have i3 := (gVY.block _ (by omega) (by simp)).trans b3
  have i4 := (gVY.block _ (by omega) (by simp)).trans b4
  have i5 := (gVY.block _ (by omega) (by simp)).trans b5
  rw [ho]
  have os : Y0.ownsRow w.heap.size 5 1 s (bs (recP d.S)).length (bs (recP d.S)) := by
    unfold OneV at hs; rw [if_pos ho] at hs
    exact own_mono hs (by omega)
  have oat : s.ownBlock = none ∨ ∃ k, s.ownBlock = some k ∧ w.heap.size + 4 ≤ k := by
    unfold OneV at hs; rw [if_pos ho] at hs
    rcases own_at hs with h | ⟨k, h, hk⟩
    · exact .inl h
    · exact .inr ⟨k, h, by omega⟩
  obtain ⟨As, cs, rfl⟩ := own_slice os
  clear c2 c3 c4 c5 f2 f3 f4 f5 hs b2 b3 b4 b5
  obtain ⟨c2, f2⟩ := hcell i2
  obtain ⟨c3, f3⟩ := hcell i3
  obtain ⟨c4, f4⟩ := hcell i4
  obtain ⟨c5, f5⟩ := hcell i5
  go_wp2_with fail
  obtain ⟨X1, hX1⟩ : ∃ X1, Y0.setCell ⟨w.heap.size + 1, 0, none⟩ (.slice As (bs (recP d.S)).length cs) = X1 := ⟨_, rfl⟩
  obtain ⟨X, hX⟩ : ∃ X, X1.setCell ⟨w.heap.size + 1 + 1 + 1, 0, none⟩ (.int .i64 0) = X := ⟨_, rfl⟩
  rw [hX1, hX]
  have gX1 : Y0.grownBy X1 (some (w.heap.size + 1)) := by subst hX1; exact only_set (only_refl _ _) (.inl rfl) _
  have gX2 : X1.grownBy X (some (w.heap.size + 1 + 1 + 1)) := by subst hX; exact only_set (only_refl _ _) (.inl rfl) _
  have zX1 := gX1.size
  have zX2 := gX2.size
  have d2 : X.heap[w.heap.size]? = some (.cells #[.pointer none] 32 (0, 0)) := by subst hX; subst hX1; exact set_else (set_else i2 _ (by first | (dsimp only; omega) | omega)) _ (by first | (dsimp only; omega) | omega)
  have d3 : X.heap[w.heap.size + 1]? = some (.cells #[.slice As (bs (recP d.S)).length cs] 33 (0, 0)) := by subst hX; subst hX1; exact set_else (set_here i3 _) _ (by first | (dsimp only; omega) | omega)
  have d4 : X.heap[w.heap.size + 1 + 1]? = some (.cells #[.slice none 0 0] 34 (0, 0)) := by subst hX; subst hX1; exact set_else (set_else i4 _ (by first | (dsimp only; omega) | omega)) _ (by first | (dsimp only; omega) | omega)
  have d5 : X.heap[w.heap.size + 1 + 1 + 1]? = some (.cells #[.int .i64 0] 26 (0, 0)) := by subst hX; subst hX1; exact set_here (set_else i5 _ (by first | (dsimp only; omega) | omega)) _
  have gwX : w.grownBy X none := only_step (only_step (only_step gV gVY (fun _ hk => .inl hk)) gX1 (fun k hk => by cases hk; right; omega)) gX2 (fun k hk => by cases hk; right; omega)
  have zX : V.heap.size ≤ X.heap.size := by have := gVY.size; omega
  have DX := Lib.hid (HW.out.below gwX)
  have TX := Lib.hid (TW.out.grow gwX)
  have OX : X.ownsRow w.heap.size 5 1 (.slice As (bs (recP d.S)).length cs) (bs (recP d.S)).length (bs (recP d.S)) := kept_other (kept_other os gX1 (fun k hk e => by cases hk; rcases oat with h | ⟨k, h, hk⟩ <;> rw [h] at e <;> cases e; omega)) gX2 (fun k hk e => by cases hk; rcases oat with h | ⟨k, h, hk⟩ <;> rw [h] at e <;> cases e; omega)
  have OO := Lib.hid OX
  have AT := Lib.hid oat
  clear i2 i3 i4 i5 os OX oat hX hX1 gX0 gY0 TX0
  clear c2 c3 c4 c5 f2 f3 f4 f5
  refine (log_any B g d _ DX.out (by omega)).mono ?_
  rintro _ Y ⟨⟨v, rfl, hy⟩, gY⟩
  obtain ⟨A', c', rfl⟩ := own_slice hy
  have TY := Lib.hid (TX.out.grow gY)
  go_wp2_with fail
  have SC := scan_any A' c' d.L Y (Has.own hy) bL lL (own_cap hy) TY.out
  rw [hLL, hNN] at SC
  refine SC.mono ?_
  rintro _ Z ⟨lv, rfl, hr, gZ⟩
  have gXZ : X.grownBy Z none := only_step gY gZ (fun _ hk => .inl hk)
  have zY := gY.size
  have zZ := gZ.size
  obtain ⟨Al, cl, rfl⟩ := hr.form
  have i2 := (gXZ.block _ (by omega) (by simp)).trans d2
  have i3 := (gXZ.block _ (by omega) (by simp)).trans d3
  have i4 := (gXZ.block _ (by omega) (by simp)).trans d4
  have i5 := (gXZ.block _ (by omega) (by simp)).trans d5
  obtain ⟨c2, f2⟩ := hcell i2
  obtain ⟨c3, f3⟩ := hcell i3
  obtain ⟨c4, f4⟩ := hcell i4
  obtain ⟨c5, f5⟩ := hcell i5
  go_wp2_with fail
  obtain ⟨U0, hU0⟩ : ∃ U0, Z.setCell ⟨w.heap.size + 1 + 1, 0, none⟩ (.slice Al LL.length cl) = U0 := ⟨_, rfl⟩
  have gZU0 : Z.grownBy U0 (some (w.heap.size + 1 + 1)) := by subst hU0; exact only_set (only_refl _ _) (.inl rfl) _
  have u2 : U0.heap[w.heap.size]? = some (.cells #[.pointer none] 32 (0, 0)) := by
    subst hU0
    exact set_else i2 _ (by first | (dsimp only; omega) | omega)
  have u3 : U0.heap[w.heap.size + 1]? = some (.cells #[.slice As (bs (recP d.S)).length cs] 33 (0, 0)) := by
    subst hU0
    exact set_else i3 _ (by first | (dsimp only; omega) | omega)
  have u4 : U0.heap[w.heap.size + 1 + 1]? = some (.cells #[.slice Al LL.length cl] 34 (0, 0)) := by
    subst hU0
    exact set_here i4 _
  have u5 : U0.heap[w.heap.size + 1 + 1 + 1]? = some (.cells #[.int .i64 0] 26 (0, 0)) := by
    subst hU0
    exact set_else i5 _ (by first | (dsimp only; omega) | omega)
  have gU0 : w.grownBy U0 none := only_step (only_step gwX gXZ (fun _ hk => .inl hk)) gZU0 (fun k hk => by cases hk; right; omega)
  have zU0 := gZU0.size
  rw [hU0]
  clear c2 c3 c4 c5 f2 f3 f4 f5
  have DZ : Dk Z B g d := DX.out.below gXZ
  have DU0 : Dk U0 B g d := DZ.apart i4 (by decide) (by omega) gZU0
  have R0 : RL U0 Y.heap.size (.slice Al LL.length cl) LL := RL.apart hr (k := w.heap.size + 1 + 1) (by omega) i4 (fun n => by simp) gZU0
  have HDU := Lib.hid DU0
  have HR0 := Lib.hid R0
  clear DZ DU0 R0 hr
  refine (CUT.out U0 HDU.out).mono ?_
  rintro _ CC ⟨rfl, DC, gC⟩
  have zC := gC.size
  have j2 := (gC.block _ (by omega) (by intro e; injection e with e; omega)).trans u2
  have j3 := (gC.block _ (by omega) (by intro e; injection e with e; omega)).trans u3
  have j4 := (gC.block _ (by omega) (by intro e; injection e with e; omega)).trans u4
  have j5 := (gC.block _ (by omega) (by intro e; injection e with e; omega)).trans u5
  clear u2 u3 u4 u5
  obtain ⟨c2, f2⟩ := hcell j2
  obtain ⟨c3, f3⟩ := hcell j3
  obtain ⟨c4, f4⟩ := hcell j4
  obtain ⟨c5, f5⟩ := hcell j5
  have RC : Hid (RL CC Y.heap.size (.slice Al LL.length cl) LL) := RL.apart8 HR0.out HDU.out (by omega) gC
  have HDC := Lib.hid DC
  clear DC
  go_wp2_with fail
  obtain ⟨U, hU⟩ : ∃ U, CC.setCell ⟨w.heap.size + 1 + 1 + 1, 0, none⟩ (.int .i64 K) = U := ⟨_, rfl⟩
  have gCU : CC.grownBy U (some (w.heap.size + 1 + 1 + 1)) := by subst hU; exact only_set (only_refl _ _) (.inl rfl) _
  have u2 : U.heap[w.heap.size]? = some (.cells #[.pointer none] 32 (0, 0)) := by
    subst hU
    exact set_else j2 _ (by first | (dsimp only; omega) | omega)
  have u3 : U.heap[w.heap.size + 1]? = some (.cells #[.slice As (bs (recP d.S)).length cs] 33 (0, 0)) := by
    subst hU
    exact set_else j3 _ (by first | (dsimp only; omega) | omega)
  have u4 : U.heap[w.heap.size + 1 + 1]? = some (.cells #[.slice Al LL.length cl] 34 (0, 0)) := by
    subst hU
    exact set_else j4 _ (by first | (dsimp only; omega) | omega)
  have u5 : U.heap[w.heap.size + 1 + 1 + 1]? = some (.cells #[.int .i64 K] 26 (0, 0)) := by
    subst hU
    exact set_here j5 _
  have gU : w.grownBy U (some g) := only_step (only_step (only_none gU0 _) gC (fun k hk => .inl hk)) gCU (fun k hk => by cases hk; right; omega)
  have zU := gCU.size
  have DU : Hid (Dk U B g d') := HDC.out.apart j5 (by decide) (by omega) gCU
  rw [hU]
  clear c2 c3 c4 c5 f2 f3 f4 f5
  obtain ⟨c2, f2⟩ := hcell u2
  obtain ⟨c3, f3⟩ := hcell u3
  obtain ⟨c4, f4⟩ := hcell u4
  obtain ⟨c5, f5⟩ := hcell u5
  have v2 : (U.alloc (.cells #[.pointer (some ⟨g, 0, none⟩), .int .i64 LL.length] 74)).heap[w.heap.size]? = some (.cells #[.pointer none] 32 (0, 0)) := (Below.heap_alloc _ _ _ (by first | (dsimp only; omega) | omega)).trans u2
  have v3 : (U.alloc (.cells #[.pointer (some ⟨g, 0, none⟩), .int .i64 LL.length] 74)).heap[w.heap.size + 1]? = some (.cells #[.slice As (bs (recP d.S)).length cs] 33 (0, 0)) := (Below.heap_alloc _ _ _ (by first | (dsimp only; omega) | omega)).trans u3
  have v4 : (U.alloc (.cells #[.pointer (some ⟨g, 0, none⟩), .int .i64 LL.length] 74)).heap[w.heap.size + 1 + 1]? = some (.cells #[.slice Al LL.length cl] 34 (0, 0)) := (Below.heap_alloc _ _ _ (by first | (dsimp only; omega) | omega)).trans u4
  have v5 : (U.alloc (.cells #[.pointer (some ⟨g, 0, none⟩), .int .i64 LL.length] 74)).heap[w.heap.size + 1 + 1 + 1]? = some (.cells #[.int .i64 K] 26 (0, 0)) := (Below.heap_alloc _ _ _ (by first | (dsimp only; omega) | omega)).trans u5
  have v6 : (U.alloc (.cells #[.pointer (some ⟨g, 0, none⟩), .int .i64 LL.length] 74)).heap[U.heap.size]? = some (.cells #[.pointer (some ⟨g, 0, none⟩), .int .i64 LL.length] 74 (0, 0)) := heap_alloc_new U _
  obtain ⟨a2, e2⟩ := hcell v2
  obtain ⟨a3, e3⟩ := hcell v3
  obtain ⟨a4, e4⟩ := hcell v4
  obtain ⟨a5, e5⟩ := hcell v5
  have R1 : RL U Y.heap.size (.slice Al LL.length cl) LL := RL.apart RC.out (k := w.heap.size + 1 + 1 + 1) (by omega) j5 (fun n => by simp) gCU
  have R2 : Hid (RL (U.alloc (.cells #[.pointer (some ⟨g, 0, none⟩), .int .i64 LL.length] 74)) Y.heap.size (.slice Al LL.length cl) LL) := R1.grow (World.grownBy_alloc _ _ none)
  have D2 : Hid (Dk (U.alloc (.cells #[.pointer (some ⟨g, 0, none⟩), .int .i64 LL.length] 74)) B g d') := DU.out.below (World.grownBy_alloc _ _ none)
  clear hmf DV TV DX TX TY hy gY gZ SC hU hU0 d2 d3 d4 d5 hV gV R1
  clear i2 i3 i4 i5 j2 j3 j4 j5
  go_region
  go_wp2_with fail
  obtain ⟨T1, h1⟩ : ∃ T1, (U.alloc (.cells #[.pointer (some ⟨g, 0, none⟩), .int .i64 LL.length] 74)).setCell ⟨w.heap.size, 0, none⟩ (.pointer (some ⟨U.heap.size, 0, none⟩)) = T1 := ⟨_, rfl⟩
  obtain ⟨T2, h2⟩ : ∃ T2, T1.setCell ⟨w.heap.size + 1, 0, none⟩ (.slice As (bs (recP d.S)).length cs) = T2 := ⟨_, rfl⟩
  obtain ⟨T3, h3⟩ : ∃ T3, T2.setCell ⟨w.heap.size + 1 + 1, 0, none⟩ (.slice Al LL.length cl) = T3 := ⟨_, rfl⟩
  obtain ⟨T4, h4⟩ : ∃ T4, T3.setCell ⟨w.heap.size + 1 + 1 + 1, 0, none⟩ (.int .i64 K) = T4 := ⟨_, rfl⟩
  rw [h1, h2, h3, h4]
  have g1 : (U.alloc (.cells #[.pointer (some ⟨g, 0, none⟩), .int .i64 LL.length] 74)).grownBy T1 (some w.heap.size) := by subst h1; exact only_set (only_refl _ _) (.inl rfl) _
  have g2 : T1.grownBy T2 (some (w.heap.size + 1)) := by subst h2; exact only_set (only_refl _ _) (.inl rfl) _
  have g3 : T2.grownBy T3 (some (w.heap.size + 1 + 1)) := by subst h3; exact only_set (only_refl _ _) (.inl rfl) _
  have g4 : T3.grownBy T4 (some (w.heap.size + 1 + 1 + 1)) := by subst h4; exact only_set (only_refl _ _) (.inl rfl) _
  have zz : (U.alloc (.cells #[.pointer (some ⟨g, 0, none⟩), .int .i64 LL.length] 74)).heap.size = U.heap.size + 1 := by simp
  have y1 := g1.size
  have y2 := g2.size
  have y3 := g3.size
  have y4 := g4.size
  have A12 : T1.heap[w.heap.size]? = some (.cells #[.pointer (some ⟨U.heap.size, 0, none⟩)] 32 (0, 0)) := by subst h1; exact set_here v2 _
  have A13 : T1.heap[w.heap.size + 1]? = some (.cells #[.slice As (bs (recP d.S)).length cs] 33 (0, 0)) := by subst h1; exact set_else v3 _ (by first | (dsimp only; omega) | omega)
  have A14 : T1.heap[w.heap.size + 1 + 1]? = some (.cells #[.slice Al LL.length cl] 34 (0, 0)) := by subst h1; exact set_else v4 _ (by first | (dsimp only; omega) | omega)
  have A15 : T1.heap[w.heap.size + 1 + 1 + 1]? = some (.cells #[.int .i64 K] 26 (0, 0)) := by subst h1; exact set_else v5 _ (by first | (dsimp only; omega) | omega)
  have A22 : T2.heap[w.heap.size]? = some (.cells #[.pointer (some ⟨U.heap.size, 0, none⟩)] 32 (0, 0)) := by subst h2; exact set_else A12 _ (by first | (dsimp only; omega) | omega)
  have A23 : T2.heap[w.heap.size + 1]? = some (.cells #[.slice As (bs (recP d.S)).length cs] 33 (0, 0)) := by subst h2; exact set_here A13 _
  have A24 : T2.heap[w.heap.size + 1 + 1]? = some (.cells #[.slice Al LL.length cl] 34 (0, 0)) := by subst h2; exact set_else A14 _ (by first | (dsimp only; omega) | omega)
  have A25 : T2.heap[w.heap.size + 1 + 1 + 1]? = some (.cells #[.int .i64 K] 26 (0, 0)) := by subst h2; exact set_else A15 _ (by first | (dsimp only; omega) | omega)
  have A32 : T3.heap[w.heap.size]? = some (.cells #[.pointer (some ⟨U.heap.size, 0, none⟩)] 32 (0, 0)) := by subst h3; exact set_else A22 _ (by first | (dsimp only; omega) | omega)
  have A33 : T3.heap[w.heap.size + 1]? = some (.cells #[.slice As (bs (recP d.S)).length cs] 33 (0, 0)) := by subst h3; exact set_else A23 _ (by first | (dsimp only; omega) | omega)
  have A34 : T3.heap[w.heap.size + 1 + 1]? = some (.cells #[.slice Al LL.length cl] 34 (0, 0)) := by subst h3; exact set_here A24 _
  have A35 : T3.heap[w.heap.size + 1 + 1 + 1]? = some (.cells #[.int .i64 K] 26 (0, 0)) := by subst h3; exact set_else A25 _ (by first | (dsimp only; omega) | omega)
  have x2 : T4.heap[w.heap.size]? = some (.cells #[.pointer (some ⟨U.heap.size, 0, none⟩)] 32 (0, 0)) := by subst h4; exact set_else A32 _ (by first | (dsimp only; omega) | omega)
  have x3 : T4.heap[w.heap.size + 1]? = some (.cells #[.slice As (bs (recP d.S)).length cs] 33 (0, 0)) := by subst h4; exact set_else A33 _ (by first | (dsimp only; omega) | omega)
  have x4 : T4.heap[w.heap.size + 1 + 1]? = some (.cells #[.slice Al LL.length cl] 34 (0, 0)) := by subst h4; exact set_else A34 _ (by first | (dsimp only; omega) | omega)
  have x5 : T4.heap[w.heap.size + 1 + 1 + 1]? = some (.cells #[.int .i64 K] 26 (0, 0)) := by subst h4; exact set_here A35 _
  have x6 : Jn T4 U.heap.size g LL.length := ((g4.block _ (by omega) (by intro e; injection e with e; omega)).trans ((g3.block _ (by omega) (by intro e; injection e with e; omega)).trans ((g2.block _ (by omega) (by intro e; injection e with e; omega)).trans (g1.block _ (by omega) (by intro e; injection e with e; omega))))).trans v6
  have R6 : RL T4 Y.heap.size (.slice Al LL.length cl) LL := RL.apart (RL.apart (RL.apart (RL.apart R2.out (by omega) v2 (fun n => by simp) g1) (by omega) A13 (fun n => by simp) g2) (by omega) A24 (fun n => by simp) g3) (by omega) A35 (fun n => by simp) g4
  have D6 : Dk T4 B g d' := Dk.apart (Dk.apart (Dk.apart (Dk.apart D2.out v2 (by decide) (by omega) g1) A13 (by decide) (by omega) g2) A24 (by decide) (by omega) g3) A35 (by decide) (by omega) g4
  have gT : w.grownBy T4 (some g) := only_step (only_step (only_step (only_step (only_alloc gU _) g1 (fun k hk => by cases hk; right; omega)) g2 (fun k hk => by cases hk; right; omega)) g3 (fun k hk => by cases hk; right; omega)) g4 (fun k hk => by cases hk; right; omega)
  obtain ⟨q2, r2⟩ := hcell x2
  obtain ⟨q3, r3⟩ := hcell x3
  obtain ⟨q4, r4⟩ := hcell x4
  obtain ⟨q5, r5⟩ := hcell x5
  clear h1 h2 h3 h4 A12 A13 A14 A15 A22 A23 A24 A25 A32 A33 A34 A35 v2 v3 v4 v5 v6 a2 a3 a4 a5 e2 e3 e4 e5
  obtain ⟨T, hTT⟩ : ∃ T, T4.drew = T := ⟨_, rfl⟩
  have X2 : T.heap[w.heap.size]? = some (.cells #[.pointer (some ⟨U.heap.size, 0, none⟩)] 32 (0, 0)) := by subst hTT; exact x2
  have X3 : T.heap[w.heap.size + 1]? = some (.cells #[.slice As (bs (recP d.S)).length cs] 33 (0, 0)) := by subst hTT; exact x3
  have X4 : T.heap[w.heap.size + 1 + 1]? = some (.cells #[.slice Al LL.length cl] 34 (0, 0)) := by subst hTT; exact x4
  have X5 : T.heap[w.heap.size + 1 + 1 + 1]? = some (.cells #[.int .i64 K] 26 (0, 0)) := by subst hTT; exact x5
  have D7 : Dk T B g d' := by subst hTT; exact D6
  have gT' : w.grownBy T (some g) := by subst hTT; exact only_drew gT
  have zT : T4.heap.size = T.heap.size := by subst hTT; rfl
  obtain ⟨q2', r2'⟩ := hcell X2
  obtain ⟨q3', r3'⟩ := hcell X3
  obtain ⟨q4', r4'⟩ := hcell X4
  obtain ⟨q5', r5'⟩ := hcell X5
  rw [hTT]
  clear hTT q2 q3 q4 q5 r2 r3 r4 r5
  refine leaves_cons (f := 32) (args := #[.pointer (some ⟨w.heap.size + 1 + 1 + 1, 0, none⟩), .pointer (some ⟨w.heap.size, 0, none⟩), .pointer (some ⟨w.heap.size + 1, 0, none⟩), .pointer (some ⟨w.heap.size + 1 + 1, 0, none⟩)]) (by simp) (by simp [go_sem]) ?_
  refine (close_bad _ _ _ _ K _ _ _ T hE q5' q2' q3' q4' r2' r3' r4' (by omega) (by omega) (by omega)).mono ?_
  rintro e u' w'' ⟨rfl, rfl, hw⟩
  obtain ⟨S1, k1⟩ : ∃ S1, T.setCell ⟨w.heap.size, 0, none⟩ (.pointer none) = S1 := ⟨_, rfl⟩
  obtain ⟨S2, k2⟩ : ∃ S2, S1.setCell ⟨w.heap.size + 1, 0, none⟩ (.slice none 0 0) = S2 := ⟨_, rfl⟩
  rw [k1, k2] at hw
  have G1 : T.grownBy S1 (some w.heap.size) := by subst k1; exact only_set (only_refl _ _) (.inl rfl) _
  have G2 : S1.grownBy S2 (some (w.heap.size + 1)) := by subst k2; exact only_set (only_refl _ _) (.inl rfl) _
  have G3 : S2.grownBy w'' (some (w.heap.size + 1 + 1)) := by subst hw; exact only_set (only_refl _ _) (.inl rfl) _
  have B12 : S1.heap[w.heap.size]? = some (.cells #[.pointer none] 32 (0, 0)) := by subst k1; exact set_here X2 _
  have B13 : S1.heap[w.heap.size + 1]? = some (.cells #[.slice As (bs (recP d.S)).length cs] 33 (0, 0)) := by subst k1; exact set_else X3 _ (by first | (dsimp only; omega) | omega)
  have B14 : S1.heap[w.heap.size + 1 + 1]? = some (.cells #[.slice Al LL.length cl] 34 (0, 0)) := by subst k1; exact set_else X4 _ (by first | (dsimp only; omega) | omega)
  have B15 : S1.heap[w.heap.size + 1 + 1 + 1]? = some (.cells #[.int .i64 K] 26 (0, 0)) := by subst k1; exact set_else X5 _ (by first | (dsimp only; omega) | omega)
  have B22 : S2.heap[w.heap.size]? = some (.cells #[.pointer none] 32 (0, 0)) := by subst k2; exact set_else B12 _ (by first | (dsimp only; omega) | omega)
  have B23 : S2.heap[w.heap.size + 1]? = some (.cells #[.slice none 0 0] 33 (0, 0)) := by subst k2; exact set_here B13 _
  have B24 : S2.heap[w.heap.size + 1 + 1]? = some (.cells #[.slice Al LL.length cl] 34 (0, 0)) := by subst k2; exact set_else B14 _ (by first | (dsimp only; omega) | omega)
  have B25 : S2.heap[w.heap.size + 1 + 1 + 1]? = some (.cells #[.int .i64 K] 26 (0, 0)) := by subst k2; exact set_else B15 _ (by first | (dsimp only; omega) | omega)
  have z2 : w''.heap[w.heap.size]? = some (.cells #[.pointer none] 32 (0, 0)) := by subst hw; exact set_else B22 _ (by first | (dsimp only; omega) | omega)
  have z3 : w''.heap[w.heap.size + 1]? = some (.cells #[.slice none 0 0] 33 (0, 0)) := by subst hw; exact set_else B23 _ (by first | (dsimp only; omega) | omega)
  have z4 : w''.heap[w.heap.size + 1 + 1]? = some (.cells #[.slice none 0 0] 34 (0, 0)) := by subst hw; exact set_here B24 _
  have z5 : w''.heap[w.heap.size + 1 + 1 + 1]? = some (.cells #[.int .i64 K] 26 (0, 0)) := by subst hw; exact set_else B25 _ (by first | (dsimp only; omega) | omega)
  have D9 : Dk w'' B g d' := Dk.apart (Dk.apart (Dk.apart D7 X2 (by decide) (by omega) G1) B13 (by decide) (by omega) G2) B24 (by decide) (by omega) G3
  have gz : w.grownBy w'' (some g) := only_step (only_step (only_step gT' G1 (fun k hk => by cases hk; right; omega)) G2 (fun k hk => by cases hk; right; omega)) G3 (fun k hk => by cases hk; right; omega)
  have q2 := (hcell z2).1
  have q3 := (hcell z3).1
  have q4 := (hcell z4).1
  have q5 := (hcell z5).1
  simp
  simp [Leaves, settle, results, Tryd.results12, go_sem, q2, q3, q4, q5]
  exact ⟨D9, gz⟩
end Go.Proofs.YtpfahfakinonnaaDoor
