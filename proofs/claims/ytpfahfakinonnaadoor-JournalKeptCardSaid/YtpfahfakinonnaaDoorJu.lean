/- journal.Open of a disk whose log is frames and nothing else. No condition of the program's own. -/
import Derived.Test.YtpfahfakinonnaaDoorJt
import Derived.Test.YtpfahfakinonnaaDoorGsn
import Derived.RegionTactic
import Derived.ChangeAlike
import Derived.BigRegion
namespace Go.Proofs.YtpfahfakinonnaaDoor
open Go.RowKit Go.Deep
theorem RL.apart {w w' : World} {base k : Nat} {v : Value} {L : List (List Int)} {u : Value} {T : TypeId} {m : Nat × Nat} (h : RL w base v L) (hk : k < base) (hc : w.heap[k]? = some (.cells #[u] T m)) (hu : ∀ n, u ≠ .int .u8 n) (hg : w.grownBy w' (some k)) : RL w' base v L := by
  obtain ⟨es, ho, he⟩ := h
  refine ⟨es, ho.kept hg ?_, fun i x hx => ?_⟩
  · rcases own_at ho with h | ⟨q, h, hq⟩
    · exact .inl h
    · right; rw [h]; intro e; injection e with e; omega
  obtain ⟨A, c, h1, h2, h3⟩ := he i x hx
  refine ⟨A, c, h1, h2, ?_⟩
  rcases h3 with h3 | ⟨b, off, rfl, hb, hv, hcl⟩
  · exact .inl h3
  cases x with
  | nil => exact .inl rfl
  | cons x0 xs =>
    right
    have hbk : b ≠ k := by
      rintro rfl
      have h0 := hcl 0 (.int .u8 x0) (by simp [bs])
      unfold World.cell? at h0
      rw [show w.heap[(⟨b, off + 0, none⟩ : Addr).block]? = _ from hc] at h0
      cases off with
      | zero => exact hu x0 (by simpa using h0)
      | succ n => simp at h0
    exact ⟨b, off, rfl, Nat.lt_of_lt_of_le hb hg.size, hv, fun j u hu => (World.cell?_of_block (hg.block b hb (by intro e; injection e with e; exact hbk e))).trans (hcl j u hu)⟩
theorem RL.base {w : World} {base base' : Nat} {v : Value} {L : List (List Int)} (h : RL w base v L) (hb : base' ≤ base) : RL w base' v L := by
  obtain ⟨es, ho, he⟩ := h
  exact ⟨es, own_mono ho hb, he⟩
set_option maxRecDepth 100000 in
set_option maxHeartbeats 2000000 in
theorem open_rows0 (B g : Nat) (d : DS) (w : World) (h : Dk w B g d) (hd : d.dd = false) (hS : d.S = []) (bL : ∀ x ∈ d.L, 0 ≤ x ∧ x ≤ 255) (lL : d.L.length ≤ 4294967296) (hN : (scanP d.L).2 = d.L.length) (hT : Tab w) :
    Calls Tryd.prog 12 #[.pointer (some ⟨g, 0, none⟩)] w fun e w' => ∃ q lv, e = .returned (.tuple #[.pointer (some ⟨q, 0, none⟩), .slice none 0 0, lv, .int .i64 0]) ∧ RL w' w.heap.size lv (scanP d.L).1 ∧ Jn w' q g (scanP d.L).1.length ∧ w.heap.size ≤ q ∧ w.grownBy w' none := by
  have hmf : ∀ (fn : Fn) (first cap : Array Value) (w : World), (Instr.makeFunc fn first cap).run Tryd.prog w = .ok (.func fn first cap) w := fun _ _ _ _ => rfl
  obtain ⟨V, hV⟩ : ∃ V, (((w.alloc (.cells #[.pointer none] 32)).alloc (.cells #[.slice none 0 0] 33)).alloc (.cells #[.slice none 0 0] 34)).alloc (.cells #[.int .i64 0] 26) = V := ⟨_, rfl⟩
  obtain ⟨b2, b3, b4, b5, gV, sV⟩ := four_new w _ _ _ _ _ _ _ _ hV
  have DV := Lib.hid (h.below gV)
  have TV := Lib.hid (hT.grow gV)
  have glt := h.lt
  obtain ⟨LL, hLL⟩ : ∃ LL, (scanP d.L).1 = LL := ⟨_, rfl⟩
  rw [hLL]
  obtain ⟨c2, f2⟩ := hcell b2
  obtain ⟨c3, f3⟩ := hcell b3
  obtain ⟨c4, f4⟩ := hcell b4
  obtain ⟨c5, f5⟩ := hcell b5
  have HW := Lib.hid h
  have TW := Lib.hid hT
  clear h hT
  go_enter_defers Tryd.func12, Tryd.ntmps12
  go_wp2_with fail
  refine (dead_any B g d _ DV).mono ?_
  rintro _ _ ⟨rfl, rfl⟩
  rw [hd]
  go_wp2_with fail
  refine (snap_any B g d _ DV.out (by rw [hS]; simp)).mono ?_
  rintro _ X ⟨⟨v, rfl, hv⟩, gX⟩
  obtain ⟨A, c, rfl⟩ := own_slice hv
  have DX := Lib.hid (DV.out.below gX)
  have TX := Lib.hid (TV.out.grow gX)
  have t0 : d.S.length = 0 := by rw [hS]; rfl
  rw [t0]
  go_wp2_with fail
  have zX := gX.size
  have gwX : w.grownBy X none := only_step gV gX (fun _ hk => .inl hk)
  have d2 := (gX.block _ (by omega) (by simp)).trans b2
  have d3 := (gX.block _ (by omega) (by simp)).trans b3
  have d4 := (gX.block _ (by omega) (by simp)).trans b4
  have d5 := (gX.block _ (by omega) (by simp)).trans b5
  clear b2 b3 b4 b5
  clear c2 c3 c4 c5 f2 f3 f4 f5
  refine (log_any B g d _ DX.out (by omega)).mono ?_
  rintro _ Y ⟨⟨v, rfl, hy⟩, gY⟩
  obtain ⟨A', c', rfl⟩ := own_slice hy
  have TY := Lib.hid (TX.out.grow gY)
  go_wp2_with fail
  have SC := scan_any A' c' d.L Y (Has.own hy) bL lL (own_cap hy) TY.out
  rw [hLL, hN] at SC
  refine SC.mono ?_
  rintro _ Z ⟨lv, rfl, hr, gZ⟩
  have gXZ : X.grownBy Z none := only_step gY gZ (fun _ hk => .inl hk)
  have zY := gY.size
  have zZ := gZ.size
  obtain ⟨Al, cl, rfl⟩ := hr.form
  have i2 := (gXZ.block _ (by omega) (by simp)).trans d2
  have i3 := (gXZ.block _ (by omega) (by simp)).trans d3
  have i4 := (gXZ.block _ (by omega) (by simp)).trans d4
  have i5 := (gXZ.block _ (by omega) (by simp)).trans d5
  obtain ⟨c2, f2⟩ := hcell i2
  obtain ⟨c3, f3⟩ := hcell i3
  obtain ⟨c4, f4⟩ := hcell i4
  obtain ⟨c5, f5⟩ := hcell i5
  go_wp2_with fail
  obtain ⟨U, hU⟩ : ∃ U, Z.setCell ⟨w.heap.size + 1 + 1, 0, none⟩ (.slice Al LL.length cl) = U := ⟨_, rfl⟩
  have gZU : Z.grownBy U (some (w.heap.size + 1 + 1)) := by subst hU; exact only_set (only_refl _ _) (.inl rfl) _
  have u2 : U.heap[w.heap.size]? = some (.cells #[.pointer none] 32 (0, 0)) := by
    subst hU
    exact set_else i2 _ (by first | (dsimp only; omega) | omega)
  have u3 : U.heap[w.heap.size + 1]? = some (.cells #[.slice none 0 0] 33 (0, 0)) := by
    subst hU
    exact set_else i3 _ (by first | (dsimp only; omega) | omega)
  have u4 : U.heap[w.heap.size + 1 + 1]? = some (.cells #[.slice Al LL.length cl] 34 (0, 0)) := by
    subst hU
    exact set_here i4 _
  have u5 : U.heap[w.heap.size + 1 + 1 + 1]? = some (.cells #[.int .i64 0] 26 (0, 0)) := by
    subst hU
    exact set_else i5 _ (by first | (dsimp only; omega) | omega)
  have gU : w.grownBy U none := only_step (only_step gwX gXZ (fun _ hk => .inl hk)) gZU (fun k hk => by cases hk; right; omega)
  have zU := gZU.size
  rw [hU]
  clear c2 c3 c4 c5 f2 f3 f4 f5
  obtain ⟨c2, f2⟩ := hcell u2
  obtain ⟨c3, f3⟩ := hcell u3
  obtain ⟨c4, f4⟩ := hcell u4
  obtain ⟨c5, f5⟩ := hcell u5
  have v2 : (U.alloc (.cells #[.pointer (some ⟨g, 0, none⟩), .int .i64 LL.length] 74)).heap[w.heap.size]? = some (.cells #[.pointer none] 32 (0, 0)) := (Below.heap_alloc _ _ _ (by first | (dsimp only; omega) | omega)).trans u2
  have v3 : (U.alloc (.cells #[.pointer (some ⟨g, 0, none⟩), .int .i64 LL.length] 74)).heap[w.heap.size + 1]? = some (.cells #[.slice none 0 0] 33 (0, 0)) := (Below.heap_alloc _ _ _ (by first | (dsimp only; omega) | omega)).trans u3
  have v4 : (U.alloc (.cells #[.pointer (some ⟨g, 0, none⟩), .int .i64 LL.length] 74)).heap[w.heap.size + 1 + 1]? = some (.cells #[.slice Al LL.length cl] 34 (0, 0)) := (Below.heap_alloc _ _ _ (by first | (dsimp only; omega) | omega)).trans u4
  have v5 : (U.alloc (.cells #[.pointer (some ⟨g, 0, none⟩), .int .i64 LL.length] 74)).heap[w.heap.size + 1 + 1 + 1]? = some (.cells #[.int .i64 0] 26 (0, 0)) := (Below.heap_alloc _ _ _ (by first | (dsimp only; omega) | omega)).trans u5
  have v6 : (U.alloc (.cells #[.pointer (some ⟨g, 0, none⟩), .int .i64 LL.length] 74)).heap[U.heap.size]? = some (.cells #[.pointer (some ⟨g, 0, none⟩), .int .i64 LL.length] 74 (0, 0)) := heap_alloc_new U _
  obtain ⟨a2, e2⟩ := hcell v2
  obtain ⟨a3, e3⟩ := hcell v3
  obtain ⟨a4, e4⟩ := hcell v4
  obtain ⟨a5, e5⟩ := hcell v5
  have HR := Lib.hid hr
  clear hmf DV TV DX TX TY hy gY gZ hr SC hU d2 d3 d4 d5 hV gV
  have R1 : RL U Y.heap.size (.slice Al LL.length cl) LL := by
    refine RL.apart HR.out (k := w.heap.size + 1 + 1) (by omega) i4 (fun n => by simp) gZU
  have R2 : RL (U.alloc (.cells #[.pointer (some ⟨g, 0, none⟩), .int .i64 LL.length] 74)) Y.heap.size (.slice Al LL.length cl) LL := R1.grow (World.grownBy_alloc _ _ none)
  clear i2 i3 i4 i5
  go_region
  go_wp2_with fail
  obtain ⟨T1, h1⟩ : ∃ T1, (U.alloc (.cells #[.pointer (some ⟨g, 0, none⟩), .int .i64 LL.length] 74)).setCell ⟨w.heap.size, 0, none⟩ (.pointer (some ⟨U.heap.size, 0, none⟩)) = T1 := ⟨_, rfl⟩
  obtain ⟨T2, h2⟩ : ∃ T2, T1.setCell ⟨w.heap.size + 1, 0, none⟩ (.slice none 0 0) = T2 := ⟨_, rfl⟩
  obtain ⟨T3, h3⟩ : ∃ T3, T2.setCell ⟨w.heap.size + 1 + 1, 0, none⟩ (.slice Al LL.length cl) = T3 := ⟨_, rfl⟩
  obtain ⟨T4, h4⟩ : ∃ T4, T3.setCell ⟨w.heap.size + 1 + 1 + 1, 0, none⟩ (.int .i64 0) = T4 := ⟨_, rfl⟩
  rw [h1, h2, h3, h4]
  have g1 : (U.alloc (.cells #[.pointer (some ⟨g, 0, none⟩), .int .i64 LL.length] 74)).grownBy T1 (some w.heap.size) := by subst h1; exact only_set (only_refl _ _) (.inl rfl) _
  have g2 : T1.grownBy T2 (some (w.heap.size + 1)) := by subst h2; exact only_set (only_refl _ _) (.inl rfl) _
  have g3 : T2.grownBy T3 (some (w.heap.size + 1 + 1)) := by subst h3; exact only_set (only_refl _ _) (.inl rfl) _
  have g4 : T3.grownBy T4 (some (w.heap.size + 1 + 1 + 1)) := by subst h4; exact only_set (only_refl _ _) (.inl rfl) _
  have zz : (U.alloc (.cells #[.pointer (some ⟨g, 0, none⟩), .int .i64 LL.length] 74)).heap.size = U.heap.size + 1 := by simp
  have y1 := g1.size
  have y2 := g2.size
  have y3 := g3.size
  have y4 := g4.size
  have A12 : T1.heap[w.heap.size]? = some (.cells #[.pointer (some ⟨U.heap.size, 0, none⟩)] 32 (0, 0)) := by subst h1; exact set_here v2 _
  have A13 : T1.heap[w.heap.size + 1]? = some (.cells #[.slice none 0 0] 33 (0, 0)) := by subst h1; exact set_else v3 _ (by first | (dsimp only; omega) | omega)
  have A14 : T1.heap[w.heap.size + 1 + 1]? = some (.cells #[.slice Al LL.length cl] 34 (0, 0)) := by subst h1; exact set_else v4 _ (by first | (dsimp only; omega) | omega)
  have A15 : T1.heap[w.heap.size + 1 + 1 + 1]? = some (.cells #[.int .i64 0] 26 (0, 0)) := by subst h1; exact set_else v5 _ (by first | (dsimp only; omega) | omega)
  have A22 : T2.heap[w.heap.size]? = some (.cells #[.pointer (some ⟨U.heap.size, 0, none⟩)] 32 (0, 0)) := by subst h2; exact set_else A12 _ (by first | (dsimp only; omega) | omega)
  have A23 : T2.heap[w.heap.size + 1]? = some (.cells #[.slice none 0 0] 33 (0, 0)) := by subst h2; exact set_here A13 _
  have A24 : T2.heap[w.heap.size + 1 + 1]? = some (.cells #[.slice Al LL.length cl] 34 (0, 0)) := by subst h2; exact set_else A14 _ (by first | (dsimp only; omega) | omega)
  have A25 : T2.heap[w.heap.size + 1 + 1 + 1]? = some (.cells #[.int .i64 0] 26 (0, 0)) := by subst h2; exact set_else A15 _ (by first | (dsimp only; omega) | omega)
  have A32 : T3.heap[w.heap.size]? = some (.cells #[.pointer (some ⟨U.heap.size, 0, none⟩)] 32 (0, 0)) := by subst h3; exact set_else A22 _ (by first | (dsimp only; omega) | omega)
  have A33 : T3.heap[w.heap.size + 1]? = some (.cells #[.slice none 0 0] 33 (0, 0)) := by subst h3; exact set_else A23 _ (by first | (dsimp only; omega) | omega)
  have A34 : T3.heap[w.heap.size + 1 + 1]? = some (.cells #[.slice Al LL.length cl] 34 (0, 0)) := by subst h3; exact set_here A24 _
  have A35 : T3.heap[w.heap.size + 1 + 1 + 1]? = some (.cells #[.int .i64 0] 26 (0, 0)) := by subst h3; exact set_else A25 _ (by first | (dsimp only; omega) | omega)
  have x2 : T4.heap[w.heap.size]? = some (.cells #[.pointer (some ⟨U.heap.size, 0, none⟩)] 32 (0, 0)) := by subst h4; exact set_else A32 _ (by first | (dsimp only; omega) | omega)
  have x3 : T4.heap[w.heap.size + 1]? = some (.cells #[.slice none 0 0] 33 (0, 0)) := by subst h4; exact set_else A33 _ (by first | (dsimp only; omega) | omega)
  have x4 : T4.heap[w.heap.size + 1 + 1]? = some (.cells #[.slice Al LL.length cl] 34 (0, 0)) := by subst h4; exact set_else A34 _ (by first | (dsimp only; omega) | omega)
  have x5 : T4.heap[w.heap.size + 1 + 1 + 1]? = some (.cells #[.int .i64 0] 26 (0, 0)) := by subst h4; exact set_here A35 _
  have x6 : Jn T4 U.heap.size g LL.length := ((g4.block _ (by omega) (by intro e; injection e with e; omega)).trans ((g3.block _ (by omega) (by intro e; injection e with e; omega)).trans ((g2.block _ (by omega) (by intro e; injection e with e; omega)).trans (g1.block _ (by omega) (by intro e; injection e with e; omega))))).trans v6
  have R6 : RL T4 Y.heap.size (.slice Al LL.length cl) LL := RL.apart (RL.apart (RL.apart (RL.apart R2 (by omega) v2 (fun n => by simp) g1) (by omega) A13 (fun n => by simp) g2) (by omega) A24 (fun n => by simp) g3) (by omega) A35 (fun n => by simp) g4
  have gT : w.grownBy T4 none := only_step (only_step (only_step (only_step (only_alloc gU _) g1 (fun k hk => by cases hk; right; omega)) g2 (fun k hk => by cases hk; right; omega)) g3 (fun k hk => by cases hk; right; omega)) g4 (fun k hk => by cases hk; right; omega)
  have q2 := (hcell x2).1
  have q3 := (hcell x3).1
  have q4 := (hcell x4).1
  have q5 := (hcell x5).1
  clear h1 h2 h3 h4 A12 A13 A14 A15 A22 A23 A24 A25 A32 A33 A34 A35 v2 v3 v4 v5 v6 a2 a3 a4 a5 e2 e3 e4 e5 R1 R2
  refine leaves_cons (f := 32) (args := #[.pointer (some ⟨w.heap.size + 1 + 1 + 1, 0, none⟩), .pointer (some ⟨w.heap.size, 0, none⟩), .pointer (some ⟨w.heap.size + 1, 0, none⟩), .pointer (some ⟨w.heap.size + 1 + 1, 0, none⟩)]) (by simp) (by simp [go_sem]) ?_
  refine (close_ok _ _ _ _ T4.drew q5).mono ?_
  rintro e u' w'' ⟨rfl, rfl, rfl⟩
  have q2' : T4.drew.cell? ⟨w.heap.size, 0, none⟩ = _ := q2
  have q3' : T4.drew.cell? ⟨w.heap.size + 1, 0, none⟩ = _ := q3
  have q4' : T4.drew.cell? ⟨w.heap.size + 1 + 1, 0, none⟩ = _ := q4
  have q5' : T4.drew.cell? ⟨w.heap.size + 1 + 1 + 1, 0, none⟩ = _ := q5
  simp
  simp [Leaves, settle, results, Tryd.results12, go_sem, q2', q3', q4', q5']
  exact ⟨U.heap.size, _, ⟨rfl, rfl⟩, R6.base (by omega), x6, by omega, only_drew gT⟩
set_option maxRecDepth 100000 in
set_option maxHeartbeats 2000000 in
theorem open_rows1 (B g : Nat) (d : DS) (w : World) (h : Dk w B g d) (hd : d.dd = false) (h0 : 0 < d.S.length) (hl : d.S.length ≤ 1099511627776) (hb : ∀ x ∈ d.S, 0 ≤ x ∧ x ≤ 255) (ho : oneE d.S = 0) (bL : ∀ x ∈ d.L, 0 ≤ x ∧ x ≤ 255) (lL : d.L.length ≤ 4294967296) (hN : (scanP d.L).2 = d.L.length) (hT : Tab w) :
    Calls Tryd.prog 12 #[.pointer (some ⟨g, 0, none⟩)] w fun e w' => ∃ q sv lv, e = .returned (.tuple #[.pointer (some ⟨q, 0, none⟩), sv, lv, .int .i64 0]) ∧ w'.ownsRow w.heap.size 5 1 sv (bs (recP d.S)).length (bs (recP d.S)) ∧ RL w' w.heap.size lv (scanP d.L).1 ∧ Jn w' q g (scanP d.L).1.length ∧ w.heap.size ≤ q ∧ w.grownBy w' none := by
  have hmf : ∀ (fn : Fn) (first cap : Array Value) (w : World), (Instr.makeFunc fn first cap).run Tryd.prog w = .ok (.func fn first cap) w := fun _ _ _ _ => rfl
  obtain ⟨V, hV⟩ : ∃ V, (((w.alloc (.cells #[.pointer none] 32)).alloc (.cells #[.slice none 0 0] 33)).alloc (.cells #[.slice none 0 0] 34)).alloc (.cells #[.int .i64 0] 26) = V := ⟨_, rfl⟩
  obtain ⟨b2, b3, b4, b5, gV, sV⟩ := four_new w _ _ _ _ _ _ _ _ hV
  have DV := Lib.hid (h.below gV)
  have TV := Lib.hid (hT.grow gV)
  have glt := h.lt
  obtain ⟨LL, hLL⟩ : ∃ LL, (scanP d.L).1 = LL := ⟨_, rfl⟩
  rw [hLL]
  obtain ⟨c2, f2⟩ := hcell b2
  obtain ⟨c3, f3⟩ := hcell b3
  obtain ⟨c4, f4⟩ := hcell b4
  obtain ⟨c5, f5⟩ := hcell b5
  have HW := Lib.hid h
  have TW := Lib.hid hT
  clear h hT
  go_enter_defers Tryd.func12, Tryd.ntmps12
  go_wp2_with fail
  refine (dead_any B g d _ DV).mono ?_
  rintro _ _ ⟨rfl, rfl⟩
  rw [hd]
  go_wp2_with fail
  refine (snap_any B g d _ DV.out hl).mono ?_
  rintro _ X0 ⟨⟨v, rfl, hv⟩, gX0⟩
  obtain ⟨A, c, rfl⟩ := own_slice hv
  have TX0 := Lib.hid (TV.out.grow gX0)
  have t0 : (0 : Int) < d.S.length := by omega
  go_wp2_with fail
  refine (one_any A c d.S X0 (Has.own hv) hb hl (own_cap hv) TX0.out).mono ?_
  rintro _ Y0 ⟨s, rfl, hs, gY0⟩
  have gVY : V.grownBy Y0 none := only_step gX0 gY0 (fun _ hk => .inl hk)
  have zX0 := gX0.size
  have zY0 := gY0.size
  have i2 := (gVY.block _ (by omega) (by simp)).trans b2
  have i3 := (gVY.block _ (by omega) (by simp)).trans b3
  have i4 := (gVY.block _ (by omega) (by simp)).trans b4
  have i5 := (gVY.block _ (by omega) (by simp)).trans b5
  rw [ho]
  have os : Y0.ownsRow w.heap.size 5 1 s (bs (recP d.S)).length (bs (recP d.S)) := by
    unfold OneV at hs; rw [if_pos ho] at hs
    exact own_mono hs (by omega)
  have oat : s.ownBlock = none ∨ ∃ k, s.ownBlock = some k ∧ w.heap.size + 4 ≤ k := by
    unfold OneV at hs; rw [if_pos ho] at hs
    rcases own_at hs with h | ⟨k, h, hk⟩
    · exact .inl h
    · exact .inr ⟨k, h, by omega⟩
  obtain ⟨As, cs, rfl⟩ := own_slice os
  clear c2 c3 c4 c5 f2 f3 f4 f5 hs b2 b3 b4 b5
  obtain ⟨c2, f2⟩ := hcell i2
  obtain ⟨c3, f3⟩ := hcell i3
  obtain ⟨c4, f4⟩ := hcell i4
  obtain ⟨c5, f5⟩ := hcell i5
  go_wp2_with fail
  obtain ⟨X1, hX1⟩ : ∃ X1, Y0.setCell ⟨w.heap.size + 1, 0, none⟩ (.slice As (bs (recP d.S)).length cs) = X1 := ⟨_, rfl⟩
  obtain ⟨X, hX⟩ : ∃ X, X1.setCell ⟨w.heap.size + 1 + 1 + 1, 0, none⟩ (.int .i64 0) = X := ⟨_, rfl⟩
  rw [hX1, hX]
  have gX1 : Y0.grownBy X1 (some (w.heap.size + 1)) := by subst hX1; exact only_set (only_refl _ _) (.inl rfl) _
  have gX2 : X1.grownBy X (some (w.heap.size + 1 + 1 + 1)) := by subst hX; exact only_set (only_refl _ _) (.inl rfl) _
  have zX1 := gX1.size
  have zX2 := gX2.size
  have d2 : X.heap[w.heap.size]? = some (.cells #[.pointer none] 32 (0, 0)) := by subst hX; subst hX1; exact set_else (set_else i2 _ (by first | (dsimp only; omega) | omega)) _ (by first | (dsimp only; omega) | omega)
  have d3 : X.heap[w.heap.size + 1]? = some (.cells #[.slice As (bs (recP d.S)).length cs] 33 (0, 0)) := by subst hX; subst hX1; exact set_else (set_here i3 _) _ (by first | (dsimp only; omega) | omega)
  have d4 : X.heap[w.heap.size + 1 + 1]? = some (.cells #[.slice none 0 0] 34 (0, 0)) := by subst hX; subst hX1; exact set_else (set_else i4 _ (by first | (dsimp only; omega) | omega)) _ (by first | (dsimp only; omega) | omega)
  have d5 : X.heap[w.heap.size + 1 + 1 + 1]? = some (.cells #[.int .i64 0] 26 (0, 0)) := by subst hX; subst hX1; exact set_here (set_else i5 _ (by first | (dsimp only; omega) | omega)) _
  have gVX : V.grownBy Y0 none := gVY
  have gwX : w.grownBy X none := only_step (only_step (only_step gV gVY (fun _ hk => .inl hk)) gX1 (fun k hk => by cases hk; right; omega)) gX2 (fun k hk => by cases hk; right; omega)
  have zX : V.heap.size ≤ X.heap.size := by have := gVY.size; omega
  have DX := Lib.hid (HW.out.below gwX)
  have TX := Lib.hid (TW.out.grow gwX)
  have OX : X.ownsRow w.heap.size 5 1 (.slice As (bs (recP d.S)).length cs) (bs (recP d.S)).length (bs (recP d.S)) := kept_other (kept_other os gX1 (fun k hk e => by cases hk; rcases oat with h | ⟨k, h, hk⟩ <;> rw [h] at e <;> cases e; omega)) gX2 (fun k hk e => by cases hk; rcases oat with h | ⟨k, h, hk⟩ <;> rw [h] at e <;> cases e; omega)
  have OO := Lib.hid OX
  have AT := Lib.hid oat
  clear i2 i3 i4 i5 os OX oat hX hX1 gX0 gY0 TX0
  clear c2 c3 c4 c5 f2 f3 f4 f5
  refine (log_any B g d _ DX.out (by omega)).mono ?_
  rintro _ Y ⟨⟨v, rfl, hy⟩, gY⟩
  obtain ⟨A', c', rfl⟩ := own_slice hy
  have TY := Lib.hid (TX.out.grow gY)
  go_wp2_with fail
  have SC := scan_any A' c' d.L Y (Has.own hy) bL lL (own_cap hy) TY.out
  rw [hLL, hN] at SC
  refine SC.mono ?_
  rintro _ Z ⟨lv, rfl, hr, gZ⟩
  have gXZ : X.grownBy Z none := only_step gY gZ (fun _ hk => .inl hk)
  have zY := gY.size
  have zZ := gZ.size
  obtain ⟨Al, cl, rfl⟩ := hr.form
  have i2 := (gXZ.block _ (by omega) (by simp)).trans d2
  have i3 := (gXZ.block _ (by omega) (by simp)).trans d3
  have i4 := (gXZ.block _ (by omega) (by simp)).trans d4
  have i5 := (gXZ.block _ (by omega) (by simp)).trans d5
  obtain ⟨c2, f2⟩ := hcell i2
  obtain ⟨c3, f3⟩ := hcell i3
  obtain ⟨c4, f4⟩ := hcell i4
  obtain ⟨c5, f5⟩ := hcell i5
  go_wp2_with fail
  obtain ⟨U, hU⟩ : ∃ U, Z.setCell ⟨w.heap.size + 1 + 1, 0, none⟩ (.slice Al LL.length cl) = U := ⟨_, rfl⟩
  have gZU : Z.grownBy U (some (w.heap.size + 1 + 1)) := by subst hU; exact only_set (only_refl _ _) (.inl rfl) _
  have u2 : U.heap[w.heap.size]? = some (.cells #[.pointer none] 32 (0, 0)) := by
    subst hU
    exact set_else i2 _ (by first | (dsimp only; omega) | omega)
  have u3 : U.heap[w.heap.size + 1]? = some (.cells #[.slice As (bs (recP d.S)).length cs] 33 (0, 0)) := by
    subst hU
    exact set_else i3 _ (by first | (dsimp only; omega) | omega)
  have u4 : U.heap[w.heap.size + 1 + 1]? = some (.cells #[.slice Al LL.length cl] 34 (0, 0)) := by
    subst hU
    exact set_here i4 _
  have u5 : U.heap[w.heap.size + 1 + 1 + 1]? = some (.cells #[.int .i64 0] 26 (0, 0)) := by
    subst hU
    exact set_else i5 _ (by first | (dsimp only; omega) | omega)
  have gU : w.grownBy U none := only_step (only_step gwX gXZ (fun _ hk => .inl hk)) gZU (fun k hk => by cases hk; right; omega)
  have zU := gZU.size
  rw [hU]
  clear c2 c3 c4 c5 f2 f3 f4 f5
  obtain ⟨c2, f2⟩ := hcell u2
  obtain ⟨c3, f3⟩ := hcell u3
  obtain ⟨c4, f4⟩ := hcell u4
  obtain ⟨c5, f5⟩ := hcell u5
  have v2 : (U.alloc (.cells #[.pointer (some ⟨g, 0, none⟩), .int .i64 LL.length] 74)).heap[w.heap.size]? = some (.cells #[.pointer none] 32 (0, 0)) := (Below.heap_alloc _ _ _ (by first | (dsimp only; omega) | omega)).trans u2
  have v3 : (U.alloc (.cells #[.pointer (some ⟨g, 0, none⟩), .int .i64 LL.length] 74)).heap[w.heap.size + 1]? = some (.cells #[.slice As (bs (recP d.S)).length cs] 33 (0, 0)) := (Below.heap_alloc _ _ _ (by first | (dsimp only; omega) | omega)).trans u3
  have v4 : (U.alloc (.cells #[.pointer (some ⟨g, 0, none⟩), .int .i64 LL.length] 74)).heap[w.heap.size + 1 + 1]? = some (.cells #[.slice Al LL.length cl] 34 (0, 0)) := (Below.heap_alloc _ _ _ (by first | (dsimp only; omega) | omega)).trans u4
  have v5 : (U.alloc (.cells #[.pointer (some ⟨g, 0, none⟩), .int .i64 LL.length] 74)).heap[w.heap.size + 1 + 1 + 1]? = some (.cells #[.int .i64 0] 26 (0, 0)) := (Below.heap_alloc _ _ _ (by first | (dsimp only; omega) | omega)).trans u5
  have v6 : (U.alloc (.cells #[.pointer (some ⟨g, 0, none⟩), .int .i64 LL.length] 74)).heap[U.heap.size]? = some (.cells #[.pointer (some ⟨g, 0, none⟩), .int .i64 LL.length] 74 (0, 0)) := heap_alloc_new U _
  obtain ⟨a2, e2⟩ := hcell v2
  obtain ⟨a3, e3⟩ := hcell v3
  obtain ⟨a4, e4⟩ := hcell v4
  obtain ⟨a5, e5⟩ := hcell v5
  have HR := Lib.hid hr
  clear hmf DV TV DX TX TY hy gY gZ hr SC hU d2 d3 d4 d5 hV gV
  have R1 : RL U Y.heap.size (.slice Al LL.length cl) LL := by
    refine RL.apart HR.out (k := w.heap.size + 1 + 1) (by omega) i4 (fun n => by simp) gZU
  have R2 : RL (U.alloc (.cells #[.pointer (some ⟨g, 0, none⟩), .int .i64 LL.length] 74)) Y.heap.size (.slice Al LL.length cl) LL := R1.grow (World.grownBy_alloc _ _ none)
  clear i2 i3 i4 i5
  go_region
  go_wp2_with fail
  obtain ⟨T1, h1⟩ : ∃ T1, (U.alloc (.cells #[.pointer (some ⟨g, 0, none⟩), .int .i64 LL.length] 74)).setCell ⟨w.heap.size, 0, none⟩ (.pointer (some ⟨U.heap.size, 0, none⟩)) = T1 := ⟨_, rfl⟩
  obtain ⟨T2, h2⟩ : ∃ T2, T1.setCell ⟨w.heap.size + 1, 0, none⟩ (.slice As (bs (recP d.S)).length cs) = T2 := ⟨_, rfl⟩
  obtain ⟨T3, h3⟩ : ∃ T3, T2.setCell ⟨w.heap.size + 1 + 1, 0, none⟩ (.slice Al LL.length cl) = T3 := ⟨_, rfl⟩
  obtain ⟨T4, h4⟩ : ∃ T4, T3.setCell ⟨w.heap.size + 1 + 1 + 1, 0, none⟩ (.int .i64 0) = T4 := ⟨_, rfl⟩
  rw [h1, h2, h3, h4]
  have g1 : (U.alloc (.cells #[.pointer (some ⟨g, 0, none⟩), .int .i64 LL.length] 74)).grownBy T1 (some w.heap.size) := by subst h1; exact only_set (only_refl _ _) (.inl rfl) _
  have g2 : T1.grownBy T2 (some (w.heap.size + 1)) := by subst h2; exact only_set (only_refl _ _) (.inl rfl) _
  have g3 : T2.grownBy T3 (some (w.heap.size + 1 + 1)) := by subst h3; exact only_set (only_refl _ _) (.inl rfl) _
  have g4 : T3.grownBy T4 (some (w.heap.size + 1 + 1 + 1)) := by subst h4; exact only_set (only_refl _ _) (.inl rfl) _
  have zz : (U.alloc (.cells #[.pointer (some ⟨g, 0, none⟩), .int .i64 LL.length] 74)).heap.size = U.heap.size + 1 := by simp
  have y1 := g1.size
  have y2 := g2.size
  have y3 := g3.size
  have y4 := g4.size
  have A12 : T1.heap[w.heap.size]? = some (.cells #[.pointer (some ⟨U.heap.size, 0, none⟩)] 32 (0, 0)) := by subst h1; exact set_here v2 _
  have A13 : T1.heap[w.heap.size + 1]? = some (.cells #[.slice As (bs (recP d.S)).length cs] 33 (0, 0)) := by subst h1; exact set_else v3 _ (by first | (dsimp only; omega) | omega)
  have A14 : T1.heap[w.heap.size + 1 + 1]? = some (.cells #[.slice Al LL.length cl] 34 (0, 0)) := by subst h1; exact set_else v4 _ (by first | (dsimp only; omega) | omega)
  have A15 : T1.heap[w.heap.size + 1 + 1 + 1]? = some (.cells #[.int .i64 0] 26 (0, 0)) := by subst h1; exact set_else v5 _ (by first | (dsimp only; omega) | omega)
  have A22 : T2.heap[w.heap.size]? = some (.cells #[.pointer (some ⟨U.heap.size, 0, none⟩)] 32 (0, 0)) := by subst h2; exact set_else A12 _ (by first | (dsimp only; omega) | omega)
  have A23 : T2.heap[w.heap.size + 1]? = some (.cells #[.slice As (bs (recP d.S)).length cs] 33 (0, 0)) := by subst h2; exact set_here A13 _
  have A24 : T2.heap[w.heap.size + 1 + 1]? = some (.cells #[.slice Al LL.length cl] 34 (0, 0)) := by subst h2; exact set_else A14 _ (by first | (dsimp only; omega) | omega)
  have A25 : T2.heap[w.heap.size + 1 + 1 + 1]? = some (.cells #[.int .i64 0] 26 (0, 0)) := by subst h2; exact set_else A15 _ (by first | (dsimp only; omega) | omega)
  have A32 : T3.heap[w.heap.size]? = some (.cells #[.pointer (some ⟨U.heap.size, 0, none⟩)] 32 (0, 0)) := by subst h3; exact set_else A22 _ (by first | (dsimp only; omega) | omega)
  have A33 : T3.heap[w.heap.size + 1]? = some (.cells #[.slice As (bs (recP d.S)).length cs] 33 (0, 0)) := by subst h3; exact set_else A23 _ (by first | (dsimp only; omega) | omega)
  have A34 : T3.heap[w.heap.size + 1 + 1]? = some (.cells #[.slice Al LL.length cl] 34 (0, 0)) := by subst h3; exact set_here A24 _
  have A35 : T3.heap[w.heap.size + 1 + 1 + 1]? = some (.cells #[.int .i64 0] 26 (0, 0)) := by subst h3; exact set_else A25 _ (by first | (dsimp only; omega) | omega)
  have x2 : T4.heap[w.heap.size]? = some (.cells #[.pointer (some ⟨U.heap.size, 0, none⟩)] 32 (0, 0)) := by subst h4; exact set_else A32 _ (by first | (dsimp only; omega) | omega)
  have x3 : T4.heap[w.heap.size + 1]? = some (.cells #[.slice As (bs (recP d.S)).length cs] 33 (0, 0)) := by subst h4; exact set_else A33 _ (by first | (dsimp only; omega) | omega)
  have x4 : T4.heap[w.heap.size + 1 + 1]? = some (.cells #[.slice Al LL.length cl] 34 (0, 0)) := by subst h4; exact set_else A34 _ (by first | (dsimp only; omega) | omega)
  have x5 : T4.heap[w.heap.size + 1 + 1 + 1]? = some (.cells #[.int .i64 0] 26 (0, 0)) := by subst h4; exact set_here A35 _
  have x6 : Jn T4 U.heap.size g LL.length := ((g4.block _ (by omega) (by intro e; injection e with e; omega)).trans ((g3.block _ (by omega) (by intro e; injection e with e; omega)).trans ((g2.block _ (by omega) (by intro e; injection e with e; omega)).trans (g1.block _ (by omega) (by intro e; injection e with e; omega))))).trans v6
  have R6 : RL T4 Y.heap.size (.slice Al LL.length cl) LL := RL.apart (RL.apart (RL.apart (RL.apart R2 (by omega) v2 (fun n => by simp) g1) (by omega) A13 (fun n => by simp) g2) (by omega) A24 (fun n => by simp) g3) (by omega) A35 (fun n => by simp) g4
  have gT : w.grownBy T4 none := only_step (only_step (only_step (only_step (only_alloc gU _) g1 (fun k hk => by cases hk; right; omega)) g2 (fun k hk => by cases hk; right; omega)) g3 (fun k hk => by cases hk; right; omega)) g4 (fun k hk => by cases hk; right; omega)
  have q2 := (hcell x2).1
  have q3 := (hcell x3).1
  have q4 := (hcell x4).1
  have q5 := (hcell x5).1
  have ne : ∀ k, k < w.heap.size + 4 → (Value.slice As (bs (recP d.S)).length cs).ownBlock ≠ some k := fun k hk e => by
    rcases AT.out with h | ⟨k', h, hk'⟩ <;> rw [h] at e <;> cases e
    omega
  have O9 : T4.ownsRow w.heap.size 5 1 (.slice As (bs (recP d.S)).length cs) (bs (recP d.S)).length (bs (recP d.S)) :=
    kept_other (kept_other (kept_other (kept_other (kept_other (kept_other (kept_other OO.out gXZ (fun _ h => by cases h)) gZU (fun k hk => by cases hk; exact ne _ (by omega))) (World.grownBy_alloc _ _ none) (fun _ h => by cases h)) g1 (fun k hk => by cases hk; exact ne _ (by omega))) g2 (fun k hk => by cases hk; exact ne _ (by omega))) g3 (fun k hk => by cases hk; exact ne _ (by omega))) g4 (fun k hk => by cases hk; exact ne _ (by omega))
  clear h1 h2 h3 h4 A12 A13 A14 A15 A22 A23 A24 A25 A32 A33 A34 A35 v2 v3 v4 v5 v6 a2 a3 a4 a5 e2 e3 e4 e5 R1 R2
  refine leaves_cons (f := 32) (args := #[.pointer (some ⟨w.heap.size + 1 + 1 + 1, 0, none⟩), .pointer (some ⟨w.heap.size, 0, none⟩), .pointer (some ⟨w.heap.size + 1, 0, none⟩), .pointer (some ⟨w.heap.size + 1 + 1, 0, none⟩)]) (by simp) (by simp [go_sem]) ?_
  refine (close_ok _ _ _ _ T4.drew q5).mono ?_
  rintro e u' w'' ⟨rfl, rfl, rfl⟩
  have q2' : T4.drew.cell? ⟨w.heap.size, 0, none⟩ = _ := q2
  have q3' : T4.drew.cell? ⟨w.heap.size + 1, 0, none⟩ = _ := q3
  have q4' : T4.drew.cell? ⟨w.heap.size + 1 + 1, 0, none⟩ = _ := q4
  have q5' : T4.drew.cell? ⟨w.heap.size + 1 + 1 + 1, 0, none⟩ = _ := q5
  simp
  simp [Leaves, settle, results, Tryd.results12, go_sem, q2', q3', q4', q5']
  have OT : T4.drew.ownsRow w.heap.size 5 1 (.slice As (bs (recP d.S)).length cs) (bs (recP d.S)).length (bs (recP d.S)) := O9
  exact ⟨U.heap.size, _, _, ⟨rfl, rfl, rfl⟩, OT, R6.base (by omega), x6, by omega, only_drew gT⟩
end Go.Proofs.YtpfahfakinonnaaDoor
