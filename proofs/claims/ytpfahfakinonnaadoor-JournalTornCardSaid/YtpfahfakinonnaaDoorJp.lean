/- journal.Open of a disk whose snapshot is none, and of an empty one. No condition of the program's own. -/
import Derived.Test.YtpfahfakinonnaaDoorJo
import Derived.RegionTactic
import Derived.ChangeAlike
import Derived.BigRegion
import Derived.Test.YtpfahfakinonnaaDoorGsc
import Derived.Test.YtpfahfakinonnaaDoorGfo
namespace Go.Proofs.YtpfahfakinonnaaDoor
open Go.RowKit Go.Deep
theorem four_new (w : World) (a b c d : Value) (ta tb tc td : TypeId) {V : World} (hV : (((w.alloc (.cells #[a] ta)).alloc (.cells #[b] tb)).alloc (.cells #[c] tc)).alloc (.cells #[d] td) = V) :
    V.heap[w.heap.size]? = some (.cells #[a] ta (0, 0)) ∧ V.heap[w.heap.size + 1]? = some (.cells #[b] tb (0, 0)) ∧ V.heap[w.heap.size + 1 + 1]? = some (.cells #[c] tc (0, 0)) ∧ V.heap[w.heap.size + 1 + 1 + 1]? = some (.cells #[d] td (0, 0)) ∧ w.grownBy V none ∧ V.heap.size = w.heap.size + 4 := by
  subst hV
  refine ⟨?_, ?_, ?_, ?_, only_alloc (only_alloc (only_alloc (only_alloc (only_refl _ _) _) _) _) _, by simp⟩
  · rw [Below.heap_alloc _ _ _ (by simp; omega), Below.heap_alloc _ _ _ (by simp; omega), Below.heap_alloc _ _ _ (by simp)]
    exact heap_alloc_new w _
  · rw [Below.heap_alloc _ _ _ (by simp), Below.heap_alloc _ _ _ (by simp)]
    have := heap_alloc_new (w.alloc (.cells #[a] ta)) (.cells #[b] tb)
    rwa [World.size_alloc] at this
  · rw [Below.heap_alloc _ _ _ (by simp)]
    have := heap_alloc_new ((w.alloc (.cells #[a] ta)).alloc (.cells #[b] tb)) (.cells #[c] tc)
    rwa [World.size_alloc, World.size_alloc] at this
  · have := heap_alloc_new (((w.alloc (.cells #[a] ta)).alloc (.cells #[b] tb)).alloc (.cells #[c] tc)) (.cells #[d] td)
    rwa [World.size_alloc, World.size_alloc, World.size_alloc] at this
theorem hcell {w : World} {b : Nat} {v : Value} {T : TypeId} (h : w.heap[b]? = some (.cells #[v] T (0, 0))) : w.cell? ⟨b, 0, none⟩ = some v ∧ w.frozen? ⟨b, 0, none⟩ = false := by
  constructor
  · unfold World.cell?; rw [show w.heap[(⟨b, 0, none⟩ : Addr).block]? = _ from h]; rfl
  · unfold World.frozen?; rw [show w.heap[(⟨b, 0, none⟩ : Addr).block]? = _ from h]; simp
theorem set_here {w : World} {b : Nat} {v : Value} {T : TypeId} (h : w.heap[b]? = some (.cells #[v] T (0, 0))) (u : Value) : (w.setCell ⟨b, 0, none⟩ u).heap[b]? = some (.cells #[u] T (0, 0)) := by
  have := heap_set (i := 0) (u := u) h
  simpa using this
theorem set_else {w : World} {b : Nat} {v : Value} {T : TypeId} (h : w.heap[b]? = some (.cells #[v] T (0, 0))) {p : Addr} (u : Value) (hp : p.block ≠ b) : (w.setCell p u).heap[b]? = some (.cells #[v] T (0, 0)) :=
  (Below.heap_setCell w p u b (by intro e; first | exact hp e | exact hp e.symm)).trans h

set_option maxRecDepth 100000 in
set_option maxHeartbeats 1000000 in
theorem open_bad (B g : Nat) (d : DS) (w : World) (h : Dk w B g d) (hd : d.dd = false) (hb : ∀ x ∈ d.S, 0 ≤ x ∧ x ≤ 255) (h0 : 0 < d.S.length) (hl : d.S.length ≤ 1099511627776) (hT : Tab w) (ho : oneE d.S ≠ 0) :
    Calls Tryd.prog 12 #[.pointer (some ⟨g, 0, none⟩)] w fun e w' => e = .returned (.tuple #[.pointer none, .slice none 0 0, .slice none 0 0, .int .i64 10]) ∧ w.grownBy w' none := by
  have hmf : ∀ (fn : Fn) (first cap : Array Value) (w : World), (Instr.makeFunc fn first cap).run Tryd.prog w = .ok (.func fn first cap) w := fun _ _ _ _ => rfl
  obtain ⟨V, hV⟩ : ∃ V, (((w.alloc (.cells #[.pointer none] 32)).alloc (.cells #[.slice none 0 0] 33)).alloc (.cells #[.slice none 0 0] 34)).alloc (.cells #[.int .i64 0] 26) = V := ⟨_, rfl⟩
  obtain ⟨b2, b3, b4, b5, gV, sV⟩ := four_new w _ _ _ _ _ _ _ _ hV
  have DV := Lib.hid (h.below gV)
  have TV := Lib.hid (hT.grow gV)
  obtain ⟨c2, f2⟩ := hcell b2
  obtain ⟨c3, f3⟩ := hcell b3
  obtain ⟨c4, f4⟩ := hcell b4
  obtain ⟨c5, f5⟩ := hcell b5
  go_enter_defers Tryd.func12, Tryd.ntmps12
  go_wp2_with fail
  refine (dead_any B g d _ DV).mono ?_
  rintro _ _ ⟨rfl, rfl⟩
  rw [hd]
  go_wp2_with fail
  refine (snap_any B g d _ DV.out hl).mono ?_
  rintro _ X ⟨⟨v, rfl, hv⟩, gX⟩
  obtain ⟨A, c, rfl⟩ := own_slice hv
  have TX := Lib.hid (TV.out.grow gX)
  have t0 : (0 : Int) < d.S.length := by omega
  go_wp2_with fail
  refine (one_any A c d.S X (Has.own hv) hb hl (own_cap hv) TX.out).mono ?_
  rintro _ Y ⟨s, rfl, hs, gY⟩
  have es : s = .slice none 0 0 := by unfold OneV at hs; rwa [if_neg ho] at hs
  subst es
  have gVY : V.grownBy Y none := only_step gX gY (fun k hk => .inl hk)
  have d2 := (gVY.block _ (by omega) (by simp)).trans b2
  have d3 := (gVY.block _ (by omega) (by simp)).trans b3
  have d4 := (gVY.block _ (by omega) (by simp)).trans b4
  have d5 := (gVY.block _ (by omega) (by simp)).trans b5
  clear c2 c3 c4 c5 f2 f3 f4 f5
  obtain ⟨c2, f2⟩ := hcell d2
  obtain ⟨c3, f3⟩ := hcell d3
  obtain ⟨c4, f4⟩ := hcell d4
  obtain ⟨c5, f5⟩ := hcell d5
  have hbz : (oneE d.S == 0) = false := by rw [beq_eq_false_iff_ne]; exact ho
  go_wp2_with fail
  obtain ⟨U, hU⟩ : ∃ U, ((((((Y.setCell ⟨w.heap.size + 1, 0, none⟩ (.slice none 0 0)).setCell ⟨w.heap.size + 1 + 1 + 1, 0, none⟩ (.int .i64 (oneE d.S))).setCell ⟨w.heap.size, 0, none⟩ (.pointer none)).setCell ⟨w.heap.size + 1, 0, none⟩ (.slice none 0 0)).setCell ⟨w.heap.size + 1 + 1, 0, none⟩ (.slice none 0 0)).setCell ⟨w.heap.size + 1 + 1 + 1, 0, none⟩ (.int .i64 10)) = U := ⟨_, rfl⟩
  have u2 : U.heap[w.heap.size]? = some (.cells #[.pointer none] 32 (0, 0)) := by
    subst hU
    exact set_else (set_else (set_else (set_here (set_else (set_else d2 _ (by first | (dsimp only; omega) | omega)) _ (by first | (dsimp only; omega) | omega)) _) _ (by first | (dsimp only; omega) | omega)) _ (by first | (dsimp only; omega) | omega)) _ (by first | (dsimp only; omega) | omega)
  have u3 : U.heap[w.heap.size + 1]? = some (.cells #[.slice none 0 0] 33 (0, 0)) := by
    subst hU
    exact set_else (set_else (set_here (set_else (set_else (set_here d3 _) _ (by first | (dsimp only; omega) | omega)) _ (by first | (dsimp only; omega) | omega)) _) _ (by first | (dsimp only; omega) | omega)) _ (by first | (dsimp only; omega) | omega)
  have u4 : U.heap[w.heap.size + 1 + 1]? = some (.cells #[.slice none 0 0] 34 (0, 0)) := by
    subst hU
    exact set_else (set_here (set_else (set_else (set_else (set_else d4 _ (by first | (dsimp only; omega) | omega)) _ (by first | (dsimp only; omega) | omega)) _ (by first | (dsimp only; omega) | omega)) _ (by first | (dsimp only; omega) | omega)) _) _ (by first | (dsimp only; omega) | omega)
  have u5 : U.heap[w.heap.size + 1 + 1 + 1]? = some (.cells #[.int .i64 10] 26 (0, 0)) := by
    subst hU
    exact set_here (set_else (set_else (set_else (set_here (set_else d5 _ (by first | (dsimp only; omega) | omega)) _) _ (by first | (dsimp only; omega) | omega)) _ (by first | (dsimp only; omega) | omega)) _ (by first | (dsimp only; omega) | omega)) _
  have gwY : w.grownBy Y none := only_step gV gVY (fun _ hk => .inl hk)
  have gU : w.grownBy U none := by
    subst hU
    exact only_set (only_set (only_set (only_set (only_set (only_set gwY (.inr (by first | (dsimp only; omega) | omega)) _) (.inr (by first | (dsimp only; omega) | omega)) _) (.inr (by first | (dsimp only; omega) | omega)) _) (.inr (by first | (dsimp only; omega) | omega)) _) (.inr (by first | (dsimp only; omega) | omega)) _) (.inr (by first | (dsimp only; omega) | omega)) _
  rw [hU]
  obtain ⟨x2, y2⟩ := hcell u2
  obtain ⟨x3, y3⟩ := hcell u3
  obtain ⟨x4, y4⟩ := hcell u4
  obtain ⟨x5, y5⟩ := hcell u5
  refine leaves_cons (f := 32) (args := #[.pointer (some ⟨w.heap.size + 1 + 1 + 1, 0, none⟩), .pointer (some ⟨w.heap.size, 0, none⟩), .pointer (some ⟨w.heap.size + 1, 0, none⟩), .pointer (some ⟨w.heap.size + 1 + 1, 0, none⟩)]) (by simp) (by simp [go_sem]) ?_
  refine (close_bad _ _ _ _ 10 _ _ _ U (by decide) x5 x2 x3 x4 y2 y3 y4 (by omega) (by omega) (by omega)).mono ?_
  rintro e u' w'' ⟨rfl, rfl, hw⟩
  have z2 : w''.heap[w.heap.size]? = some (.cells #[.pointer none] 32 (0, 0)) := by
    subst hw
    exact set_else (set_else (set_here u2 _) _ (by first | (dsimp only; omega) | omega)) _ (by first | (dsimp only; omega) | omega)
  have z3 : w''.heap[w.heap.size + 1]? = some (.cells #[.slice none 0 0] 33 (0, 0)) := by
    subst hw
    exact set_else (set_here (set_else u3 _ (by first | (dsimp only; omega) | omega)) _) _ (by first | (dsimp only; omega) | omega)
  have z4 : w''.heap[w.heap.size + 1 + 1]? = some (.cells #[.slice none 0 0] 34 (0, 0)) := by
    subst hw
    exact set_here (set_else (set_else u4 _ (by first | (dsimp only; omega) | omega)) _ (by first | (dsimp only; omega) | omega)) _
  have z5 : w''.heap[w.heap.size + 1 + 1 + 1]? = some (.cells #[.int .i64 10] 26 (0, 0)) := by
    subst hw
    exact set_else (set_else (set_else u5 _ (by first | (dsimp only; omega) | omega)) _ (by first | (dsimp only; omega) | omega)) _ (by first | (dsimp only; omega) | omega)
  have gz : w.grownBy w'' none := by
    subst hw
    exact only_set (only_set (only_set gU (.inr (by first | (dsimp only; omega) | omega)) _) (.inr (by first | (dsimp only; omega) | omega)) _) (.inr (by first | (dsimp only; omega) | omega)) _
  have q2 := (hcell z2).1
  have q3 := (hcell z3).1
  have q4 := (hcell z4).1
  have q5 := (hcell z5).1
  simp
  simp [Leaves, settle, results, Tryd.results12, go_sem, q2, q3, q4, q5]
  exact gz
set_option maxRecDepth 100000 in
set_option maxHeartbeats 1000000 in
theorem open_none (B g : Nat) (d : DS) (w : World) (h : Dk w B g d) (hd : d.dd = false) (hS : d.S = []) (hL : d.L = []) (hT : Tab w) :
    Calls Tryd.prog 12 #[.pointer (some ⟨g, 0, none⟩)] w fun e w' => ∃ q, e = .returned (.tuple #[.pointer (some ⟨q, 0, none⟩), .slice none 0 0, .slice none 0 0, .int .i64 0]) ∧ w'.cell? ⟨q, 1, none⟩ = some (.int .i64 0) ∧ w.grownBy w' none := by
  have hmf : ∀ (fn : Fn) (first cap : Array Value) (w : World), (Instr.makeFunc fn first cap).run Tryd.prog w = .ok (.func fn first cap) w := fun _ _ _ _ => rfl
  obtain ⟨V, hV⟩ : ∃ V, (((w.alloc (.cells #[.pointer none] 32)).alloc (.cells #[.slice none 0 0] 33)).alloc (.cells #[.slice none 0 0] 34)).alloc (.cells #[.int .i64 0] 26) = V := ⟨_, rfl⟩
  obtain ⟨b2, b3, b4, b5, gV, sV⟩ := four_new w _ _ _ _ _ _ _ _ hV
  have DV := Lib.hid (h.below gV)
  have TV := Lib.hid (hT.grow gV)
  obtain ⟨c2, f2⟩ := hcell b2
  obtain ⟨c3, f3⟩ := hcell b3
  obtain ⟨c4, f4⟩ := hcell b4
  obtain ⟨c5, f5⟩ := hcell b5
  go_enter_defers Tryd.func12, Tryd.ntmps12
  go_wp2_with fail
  refine (dead_any B g d _ DV).mono ?_
  rintro _ _ ⟨rfl, rfl⟩
  rw [hd]
  go_wp2_with fail
  refine (snap_any B g d _ DV.out (by rw [hS]; simp)).mono ?_
  rintro _ X ⟨⟨v, rfl, hv⟩, gX⟩
  obtain ⟨A, c, rfl⟩ := own_slice hv
  have DX := Lib.hid (DV.out.below gX)
  have TX := Lib.hid (TV.out.grow gX)
  have t0 : d.S.length = 0 := by rw [hS]; rfl
  rw [t0]
  go_wp2_with fail
  refine (log_any B g d _ DX.out (by rw [hL]; simp)).mono ?_
  rintro _ Y ⟨⟨v, rfl, hy⟩, gY⟩
  obtain ⟨A', c', rfl⟩ := own_slice hy
  have TY := Lib.hid (TX.out.grow gY)
  have t1 : d.L.length = 0 := by rw [hL]; rfl
  rw [hL] at hy
  rw [t1]
  go_wp2_with fail
  refine (scan_none A' c' [] Y (Has.own hy) (by simp) (by simp) (by simp) TY.out (by decide)).mono ?_
  rintro _ Z ⟨rfl, gZ⟩
  have gVZ : V.grownBy Z none := only_step gX (only_step gY gZ (fun _ hk => .inl hk)) (fun _ hk => .inl hk)
  have hVZ := gVZ.size
  have d2 := (gVZ.block _ (by omega) (by simp)).trans b2
  have d3 := (gVZ.block _ (by omega) (by simp)).trans b3
  have d4 := (gVZ.block _ (by omega) (by simp)).trans b4
  have d5 := (gVZ.block _ (by omega) (by simp)).trans b5
  clear c2 c3 c4 c5 f2 f3 f4 f5
  obtain ⟨c2, f2⟩ := hcell d2
  obtain ⟨c3, f3⟩ := hcell d3
  obtain ⟨c4, f4⟩ := hcell d4
  obtain ⟨c5, f5⟩ := hcell d5
  go_wp2_with fail
  obtain ⟨U, hU⟩ : ∃ U, Z.setCell ⟨w.heap.size + 1 + 1, 0, none⟩ (.slice none 0 0) = U := ⟨_, rfl⟩
  have u2 : U.heap[w.heap.size]? = some (.cells #[.pointer none] 32 (0, 0)) := by
    subst hU
    exact set_else d2 _ (by first | (dsimp only; omega) | omega)
  have u3 : U.heap[w.heap.size + 1]? = some (.cells #[.slice none 0 0] 33 (0, 0)) := by
    subst hU
    exact set_else d3 _ (by first | (dsimp only; omega) | omega)
  have u4 : U.heap[w.heap.size + 1 + 1]? = some (.cells #[.slice none 0 0] 34 (0, 0)) := by
    subst hU
    exact set_here d4 _
  have u5 : U.heap[w.heap.size + 1 + 1 + 1]? = some (.cells #[.int .i64 0] 26 (0, 0)) := by
    subst hU
    exact set_else d5 _ (by first | (dsimp only; omega) | omega)
  have gU : w.grownBy U none := by
    subst hU
    exact only_set (only_step gV gVZ (fun _ hk => .inl hk)) (.inr (by first | (dsimp only; omega) | omega)) _
  have zU : w.heap.size + 4 ≤ U.heap.size := by
    subst hU
    have : (Z.setCell ⟨w.heap.size + 1 + 1, 0, none⟩ (.slice none 0 0)).heap.size = Z.heap.size := by simp [World.setCell]
    rw [this]
    omega
  rw [hU]
  clear c2 c3 c4 c5 f2 f3 f4 f5
  obtain ⟨c2, f2⟩ := hcell u2
  obtain ⟨c3, f3⟩ := hcell u3
  obtain ⟨c4, f4⟩ := hcell u4
  obtain ⟨c5, f5⟩ := hcell u5
  have v2 : (U.alloc (.cells #[.pointer (some ⟨g, 0, none⟩), .int .i64 0] 74)).heap[w.heap.size]? = some (.cells #[.pointer none] 32 (0, 0)) := (Below.heap_alloc _ _ _ (by first | (dsimp only; omega) | omega)).trans u2
  have v3 : (U.alloc (.cells #[.pointer (some ⟨g, 0, none⟩), .int .i64 0] 74)).heap[w.heap.size + 1]? = some (.cells #[.slice none 0 0] 33 (0, 0)) := (Below.heap_alloc _ _ _ (by first | (dsimp only; omega) | omega)).trans u3
  have v4 : (U.alloc (.cells #[.pointer (some ⟨g, 0, none⟩), .int .i64 0] 74)).heap[w.heap.size + 1 + 1]? = some (.cells #[.slice none 0 0] 34 (0, 0)) := (Below.heap_alloc _ _ _ (by first | (dsimp only; omega) | omega)).trans u4
  have v5 : (U.alloc (.cells #[.pointer (some ⟨g, 0, none⟩), .int .i64 0] 74)).heap[w.heap.size + 1 + 1 + 1]? = some (.cells #[.int .i64 0] 26 (0, 0)) := (Below.heap_alloc _ _ _ (by first | (dsimp only; omega) | omega)).trans u5
  have v6 : (U.alloc (.cells #[.pointer (some ⟨g, 0, none⟩), .int .i64 0] 74)).heap[U.heap.size]? = some (.cells #[.pointer (some ⟨g, 0, none⟩), .int .i64 0] 74 (0, 0)) := heap_alloc_new U _
  obtain ⟨a2, e2⟩ := hcell v2
  obtain ⟨a3, e3⟩ := hcell v3
  obtain ⟨a4, e4⟩ := hcell v4
  obtain ⟨a5, e5⟩ := hcell v5
  clear hmf DV TV DX TX TY hv hy gX gY gZ b2 b3 b4 b5 d2 d3 d4 d5 hU hT h
  go_region
  go_wp2_with fail
  obtain ⟨T, hTT⟩ : ∃ T, ((((((U.alloc (.cells #[.pointer (some ⟨g, 0, none⟩), .int .i64 0] 74)).setCell ⟨w.heap.size, 0, none⟩ (.pointer (some ⟨U.heap.size, 0, none⟩))).setCell ⟨w.heap.size + 1, 0, none⟩ (.slice none 0 0)).setCell ⟨w.heap.size + 1 + 1, 0, none⟩ (.slice none 0 0)).setCell ⟨w.heap.size + 1 + 1 + 1, 0, none⟩ (.int .i64 0)).drew) = T := ⟨_, rfl⟩
  have x2 : T.heap[w.heap.size]? = some (.cells #[.pointer (some ⟨U.heap.size, 0, none⟩)] 32 (0, 0)) := by
    subst hTT
    exact set_else (set_else (set_else (set_here v2 _) _ (by first | (dsimp only; omega) | omega)) _ (by first | (dsimp only; omega) | omega)) _ (by first | (dsimp only; omega) | omega)
  have x3 : T.heap[w.heap.size + 1]? = some (.cells #[.slice none 0 0] 33 (0, 0)) := by
    subst hTT
    exact set_else (set_else (set_here (set_else v3 _ (by first | (dsimp only; omega) | omega)) _) _ (by first | (dsimp only; omega) | omega)) _ (by first | (dsimp only; omega) | omega)
  have x4 : T.heap[w.heap.size + 1 + 1]? = some (.cells #[.slice none 0 0] 34 (0, 0)) := by
    subst hTT
    exact set_else (set_here (set_else (set_else v4 _ (by first | (dsimp only; omega) | omega)) _ (by first | (dsimp only; omega) | omega)) _) _ (by first | (dsimp only; omega) | omega)
  have x5 : T.heap[w.heap.size + 1 + 1 + 1]? = some (.cells #[.int .i64 0] 26 (0, 0)) := by
    subst hTT
    exact set_here (set_else (set_else (set_else v5 _ (by first | (dsimp only; omega) | omega)) _ (by first | (dsimp only; omega) | omega)) _ (by first | (dsimp only; omega) | omega)) _
  have x6 : T.heap[U.heap.size]? = some (.cells #[.pointer (some ⟨g, 0, none⟩), .int .i64 0] 74 (0, 0)) := by
    subst hTT
    refine (Below.heap_setCell _ _ _ _ ?_).trans ((Below.heap_setCell _ _ _ _ ?_).trans ((Below.heap_setCell _ _ _ _ ?_).trans ((Below.heap_setCell _ _ _ _ ?_).trans v6)))
    all_goals (dsimp only; omega)
  have gT : w.grownBy T none := by
    subst hTT
    exact only_drew (only_set (only_set (only_set (only_set (only_alloc gU _) (.inr (by first | (dsimp only; omega) | omega)) _) (.inr (by first | (dsimp only; omega) | omega)) _) (.inr (by first | (dsimp only; omega) | omega)) _) (.inr (by first | (dsimp only; omega) | omega)) _)
  have k6 : T.cell? ⟨U.heap.size, 1, none⟩ = some (.int .i64 0) := by
    unfold World.cell?; rw [show T.heap[(⟨U.heap.size, 1, none⟩ : Addr).block]? = _ from x6]; rfl
  rw [hTT]
  have q2 := (hcell x2).1
  have q3 := (hcell x3).1
  have q4 := (hcell x4).1
  have q5 := (hcell x5).1
  refine leaves_cons (f := 32) (args := #[.pointer (some ⟨w.heap.size + 1 + 1 + 1, 0, none⟩), .pointer (some ⟨w.heap.size, 0, none⟩), .pointer (some ⟨w.heap.size + 1, 0, none⟩), .pointer (some ⟨w.heap.size + 1 + 1, 0, none⟩)]) (by simp) (by simp [go_sem]) ?_
  refine (close_ok _ _ _ _ T q5).mono ?_
  rintro e u' w'' ⟨rfl, rfl, rfl⟩
  simp
  simp [Leaves, settle, results, Tryd.results12, go_sem, q2, q3, q4, q5]
  exact ⟨k6, gT⟩
end Go.Proofs.YtpfahfakinonnaaDoor
