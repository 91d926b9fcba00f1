/- journal.Snap. No condition of the program's own. -/
import Derived.Test.YtpfahfakinonnaaDoorJs
namespace Go.Proofs.YtpfahfakinonnaaDoor
open Go.RowKit Go.Deep
set_option maxRecDepth 100000 in
theorem framed_swap (B g : Nat) (d : DS) (A : Option Addr) (c : Nat) (l : List Int) (w : World) (h : Dk w B g d) (hk : Ok d) (hb : Has w w.heap.size A (bs l)) (bl : ∀ x ∈ l, 0 ≤ x ∧ x ≤ 255) (hl : l.length ≤ 4194304) (hfl : (frP l).length ≤ 1073741824) (hT : Tab w) (hBw : B ≤ w.heap.size) :
    Calls Tryd.prog 38 #[.slice A l.length c, .func (.func 31) #[.pointer (some ⟨g, 0, none⟩)] #[]] w fun e w' => e = .returned (.int .i64 (swapE d (frP l))) ∧ Dk w' B g (swapS d (frP l)) ∧ Below B w w' ∧ Keeps w w' g := by
  have FR := Lib.hid (frame_any A c l w hb bl hl hT)
  have HD := Lib.hid h
  have glt := h.lt
  clear hb h hT
  go_enter Tryd.func38, Tryd.ntmps38
  go_wp2_with fail
  refine FR.out.mono ?_
  rintro _ w1 ⟨v, rfl, hv, g1⟩
  obtain ⟨A1, c1, rfl⟩ := own_slice hv
  rw [bs_len] at hv ⊢
  have D1 := HD.out.below g1
  have z1 := g1.size
  have JA := Lib.hid (swap_any B g d A1 c1 (frP l) w1 D1 hk (fun W hW => Has.own (kept_other hv hW (fun k hk e => by cases hk; have := hv.lt g e; omega))) hfl)
  clear D1 hv
  go_wp2_with fail
  refine JA.out.mono ?_
  rintro _ w2 ⟨rfl, D2, g2⟩
  go_wp2_with fail
  go_ret
  exact ⟨rfl, D2, (bel g1 (fun _ h => by cases h) hBw).trans (bel g2 (fun k hk => by cases hk; exact glt.1) (by omega)), (Keeps.grown (only_none g1 _)).trans (Keeps.grown g2)⟩
set_option maxRecDepth 100000 in
theorem snap_ok (a b q g : Nat) (n : Int) (w : World) (ca : w.cell? ⟨a, 0, none⟩ = some (.int .i64 0)) (cb : w.cell? ⟨b, 0, none⟩ = some (.pointer (some ⟨q, 0, none⟩))) (hq : Jn w q g n) :
    CallsD Tryd.prog 42 #[.pointer (some ⟨a, 0, none⟩), .pointer (some ⟨b, 0, none⟩)] .returning w fun e u' w' => u' = .returning ∧ (e = .returned (.tuple #[]) ∧ w' = w.setCell ⟨q, 1, none⟩ (.int .i64 0)) := by
  have q1 := hq.c1
  have f1 := hq.fr 1
  go_enter_d Tryd.func42, Tryd.ntmps42
  go_wp2_with fail
  go_end0
  exact ⟨rfl, rfl⟩
set_option maxRecDepth 100000 in
theorem snap_bad (a b : Nat) (k : Int) (w : World) (hk : k ≠ 0) (ca : w.cell? ⟨a, 0, none⟩ = some (.int .i64 k)) :
    CallsD Tryd.prog 42 #[.pointer (some ⟨a, 0, none⟩), .pointer (some ⟨b, 0, none⟩)] .returning w fun e u' w' => u' = .returning ∧ (e = .returned (.tuple #[]) ∧ w' = w) := by
  have hb : (k == 0) = false := by rw [beq_eq_false_iff_ne]; exact hk
  go_enter_d Tryd.func42, Tryd.ntmps42
  go_wp2_with fail
  go_end0
  exact ⟨rfl, rfl⟩
set_option maxRecDepth 100000 in
set_option maxHeartbeats 1000000 in
theorem jsnap_any (B g q : Nat) (d : DS) (n : Int) (A : Option Addr) (c : Nat) (l : List Int) (w : World) (h : Dk w B g d) (hq : Jn w q g n) (hqg : q ≠ g) (hqB : B ≤ q) (hk : Ok d) (hb : Has w w.heap.size A (bs l)) (bl : ∀ x ∈ l, 0 ≤ x ∧ x ≤ 255) (hl : l.length ≤ 4194304) (hfl : (frP l).length ≤ 1073741824) (hT : Tab w) (hBw : B ≤ w.heap.size) :
    Calls Tryd.prog 16 #[.pointer (some ⟨q, 0, none⟩), .slice A l.length c] w fun e w' => e = .returned (.int .i64 (swapE d (frP l))) ∧ Dk w' B g (swapS d (frP l)) ∧ Jn w' q g (if swapE d (frP l) = 0 then 0 else n) ∧ Below B w w' ∧ Keeps2 w w' g q := by
  have hmf : ∀ (fn : Fn) (first cap : Array Value) (w : World), (Instr.makeFunc fn first cap).run Tryd.prog w = .ok (.func fn first cap) w := fun _ _ _ _ => rfl
  obtain ⟨V, hV⟩ : ∃ V, ((w.alloc (.cells #[.pointer (some ⟨q, 0, none⟩)] 32)).alloc (.cells #[.int .i64 0] 26)) = V := ⟨_, rfl⟩
  obtain ⟨b2, b4, gV, sV⟩ := two_new w _ _ _ _ hV
  have qlt := hq.lt
  have DV := h.below gV
  have QV := hq.grow gV
  have TV := hT.grow gV
  obtain ⟨c2, f2⟩ := hcell b2
  obtain ⟨c4, f4⟩ := hcell b4
  have glt := h.lt
  have FA := Lib.hid (framed_swap B g d A c l V DV hk ((hb.only gV (Nat.le_refl _) (fun _ h => by cases h)).more (by omega)) bl hl hfl TV (by omega))
  have QVH := Lib.hid QV
  have q0 := QV.c0
  obtain ⟨r, hr⟩ : ∃ r, swapE d (frP l) = r := ⟨_, rfl⟩
  rw [hr] at FA ⊢
  obtain ⟨n2, hn2⟩ : ∃ n2, (if r = 0 then 0 else n) = n2 := ⟨_, rfl⟩
  rw [hn2]
  have HN := Lib.hid hn2
  clear hn2 hr
  clear hb h hq hT DV QV TV
  go_enter_defers Tryd.func16, Tryd.ntmps16
  go_wp2_with fail
  refine FA.out.mono ?_
  rintro _ Y ⟨rfl, DY, bY, kY⟩
  have zY := bY.size
  have d2 : Y.heap[w.heap.size]? = some (.cells #[.pointer (some ⟨q, 0, none⟩)] 32 (0, 0)) := kY _ _ _ _ (by omega) (by decide) b2
  have d4 : Y.heap[w.heap.size + 1]? = some (.cells #[.int .i64 0] 26 (0, 0)) := kY _ _ _ _ (by omega) (by decide) b4
  have QY : Jn Y q g n := QVH.out.keep kY hqg
  have KW : Keeps w Y g := (Keeps.grown (only_none gV _)).trans kY
  have BW : Below B w Y := (bel gV (fun _ h => by cases h) hBw).trans bY
  clear c2 c4 f2 f4
  obtain ⟨c2, f2⟩ := hcell d2
  obtain ⟨c4, f4⟩ := hcell d4
  go_wp2_with fail
  obtain ⟨U, hU⟩ : ∃ U, Y.setCell ⟨w.heap.size + 1, 0, none⟩ (.int .i64 r) = U := ⟨_, rfl⟩
  have gU : Y.grownBy U (some (w.heap.size + 1)) := by subst hU; exact only_set (only_refl _ _) (.inl rfl) _
  have u2 : U.heap[w.heap.size]? = some (.cells #[.pointer (some ⟨q, 0, none⟩)] 32 (0, 0)) := by
    subst hU; exact set_else d2 _ (by first | (dsimp only; omega) | omega)
  have u4 : U.heap[w.heap.size + 1]? = some (.cells #[.int .i64 r] 26 (0, 0)) := by
    subst hU; exact set_here d4 _
  have QU : Jn U q g n := (gU.block q QY.lt (by intro e; injection e with e; omega)).trans QY
  have DU : Dk U B g (swapS d (frP l)) := DY.apart d4 (by decide) (by omega) gU
  have zU := gU.size
  have BU : Below B w U := BW.trans (bel gU (fun k hk => by cases hk; omega) (by omega))
  have KU : Keeps w U g := fun k T cs m hne hT hk => (gU.block k (by have := (Array.getElem?_eq_some_iff.1 hk).1; omega) (by intro e; injection e with e; have := (Array.getElem?_eq_some_iff.1 hk).1; omega)).trans (KW k T cs m hne hT hk)
  rw [hU]
  obtain ⟨x2, y2⟩ := hcell u2
  obtain ⟨x4, y4⟩ := hcell u4
  clear hmf
  refine leaves_cons (f := 42) (args := #[.pointer (some ⟨w.heap.size + 1, 0, none⟩), .pointer (some ⟨w.heap.size, 0, none⟩)]) (by simp) (by simp [go_sem]) ?_
  by_cases h0 : r = 0
  · subst h0
    refine (snap_ok _ _ q g n U x4 x2 QU).mono ?_
    rintro e u' w'' ⟨rfl, rfl, hw⟩
    have gw : U.grownBy w'' (some q) := by subst hw; exact only_set (only_refl _ _) (.inl rfl) _
    have q4 := (hcell ((gw.block (w.heap.size + 1) (by omega) (by intro e; injection e with e; omega)).trans u4)).1
    have D9 : Dk w'' B g (swapS d (frP l)) := DU.apart QU (by decide) hqg gw
    have en : n2 = 0 := by have := HN.out; simpa using this.symm
    have Q9 : Jn w'' q g n2 := by rw [en]; subst hw; exact QU.set _
    have B9 : Below B w w'' := BU.trans (bel gw (fun k hk => by cases hk; exact hqB) (by omega))
    have K9 : Keeps2 w w'' g q := fun k T cs m hne hnq hT hk => (gw.block k (by have := (Array.getElem?_eq_some_iff.1 hk).1; omega) (by intro e; injection e with e; exact hnq e)).trans (KU k T cs m hne hT hk)
    simp
    simp [Leaves, settle, results, Tryd.results16, go_sem, q4]
    exact ⟨D9, Q9, B9, K9⟩
  · refine (snap_bad _ _ r U h0 x4).mono ?_
    rintro e u' w'' ⟨rfl, rfl, rfl⟩
    have en : n2 = n := by have := HN.out; rw [if_neg h0] at this; exact this.symm
    simp
    simp [Leaves, settle, results, Tryd.results16, go_sem, x4]
    rw [en]
    exact ⟨DU, QU, BU, fun k T cs m hne _ hT hk => KU k T cs m hne hT hk⟩
end Go.Proofs.YtpfahfakinonnaaDoor
