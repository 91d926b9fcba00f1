/- Package disk's own helpers: fresh, spend, settle, keep, finishes, by the cells of a disk's block. Conditions: its numbers stay below 2^40. -/
import Derived.Test.YtmjfemnjkgfgfaaApp
import Derived.Deep.OwnRows
import Derived.Deep.WholeRow
namespace Go.Proofs.Ytmjfemnjkgfgfaa
open Go.RowKit Go.Deep

set_option maxRecDepth 100000 in
theorem fresh_any (A : Option Addr) (c : Nat) (l : List Int) (w : World) (h : Has w w.heap.size A (bs l)) (hl : l.length ≤ 1099511627776) :
    Calls Try.prog 35 #[.slice A l.length c] w fun e w' => ∃ v, e = .returned v ∧ w'.ownsRow w.heap.size 5 1 v l.length (bs l) ∧ w.grownBy w' none ∧ v.ownBlock = some w.heap.size := by
  have hmk := run_make_row' (P := Try.prog) 31 5 (.int .u8 0) 1 Try.underlying31 Try.info_u8 rfl .i64 .i64 l.length (by omega) (by omega) w
  have hsz : (Try.prog.info? 5).map (·.size) = some 1 := by kernel_rfl
  obtain ⟨row, hrow⟩ : ∃ row, row = madeCells #[Value.int .u8 0] l.length := ⟨_, rfl⟩
  have hrs : row.size = l.length := by rw [hrow]; simp [madeCells]
  rw [← hrow] at hmk
  clear hrow
  have hnew := heap_alloc_new w (.cells row 5)
  have hG := World.grownBy_alloc w (.cells row 5) none
  rcases Nat.eq_zero_or_pos l.length with h0 | h0
  · have hl0 : l = [] := List.eq_nil_of_length_eq_zero h0
    subst hl0
    have hmk : (Instr.makeSlice 31 (.int .i64 0) (.int .i64 0)).run Try.prog w = .ok (.slice (some ⟨w.heap.size, 0, none⟩) 0 0) (w.alloc (.cells row 5)) := hmk
    clear h
    go_enter Try.func35, Try.ntmps35
    go_wp2_with (with_reducible refine wpList_copy_nothing rfl _ _ 31 31 rfl 5 Try.underlying31 hsz (some ⟨w.heap.size, 0, none⟩) A 0 0 0 c rfl rfl rfl ?_)
    go_ret
    exact ⟨_, rfl, ⟨rfl, .inr ⟨w.heap.size, 0, row, rfl, Nat.le_refl _, hnew, Nat.le_refl _, Nat.zero_le _, by simpa using hrs, by simp [bs]⟩⟩, hG, rfl⟩
  · obtain ⟨b, off, rfl, hb, hc⟩ : ∃ b off, A = some ⟨b, off, none⟩ ∧ b < w.heap.size ∧ ∀ j u, (bs l)[j]? = some u → w.cell? ⟨b, off + j, none⟩ = some u := by
      rcases h with h | h
      · have := congrArg List.length h; rw [bs_len, List.length_nil] at this; omega
      · exact h
    have hsrc : ∀ j v, (bs l)[j]? = some v → (w.alloc (.cells row 5)).cell? ((⟨b, off, none⟩ : Addr).add j) = some v := fun j v hv => by
      rw [Addr.add_lit]
      exact (World.cell?_alloc_lt _ _ _ hb).trans (hc j v hv)
    go_enter Try.func35, Try.ntmps35
    go_wp2_with (with_reducible refine wpList_copy_own rfl _ _ 31 31 rfl 5 Try.underlying31 hsz w.heap.size 0 l.length l.length ⟨b, off, none⟩ l.length c rfl rfl row 5 hnew (bs l) (by rw [bs_len]; simp) hsrc (by rw [bs_len, hrs]; omega) (bs_one l) ?_)
    go_ret
    rw [World.setRow_alloc_new]
    refine ⟨_, rfl, ⟨by rw [bs_len]; omega, .inr ⟨w.heap.size, l.length, _, rfl, Nat.le_refl _, heap_alloc_new w _, Nat.le_refl _, by unfold maxLen; omega, ?_, ?_⟩⟩, World.grownBy_alloc w _ none, rfl⟩
    · simp [bs_len, hrs]
    · simp [bs_len]
theorem heap_set {w : World} {g i : Nat} {cs : Array Value} {t : TypeId} {m : Nat × Nat} {u : Value} (h : w.heap[g]? = some (.cells cs t m)) : (w.setCell ⟨g, i, none⟩ u).heap[g]? = some (.cells (cs.setIfInBounds i u) t m) := by
  simp [World.setCell, Array.getElem?_modify, h]

def Blk (w : World) (g : Nat) (cs : Array Value) : Prop := w.heap[g]? = some (.cells cs 57 (0, 0))
theorem Blk.cell {w : World} {g i : Nat} {cs : Array Value} {v : Value} (h : Blk w g cs) (hi : cs[i]? = some v) : w.cell? ⟨g, i, none⟩ = some v := by
  unfold Blk at h; simp [World.cell?, h, hi]
theorem Blk.frozen {w : World} {g i : Nat} {cs : Array Value} (h : Blk w g cs) : w.frozen? ⟨g, i, none⟩ = false := by
  unfold Blk at h; simp [World.frozen?, h]
theorem Blk.set {w : World} {g i : Nat} {cs : Array Value} {u : Value} (h : Blk w g cs) : Blk (w.setCell ⟨g, i, none⟩ u) g (cs.setIfInBounds i u) := by
  exact heap_set h
theorem Blk.lt {w : World} {g : Nat} {cs : Array Value} (h : Blk w g cs) : g < w.heap.size := (Array.getElem?_eq_some_iff.1 h).1
theorem Blk.only {w w' : World} {g : Nat} {cs : Array Value} {r : Option Nat} (h : Blk w g cs) (hg : w.grownBy w' r) (hr : r ≠ some g) : Blk w' g cs := by
  unfold Blk at h ⊢
  rw [hg.block g (Blk.lt h) (fun e => hr e.symm)]; exact h
/-- Does the power go at this operation? -/
def goes (st sn : Int) : Bool := decide (0 < st ∧ sn + 1 = st)
def spR (st sn : Int) : Int := if goes st sn = true then 18 else 0
def spO (st sn op : Int) : Int := if goes st sn = true then op else op + 1
theorem spend_any (g : Nat) (a0 a1 a2 a3 : Value) (dd : Bool) (st sn op : Int) (w : World) (h : Blk w g #[a0, a1, a2, a3, .bool dd, .int .i64 st, .int .i64 sn, .int .i64 op]) (hs : 0 ≤ sn ∧ sn ≤ 1099511627776) (ho : 0 ≤ op ∧ op ≤ 1099511627776) :
    Calls Try.prog 29 #[.pointer (some ⟨g, 4, none⟩)] w fun e w' => e = .returned (.int .i64 (spR st sn)) ∧
      Blk w' g #[a0, a1, a2, a3, .bool (dd || goes st sn), .int .i64 st, .int .i64 (sn + 1), .int .i64 (spO st sn op)] ∧ w.grownBy w' (some g) := by
  have c4 : w.cell? ⟨g, 4, none⟩ = some (.bool dd) := h.cell rfl
  have c5 : w.cell? ⟨g, 5, none⟩ = some (.int .i64 st) := h.cell rfl
  have c6 : w.cell? ⟨g, 6, none⟩ = some (.int .i64 sn) := h.cell rfl
  have c7 : w.cell? ⟨g, 7, none⟩ = some (.int .i64 op) := h.cell rfl
  have f4 : w.frozen? ⟨g, 4, none⟩ = false := h.frozen
  have f6 : w.frozen? ⟨g, 6, none⟩ = false := h.frozen
  have f7 : w.frozen? ⟨g, 7, none⟩ = false := h.frozen
  have hw1 : IntKind.i64.wrap (sn + 1) = sn + 1 := by rw [IntKind.wrap_i64]; omega
  have hw2 : IntKind.i64.wrap (op + 1) = op + 1 := by rw [IntKind.wrap_i64]; omega
  have H := Lib.hid h
  have G1 : ∀ u, w.grownBy (w.setCell ⟨g, 6, none⟩ u) (some g) := fun u => only_set (only_refl _ _) (.inl rfl) _
  clear h
  have fin1 : ∀ n, Hid (Blk (((w.setCell ⟨g, 6, none⟩ (.int .i64 (sn + 1))).drewN n).setCell ⟨g, 4, none⟩ (.bool true)) g #[a0, a1, a2, a3, .bool true, .int .i64 st, .int .i64 (sn + 1), .int .i64 op] ∧ w.grownBy (((w.setCell ⟨g, 6, none⟩ (.int .i64 (sn + 1))).drewN n).setCell ⟨g, 4, none⟩ (.bool true)) (some g)) := fun n =>
    ⟨(show Blk ((w.setCell ⟨g, 6, none⟩ (.int .i64 (sn + 1))).drewN n) g _ from H.out.set).set, only_set (only_drewN (G1 _) _) (.inl rfl) _⟩
  have fin2 : ∀ n, Hid (Blk (((w.setCell ⟨g, 6, none⟩ (.int .i64 (sn + 1))).drewN n).setCell ⟨g, 7, none⟩ (.int .i64 (op + 1))) g #[a0, a1, a2, a3, .bool dd, .int .i64 st, .int .i64 (sn + 1), .int .i64 (op + 1)] ∧ w.grownBy (((w.setCell ⟨g, 6, none⟩ (.int .i64 (sn + 1))).drewN n).setCell ⟨g, 7, none⟩ (.int .i64 (op + 1))) (some g)) := fun n =>
    ⟨(show Blk ((w.setCell ⟨g, 6, none⟩ (.int .i64 (sn + 1))).drewN n) g _ from H.out.set).set, only_set (only_drewN (G1 _) _) (.inl rfl) _⟩
  by_cases h1 : 0 < st
  · by_cases h2 : sn + 1 = st
    · have hg : goes st sn = true := by simp [goes, h1, h2]
      rw [show spR st sn = 18 by simp [spR, hg], show spO st sn op = op by simp [spO, hg], hg, Bool.or_true]
      have h2b : (sn + 1 == st) = true := by simp [h2]
      clear hg h2 fin2 H G1
      go_enter Try.func29, Try.ntmps29
      go_wp2_with fail
      go_quiet (fail)
      go_wp2_with fail
      go_ret
      exact ⟨rfl, (fin1 _).out.1, (fin1 _).out.2⟩
    · have hg : goes st sn = false := by simp [goes, h1, h2]
      rw [show spR st sn = 0 by simp [spR, hg], show spO st sn op = op + 1 by simp [spO, hg], hg, Bool.or_false]
      have h2b : (sn + 1 == st) = false := by rw [beq_eq_false_iff_ne]; exact h2
      clear hg h2 fin1 H G1
      go_enter Try.func29, Try.ntmps29
      go_wp2_with fail
      go_quiet (fail)
      go_wp2_with fail
      go_ret
      exact ⟨rfl, (fin2 _).out.1, (fin2 _).out.2⟩
  · have hg : goes st sn = false := by simp [goes, h1]
    rw [show spR st sn = 0 by simp [spR, hg], show spO st sn op = op + 1 by simp [spO, hg], hg, Bool.or_false]
    have h1b : decide (0 < st) = false := by simpa using h1
    clear hg fin1 H G1
    go_enter Try.func29, Try.ntmps29
    go_wp2_with fail
    go_quiet (fail)
    go_wp2_with fail
    go_ret
    exact ⟨rfl, (fin2 _).out.1, (fin2 _).out.2⟩
theorem settle_any (g : Nat) (A : Option Addr) (n c : Nat) (a1 a2 a3 a4 a5 a6 a7 : Value) (w : World) (h : Blk w g #[.slice A n c, a1, a2, a3, a4, a5, a6, a7]) :
    Calls Try.prog 32 #[.pointer (some ⟨g, 0, none⟩)] w fun e w' => e = .returned (.tuple #[]) ∧ Blk w' g #[.slice A n c, a1, .int .i64 n, a3, a4, a5, a6, a7] ∧ w.grownBy w' (some g) := by
  have c0 : w.cell? ⟨g, 0, none⟩ = some (.slice A n c) := h.cell rfl
  have c2 : w.cell? ⟨g, 2, none⟩ = some a2 := h.cell rfl
  have f2 : w.frozen? ⟨g, 2, none⟩ = false := h.frozen
  have fin : Hid (Blk (w.setCell ⟨g, 2, none⟩ (.int .i64 n)) g #[.slice A n c, a1, .int .i64 n, a3, a4, a5, a6, a7] ∧ w.grownBy (w.setCell ⟨g, 2, none⟩ (.int .i64 n)) (some g)) := ⟨h.set, only_set (only_refl _ _) (.inl rfl) _⟩
  clear h
  go_enter Try.func32, Try.ntmps32
  go_wp2_with fail
  go_end0
  exact ⟨rfl, fin.out.1, fin.out.2⟩
theorem finishes_any (g : Nat) (a0 a1 a2 a3 a4 a6 a7 : Value) (st : Int) (w : World) (h : Blk w g #[a0, a1, a2, a3, a4, .int .i64 st, a6, a7]) :
    Calls Try.prog 34 #[.pointer (some ⟨g, 4, none⟩)] w fun e w' => e = .returned (.bool (st % 2 == 0)) ∧ w = w' := by
  have c5 : w.cell? ⟨g, 5, none⟩ = some (.int .i64 st) := h.cell rfl
  clear h
  by_cases h0 : 0 ≤ st
  · go_enter Try.func34, Try.ntmps34
    go_wp2_with fail
    go_ret
    exact ⟨rfl, rfl⟩
  · have E : Hid ((st.tmod 2 == 0) = (st % 2 == 0)) := by
      show (st.tmod 2 == 0) = (st % 2 == 0)
      rw [Bool.eq_iff_iff, beq_iff_eq, beq_iff_eq]
      exact ⟨fun h => Int.emod_eq_zero_of_dvd (Int.dvd_of_tmod_eq_zero h), fun h => Int.tmod_eq_zero_of_dvd (Int.dvd_of_emod_eq_zero h)⟩
    go_enter Try.func34, Try.ntmps34
    go_wp2_with fail
    go_ret
    exact ⟨by rw [← E.out]; rfl, rfl⟩
/-- A disk's log, cut: in memory of its own. -/
theorem keep_any (B g : Nat) (v : Value) (l : List Int) (n : Nat) (a1 a2 a3 a4 a5 a6 a7 : Value) (w : World) (h : Blk w g #[v, a1, a2, a3, a4, a5, a6, a7]) (ho : w.ownsRow B 5 1 v l.length (bs l)) (hn : n ≤ l.length) (hl : l.length ≤ 1099511627776) :
    Calls Try.prog 33 #[.pointer (some ⟨g, 0, none⟩), .int .i64 n] w fun e w' => e = .returned (.tuple #[]) ∧ ∃ v', Blk w' g #[v', a1, .int .i64 n, a3, a4, a5, a6, a7] ∧ w'.ownsRow w.heap.size 5 1 v' (l.take n).length (bs (l.take n)) ∧ v'.ownBlock = some w.heap.size ∧ w.grownBy w' (some g) := by
  have hc := own_slice ho
  obtain ⟨A, c, rfl⟩ := hc
  have hcap := own_cap ho
  have hH : Has w w.heap.size A (bs l) := Has.own ho
  have hT : Has w w.heap.size A (bs (l.take n)) := by have h := hH.take n; rwa [show (bs l).take n = bs (l.take n) by simp [bs, List.map_take]] at h
  have hln : (l.take n).length = n := by rw [List.length_take]; omega
  have F := fresh_any A c (l.take n) w hT (by omega)
  rw [hln] at F
  have c0 : w.cell? ⟨g, 0, none⟩ = some (.slice A l.length c) := h.cell rfl
  have b0 : (0 : Int) ≤ (n : Int) := by omega
  have b1 : (n : Int) ≤ (c : Int) := by omega
  have H := Lib.hid h
  have hgl := h.lt
  clear hH hT ho h hcap
  go_enter Try.func33, Try.ntmps33
  go_wp2_with fail
  refine F.mono ?_
  rintro _ w1 ⟨v1, rfl, o1, g1, k1⟩
  have H1 : Hid (Blk w1 g #[.slice A l.length c, a1, a2, a3, a4, a5, a6, a7]) := H.out.only g1 (by simp)
  have d0 : w1.cell? ⟨g, 0, none⟩ = some (.slice A l.length c) := H1.out.cell rfl
  have f0 : w1.frozen? ⟨g, 0, none⟩ = false := H1.out.frozen
  obtain ⟨A1, q1, rfl⟩ := own_slice o1
  have H2 : Hid (Blk (w1.setCell ⟨g, 0, none⟩ (.slice A1 n q1)) g #[.slice A1 n q1, a1, a2, a3, a4, a5, a6, a7]) := H1.out.set
  have g2 : w1.grownBy (w1.setCell ⟨g, 0, none⟩ (.slice A1 n q1)) (some g) := only_set (only_refl _ _) (.inl rfl) _
  have o2 : Hid ((w1.setCell ⟨g, 0, none⟩ (.slice A1 n q1)).ownsRow w.heap.size 5 1 (.slice A1 n q1) n (bs (l.take n))) := o1.kept g2 (by right; rw [k1]; simp; omega)
  have g02 : Hid (w.grownBy (w1.setCell ⟨g, 0, none⟩ (.slice A1 n q1)) (some g)) := only_step (only_none g1 _) g2 (fun k hk => .inl hk)
  have HLN := Lib.hid hln
  clear o1 g1 g2 H H1 hln
  go_wp2_with fail
  refine (settle_any g A1 n q1 _ _ _ _ _ _ _ _ H2.out).mono ?_
  rintro _ w3 ⟨rfl, H3, g3⟩
  go_wp2_with fail
  go_end0
  rw [HLN.out]
  exact ⟨rfl, _, H3, o2.out.kept g3 (by right; rw [k1]; simp; omega), k1, only_step g02.out g3 (fun k hk => .inl hk)⟩
end Go.Proofs.Ytmjfemnjkgfgfaa
