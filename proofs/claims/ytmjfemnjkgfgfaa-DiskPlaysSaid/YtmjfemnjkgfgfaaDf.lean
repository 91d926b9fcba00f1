/- Package disk's methods once more, by a set of blocks that a disk's rows may lie in: so two disks in one heap can be told apart. Conditions: its numbers stay below 2^40. -/
import Derived.Test.YtmjfemnjkgfgfaaDisk3
namespace Go.Proofs.Ytmjfemnjkgfgfaa
open Go.RowKit Go.Deep
def FF (F : Nat → Prop) (vL vS : Value) : Prop := (∀ k, vL.ownBlock = some k → F k) ∧ (∀ k, vS.ownBlock = some k → F k)
/-- A disk whose rows lie in blocks of F. -/
def Df (w : World) (F : Nat → Prop) (g : Nat) (d : DS) : Prop := ∃ vL vS, Blk w g (cellsOf vL vS d) ∧ w.ownsRow 0 5 1 vL d.L.length (bs d.L) ∧ w.ownsRow 0 5 1 vS d.S.length (bs d.S) ∧
  vL.ownBlock ≠ some g ∧ vS.ownBlock ≠ some g ∧ (vL.ownBlock = none ∨ vL.ownBlock ≠ vS.ownBlock) ∧ FF F vL vS
theorem Df.dk {w : World} {F : Nat → Prop} {g : Nat} {d : DS} (h : Df w F g d) : Dk w 0 g d := by
  obtain ⟨vL, vS, hB, hL, hS, nL, nS, nLS, _⟩ := h
  exact ⟨vL, vS, hB, hL, hS, nL, nS, nLS, Nat.zero_le _⟩
theorem Df.lt {w : World} {F : Nat → Prop} {g : Nat} {d : DS} (h : Df w F g d) : g < w.heap.size := h.dk.lt.2
theorem Df.mono {w : World} {F F' : Nat → Prop} {g : Nat} {d : DS} (h : Df w F g d) (hF : ∀ k, k < w.heap.size → F k → F' k) : Df w F' g d := by
  obtain ⟨vL, vS, hB, hL, hS, nL, nS, nLS, f1, f2⟩ := h
  exact ⟨vL, vS, hB, hL, hS, nL, nS, nLS, fun k e => hF k (hL.lt k e).2 (f1 k e), fun k e => hF k (hS.lt k e).2 (f2 k e)⟩
theorem Df.c0 {w : World} {F : Nat → Prop} {g : Nat} {d : DS} (h : Df w F g d) : ∃ A c, w.cell? ⟨g, 0, none⟩ = some (.slice A d.L.length c) := h.dk.c0
theorem Df.c1 {w : World} {F : Nat → Prop} {g : Nat} {d : DS} (h : Df w F g d) : ∃ A c, w.cell? ⟨g, 1, none⟩ = some (.slice A d.S.length c) := h.dk.c1
theorem Df.c2 {w : World} {F : Nat → Prop} {g : Nat} {d : DS} (h : Df w F g d) : w.cell? ⟨g, 2, none⟩ = some (.int .i64 d.sy) := h.dk.c2
theorem Df.c3 {w : World} {F : Nat → Prop} {g : Nat} {d : DS} (h : Df w F g d) : w.cell? ⟨g, 3, none⟩ = some (.int .i64 d.rm) := h.dk.c3
theorem Df.c4 {w : World} {F : Nat → Prop} {g : Nat} {d : DS} (h : Df w F g d) : w.cell? ⟨g, 4, none⟩ = some (.bool d.dd) := h.dk.c4
theorem Df.fr {w : World} {F : Nat → Prop} {g i : Nat} {d : DS} (h : Df w F g d) : w.frozen? ⟨g, i, none⟩ = false := h.dk.fr
theorem own_blk {w w' : World} {B n : Nat} {v : Value} {xs : List Value} (h : w.ownsRow B 5 1 v n xs) (hk : ∀ k, v.ownBlock = some k → w'.heap[k]? = w.heap[k]?) : w'.ownsRow B 5 1 v n xs := by
  rcases h.2 with hv | ⟨g, cap, cur, hv, hg, hc, h2⟩
  · exact ⟨h.1, .inl hv⟩
  · exact ⟨h.1, .inr ⟨g, cap, cur, hv, hg, (hk g (by rw [hv]; rfl)).trans hc, h2⟩⟩
/-- Another disk's call, or anything else that leaves the blocks of F and block g: the disk stands. -/
theorem Df.keep {w w' : World} {F : Nat → Prop} {g : Nat} {d : DS} (h : Df w F g d) (hg : w'.heap[g]? = w.heap[g]?) (hk : ∀ k, k < w.heap.size → F k → w'.heap[k]? = w.heap[k]?) : Df w' F g d := by
  obtain ⟨vL, vS, hB, hL, hS, nL, nS, nLS, f1, f2⟩ := h
  exact ⟨vL, vS, by unfold Blk at *; rw [hg]; exact hB, own_blk hL (fun k e => hk k (hL.lt k e).2 (f1 k e)), own_blk hS (fun k e => hk k (hS.lt k e).2 (f2 k e)), nL, nS, nLS, f1, f2⟩
theorem Df.below {w w' : World} {F : Nat → Prop} {g : Nat} {d : DS} (h : Df w F g d) (hg : w.grownBy w' none) : Df w' F g d := by
  obtain ⟨vL, vS, hB, hL, hS, nL, nS, nLS, hBg⟩ := h
  exact ⟨vL, vS, hB.only hg (by simp), kept_other hL hg (fun _ h => by cases h), kept_other hS hg (fun _ h => by cases h), nL, nS, nLS, hBg⟩
theorem stop_anyF (F : Nat → Prop) (g : Nat) (d : DS) (n : Int) (w : World) (h : Df w F g d) :
    Calls Try.prog 17 #[.pointer (some ⟨g, 0, none⟩), .int .i64 n] w fun e w' => e = .returned (.tuple #[]) ∧ Df w' F g (stopS d n) ∧ w.grownBy w' (some g) := by
  obtain ⟨vL, vS, hB, hL, hS, nL, nS, nLS, hBg⟩ := h
  have c5 : w.cell? ⟨g, 5, none⟩ = some (.int .i64 d.st) := hB.cell rfl
  have c6 : w.cell? ⟨g, 6, none⟩ = some (.int .i64 d.sn) := hB.cell rfl
  have f5 : w.frozen? ⟨g, 5, none⟩ = false := hB.frozen
  have f6 : w.frozen? ⟨g, 6, none⟩ = false := hB.frozen
  have gg1 : w.grownBy (w.setCell ⟨g, 5, none⟩ (.int .i64 n)) (some g) := only_set (only_refl w (some g)) (.inl rfl) _
  have gg : w.grownBy ((w.setCell ⟨g, 5, none⟩ (.int .i64 n)).setCell ⟨g, 6, none⟩ (.int .i64 0)) (some g) := only_set (p := ⟨g, 6, none⟩) gg1 (.inl rfl) (.int .i64 0)
  have b0 : Blk w g #[vL, vS, .int .i64 d.sy, .int .i64 d.rm, .bool d.dd, .int .i64 d.st, .int .i64 d.sn, .int .i64 d.op] := hB
  have b1 : Blk (w.setCell ⟨g, 5, none⟩ (.int .i64 n)) g #[vL, vS, .int .i64 d.sy, .int .i64 d.rm, .bool d.dd, .int .i64 n, .int .i64 d.sn, .int .i64 d.op] := b0.set
  have b2 : Blk ((w.setCell ⟨g, 5, none⟩ (.int .i64 n)).setCell ⟨g, 6, none⟩ (.int .i64 0)) g #[vL, vS, .int .i64 d.sy, .int .i64 d.rm, .bool d.dd, .int .i64 n, .int .i64 0, .int .i64 d.op] := b1.set
  have fin : Hid (Df ((w.setCell ⟨g, 5, none⟩ (.int .i64 n)).setCell ⟨g, 6, none⟩ (.int .i64 0)) F g (stopS d n) ∧ w.grownBy ((w.setCell ⟨g, 5, none⟩ (.int .i64 n)).setCell ⟨g, 6, none⟩ (.int .i64 0)) (some g)) :=
    ⟨⟨vL, vS, b2, kept_other hL gg (fun k hk e => by cases hk; exact nL e), kept_other hS gg (fun k hk e => by cases hk; exact nS e), nL, nS, nLS, hBg⟩, gg⟩
  clear hB hL hS gg gg1 b0 b1 b2
  go_enter Try.func17, Try.ntmps17
  go_wp2_with fail
  go_end0
  exact ⟨rfl, fin.out.1, fin.out.2⟩
/-- Behind a spend: the disk's cells anew. -/
theorem Df.spent {w w' : World} {F : Nat → Prop} {g : Nat} {d : DS} {vL vS : Value} (h : Blk w' g #[vL, vS, .int .i64 d.sy, .int .i64 d.rm, .bool (d.dd || goes d.st d.sn), .int .i64 d.st, .int .i64 (d.sn + 1), .int .i64 (spO d.st d.sn d.op)]) (gg : w.grownBy w' (some g))
    (hL : w.ownsRow 0 5 1 vL d.L.length (bs d.L)) (hS : w.ownsRow 0 5 1 vS d.S.length (bs d.S)) (nL : vL.ownBlock ≠ some g) (nS : vS.ownBlock ≠ some g) (nLS : vL.ownBlock = none ∨ vL.ownBlock ≠ vS.ownBlock) (hBg : FF F vL vS) : Df w' F g (spendS d) :=
  ⟨vL, vS, h, kept_other hL gg (fun k hk e => by cases hk; exact nL e), kept_other hS gg (fun k hk e => by cases hk; exact nS e), nL, nS, nLS, hBg⟩
theorem sync_anyF (F : Nat → Prop) (g : Nat) (d : DS) (w : World) (h : Df w F g d) (hk : Ok d) :
    Calls Try.prog 15 #[.pointer (some ⟨g, 0, none⟩)] w fun e w' => e = .returned (.int .i64 (syncE d)) ∧ Df w' F g (syncS d) ∧ w.grownBy w' (some g) := by
  have h0 := h
  obtain ⟨vL, vS, hB, hL, hS, nL, nS, nLS, hBg⟩ := h
  have c4 : w.cell? ⟨g, 4, none⟩ = some (.bool d.dd) := hB.cell rfl
  obtain ⟨A, c, rfl⟩ := own_slice hL
  have H0 := Lib.hid h0
  clear h0
  cases hd : d.dd
  · have SP := spend_any g _ _ _ _ _ _ _ _ w hB hk.sn hk.op
    rw [hd] at c4
    have hv : syncE d = spR d.st d.sn := by simp [syncE, hd]
    rw [hv]
    cases hg : goes d.st d.sn
    · have hr : spR d.st d.sn = 0 := by simp [spR, hg]
      have hv2 : syncS d = { spendS d with sy := d.L.length } := by simp [syncS, hd, hg]
      rw [hr] at SP ⊢
      rw [hv2]
      have SP := Lib.hid SP
      have HG := Lib.hid hg
      clear hv hv2 hr hg
      go_enter Try.func15, Try.ntmps15
      go_wp2_with fail
      refine SP.out.mono ?_
      rintro _ w1 ⟨rfl, Hb1, g1⟩
      have ST := Lib.hid (settle_any g A d.L.length c _ _ _ _ _ _ _ w1 Hb1)
      have D1 : Hid (Df w1 F g (spendS d)) := Df.spent Hb1 g1 hL hS nL nS nLS hBg
      clear Hb1
      go_wp2_with fail
      refine ST.out.mono ?_
      rintro _ w2 ⟨rfl, Hb2, g2⟩
      have D2 : Hid (Df w2 F g { spendS d with sy := d.L.length }) := by
        have gg := only_step g1 g2 (fun k hk => .inl hk)
        exact ⟨_, vS, Hb2, kept_other hL gg (fun k hk e => by cases hk; exact nL e), kept_other hS gg (fun k hk e => by cases hk; exact nS e), nL, nS, nLS, hBg⟩
      clear Hb2
      go_wp2_with fail
      go_ret
      exact ⟨rfl, D2.out, only_step g1 g2 (fun k hk => .inl hk)⟩
    · have hr : spR d.st d.sn = 18 := by simp [spR, hg]
      have hv2 : syncS d = spendS d := by simp [syncS, hd, hg]
      rw [hr] at SP ⊢
      rw [hv2]
      have SP := Lib.hid SP
      clear hv hv2 hr hg
      go_enter Try.func15, Try.ntmps15
      go_wp2_with fail
      refine SP.out.mono ?_
      rintro _ w1 ⟨rfl, Hb1, g1⟩
      have D1 : Hid (Df w1 F g (spendS d)) := Df.spent Hb1 g1 hL hS nL nS nLS hBg
      clear Hb1
      go_wp2_with fail
      go_ret
      exact ⟨rfl, D1.out, g1⟩
  · have hv : syncE d = 18 := by simp [syncE, hd]
    have hv2 : syncS d = d := by simp [syncS, hd]
    rw [hv, hv2]
    rw [hd] at c4
    clear hv hv2 hB hL hS
    go_enter Try.func15, Try.ntmps15
    go_wp2_with fail
    go_ret
    exact ⟨rfl, H0.out, only_refl _ _⟩
theorem spend_dkF (F : Nat → Prop) (g : Nat) (d : DS) (w : World) (h : Df w F g d) (hk : Ok d) :
    Calls Try.prog 29 #[.pointer (some ⟨g, 4, none⟩)] w fun e w' => e = .returned (.int .i64 (spR d.st d.sn)) ∧ Df w' F g (spendS d) ∧ w.grownBy w' (some g) := by
  obtain ⟨vL, vS, hB, hL, hS, nL, nS, nLS, hBg⟩ := h
  exact (spend_any g _ _ _ _ _ _ _ _ w hB hk.sn hk.op).mono fun _ _ ⟨h1, h2, h3⟩ => ⟨h1, Df.spent h2 h3 hL hS nL nS nLS hBg, h3⟩
theorem keep_dkF (F : Nat → Prop) (g : Nat) (d : DS) (n : Nat) (w : World) (h : Df w F g d) (hn : n ≤ d.L.length) (hl : d.L.length ≤ 1099511627776) (hF : ∀ k, w.heap.size ≤ k → F k) :
    Calls Try.prog 33 #[.pointer (some ⟨g, 0, none⟩), .int .i64 n] w fun e w' => e = .returned (.tuple #[]) ∧ Df w' F g (keepS d n) ∧ w.grownBy w' (some g) := by
  have hlt := h.lt
  obtain ⟨vL, vS, hB, hL, hS, nL, nS, nLS, hBg⟩ := h
  refine (keep_any 0 g vL d.L n _ _ _ _ _ _ _ w hB hL hn hl).mono ?_
  rintro e w' ⟨h1, v', h2, h3, h4, h5⟩
  refine ⟨h1, ⟨v', vS, h2, own_mono h3 (by omega), kept_other hS h5 (fun k hk e => by cases hk; exact nS e), by rw [h4]; intro e; injection e; omega, nS, ?_, fun k e => by rw [h4] at e; injection e with e; exact hF k (by omega), hBg.2⟩, h5⟩
  right
  rw [h4]
  exact fun e => ne_of_lt hS (Nat.le_refl _) e.symm
theorem finishes_dkF (F : Nat → Prop) (g : Nat) (d : DS) (w : World) (h : Df w F g d) :
    Calls Try.prog 34 #[.pointer (some ⟨g, 4, none⟩)] w fun e w' => e = .returned (.bool (d.st % 2 == 0)) ∧ w = w' := by
  obtain ⟨vL, vS, hB, hL, hS, nL, nS, nLS, hBg⟩ := h
  exact finishes_any g _ _ _ _ _ _ _ _ w hB
theorem cut_anyF (F : Nat → Prop) (g : Nat) (d : DS) (n : Int) (w : World) (h : Df w F g d) (hk : Ok d) (hF : ∀ k, w.heap.size ≤ k → F k) :
    Calls Try.prog 23 #[.pointer (some ⟨g, 0, none⟩), .int .i64 n] w fun e w' => e = .returned (.int .i64 (cutE d n)) ∧ Df w' F g (cutS d n) ∧ w.grownBy w' (some g) := by
  have c4 := h.c4
  obtain ⟨A, c, c0⟩ := h.c0
  have H := Lib.hid h
  cases hd : d.dd
  · rw [hd] at c4
    by_cases hn0 : n < 0
    · rw [show cutE d n = 1 by simp [cutE, hd, hn0], show cutS d n = d by simp [cutS, hn0]]
      clear h hk
      go_enter Try.func23, Try.ntmps23
      go_wp2_with fail
      go_ret
      exact ⟨rfl, H.out, only_refl _ _⟩
    · by_cases hn1 : (d.L.length : Int) < n
      · rw [show cutE d n = 1 by simp [cutE, hd, hn1], show cutS d n = d by simp [cutS, hn1]]
        clear h hk
        go_enter Try.func23, Try.ntmps23
        go_wp2_with fail
        go_ret
        exact ⟨rfl, H.out, only_refl _ _⟩
      · have hE : cutE d n = spR d.st d.sn := by simp [cutE, hd, hn0, hn1]
        have hS : cutS d n = if doneB d = true then keepS (spendS d) n.toNat else spendS d := by simp [cutS, hd, hn0, hn1]
        rw [hE, hS]
        obtain ⟨m, rfl⟩ : ∃ m : Nat, n = (m : Int) := ⟨n.toNat, by omega⟩
        rw [Int.toNat_natCast]
        have hm : m ≤ (spendS d).L.length := by show m ≤ d.L.length; omega
        have hl : (spendS d).L.length ≤ 1099511627776 := by show d.L.length ≤ _; have := hk.l; omega
        have SP := spend_dkF F g d w h hk
        have KP := fun W (hW : w.heap.size ≤ W.heap.size) H => Lib.hid (keep_dkF F g (spendS d) m W H hm hl (fun k hk => hF k (by omega)))
        have FN := fun W H => Lib.hid (finishes_dkF F g (spendS d) W H)
        have hst : (spendS d).st = d.st := rfl
        rw [hst] at FN
        cases hg : goes d.st d.sn
        · have hdn : doneB d = true := by simp [doneB, hg]
          rw [show spR d.st d.sn = 0 by simp [spR, hg]] at SP ⊢
          rw [if_pos hdn]
          have SP := Lib.hid SP
          clear hE hS hdn hg FN h hk
          go_enter Try.func23, Try.ntmps23
          go_wp2_with fail
          refine SP.out.mono ?_
          rintro _ w1 ⟨rfl, D1, g1⟩
          go_wp2_with fail
          refine (KP _ g1.size D1).out.mono ?_
          rintro _ w2 ⟨rfl, D2, g2⟩
          go_wp2_with fail
          go_ret
          exact ⟨rfl, D2, only_step g1 g2 (fun k hk => .inl hk)⟩
        · rw [show spR d.st d.sn = 18 by simp [spR, hg]] at SP ⊢
          have SP := Lib.hid SP
          cases h2 : (d.st % 2 == 0)
          · have hdn : ¬ doneB d = true := by simp [doneB, hg, h2]
            rw [if_neg hdn]
            rw [h2] at FN
            clear hE hS hdn hg h hk KP h2
            go_enter Try.func23, Try.ntmps23
            go_wp2_with fail
            refine SP.out.mono ?_
            rintro _ w1 ⟨rfl, D1, g1⟩
            go_wp2_with fail
            refine (FN _ D1).out.mono ?_
            rintro _ w2 ⟨rfl, rfl⟩
            go_wp2_with fail
            go_ret
            exact ⟨rfl, D1, g1⟩
          · have hdn : doneB d = true := by simp [doneB, h2]
            rw [if_pos hdn]
            rw [h2] at FN
            clear hE hS hdn hg h hk h2
            go_enter Try.func23, Try.ntmps23
            go_wp2_with fail
            refine SP.out.mono ?_
            rintro _ w1 ⟨rfl, D1, g1⟩
            go_wp2_with fail
            refine (FN _ D1).out.mono ?_
            rintro _ w2 ⟨rfl, rfl⟩
            go_wp2_with fail
            refine (KP _ g1.size D1).out.mono ?_
            rintro _ w2 ⟨rfl, D2, g2⟩
            go_wp2_with fail
            go_ret
            exact ⟨rfl, D2, only_step g1 g2 (fun k hk => .inl hk)⟩
  · rw [show cutE d n = 18 by simp [cutE, hd], show cutS d n = d by simp [cutS, hd]]
    rw [hd] at c4
    clear h hk
    go_enter Try.func23, Try.ntmps23
    go_wp2_with fail
    go_ret
    exact ⟨rfl, H.out, only_refl _ _⟩
/-- A new snapshot is laid. -/
theorem Df.snap {w w1 : World} {F : Nat → Prop} {g : Nat} {d : DS} {b : List Int} {A : Option Addr} {n c : Nat} (_ : Df w1 F g d) (ho : w1.ownsRow 0 5 1 (.slice A n c) b.length (bs b)) (hn : n = b.length) (hk : (Value.slice A n c).ownBlock = some w.heap.size) (hw : Df w F g d) (hF : ∀ k, w.heap.size ≤ k → F k) (hg : w.grownBy w1 none) :
    Df (w1.setCell ⟨g, 1, none⟩ (.slice A n c)) F g { d with S := b } ∧ w.grownBy (w1.setCell ⟨g, 1, none⟩ (.slice A n c)) (some g) := by
  subst hn
  have hlt := hw.lt
  obtain ⟨vL, vS, hB, hL, hS, nL, nS, nLS, hBg⟩ := hw
  have gg : w1.grownBy (w1.setCell ⟨g, 1, none⟩ (.slice A b.length c)) (some g) := only_set (only_refl w1 (some g)) (.inl rfl) _
  have hB1 : Blk w1 g #[vL, vS, .int .i64 d.sy, .int .i64 d.rm, .bool d.dd, .int .i64 d.st, .int .i64 d.sn, .int .i64 d.op] := hB.only hg (by simp)
  have nn : (Value.slice A b.length c).ownBlock ≠ some g := by rw [hk]; intro e; injection e; omega
  refine ⟨⟨vL, _, hB1.set, kept_other (kept_other hL hg (fun _ h => by cases h)) gg (fun k hk e => by cases hk; exact nL e), kept_other ho gg (fun k hk e => by cases hk; exact nn e), nL, nn, ?_, hBg.1, fun k e => by rw [hk] at e; injection e with e; exact hF k (by omega)⟩, only_step (only_none hg _) gg (fun k hk => .inl hk)⟩
  right
  rw [hk]
  exact ne_of_lt hL (Nat.le_refl _)
theorem swap_anyF (F : Nat → Prop) (g : Nat) (d : DS) (A : Option Addr) (c : Nat) (b : List Int) (w : World) (h : Df w F g d) (hk : Ok d) (hb : ∀ W, w.grownBy W (some g) → Has W W.heap.size A (bs b)) (hbl : b.length ≤ 1073741824) (hF : ∀ k, w.heap.size ≤ k → F k) :
    Calls Try.prog 21 #[.pointer (some ⟨g, 0, none⟩), .slice A b.length c] w fun e w' => e = .returned (.int .i64 (swapE d b)) ∧ Df w' F g (swapS d b) ∧ w.grownBy w' (some g) := by
  have c4 := h.c4
  have c3 := h.c3
  have hlt := h.lt
  have H := Lib.hid h
  cases hd : d.dd
  · rw [hd] at c4
    by_cases hf : d.rm < (b.length : Int)
    · rw [show swapE d b = 17 by simp [swapE, hd, hf], show swapS d b = d by simp [swapS, hf]]
      clear h hk hb
      go_enter Try.func21, Try.ntmps21
      go_wp2_with fail
      go_ret
      exact ⟨rfl, H.out, only_refl _ _⟩
    · have hE : swapE d b = spR d.st d.sn := by simp [swapE, hd, hf]
      have hS : swapS d b = if doneB d = true then keepS { spendS d with S := b } 0 else spendS d := by simp [swapS, hd, hf]
      rw [hE, hS]
      have hl : (spendS d).L.length ≤ 1099511627776 := by show d.L.length ≤ _; have := hk.l; omega
      have SP := spend_dkF F g d w h hk
      have FR : ∀ W, w.grownBy W (some g) → Hid (Calls Try.prog 35 #[.slice A b.length c] W fun e w' => ∃ v, e = .returned v ∧ w'.ownsRow W.heap.size 5 1 v b.length (bs b) ∧ W.grownBy w' none ∧ v.ownBlock = some W.heap.size) := fun W hW =>
        fresh_any A c b W (hb W hW) (by omega)
      have KP := fun W (hW : w.heap.size ≤ W.heap.size) H => Lib.hid (keep_dkF F g { spendS d with S := b } 0 W H (Nat.zero_le _) hl (fun k hk => hF k (by omega)))
      have FN := fun W H => Lib.hid (finishes_dkF F g (spendS d) W H)
      have hst : (spendS d).st = d.st := rfl
      rw [hst] at FN
      cases hg : goes d.st d.sn
      · have hdn : doneB d = true := by simp [doneB, hg]
        rw [show spR d.st d.sn = 0 by simp [spR, hg]] at SP ⊢
        rw [if_pos hdn]
        have SP := Lib.hid SP
        clear hE hS hdn hg FN h hk hb
        go_enter Try.func21, Try.ntmps21
        go_wp2_with fail
        refine SP.out.mono ?_
        rintro _ w1 ⟨rfl, D1, g1⟩
        go_wp2_with fail
        refine (FR _ g1).out.mono ?_
        rintro _ w2 ⟨v, rfl, o2, g2, k2⟩
        have D2 := D1.below g2
        obtain ⟨A2, q2, rfl⟩ := own_slice o2
        obtain ⟨e1, k1, c1⟩ := D2.c1
        have f1 : w2.frozen? ⟨g, 1, none⟩ = false := D2.fr
        have SN := Df.snap D2 (own_mono o2 (Nat.zero_le _)) rfl k2 D1 (fun k hk => hF k (by have := g1.size; omega)) g2
        clear D2 o2
        go_wp2_with fail
        refine (KP _ (by have := g1.size; have := SN.2.size; omega) SN.1).out.mono ?_
        rintro _ w3 ⟨rfl, D3, g3⟩
        go_wp2_with fail
        go_ret
        exact ⟨rfl, D3, only_step (only_step g1 SN.2 (fun k hk => .inl hk)) g3 (fun k hk => .inl hk)⟩
      · rw [show spR d.st d.sn = 18 by simp [spR, hg]] at SP ⊢
        have SP := Lib.hid SP
        cases h2 : (d.st % 2 == 0)
        · have hdn : ¬ doneB d = true := by simp [doneB, hg, h2]
          rw [if_neg hdn]
          rw [h2] at FN
          clear hE hS hdn hg h hk KP FR hb h2
          go_enter Try.func21, Try.ntmps21
          go_wp2_with fail
          refine SP.out.mono ?_
          rintro _ w1 ⟨rfl, D1, g1⟩
          go_wp2_with fail
          refine (FN _ D1).out.mono ?_
          rintro _ w2 ⟨rfl, rfl⟩
          go_wp2_with fail
          go_ret
          exact ⟨rfl, D1, g1⟩
        · have hdn : doneB d = true := by simp [doneB, h2]
          rw [if_pos hdn]
          rw [h2] at FN
          clear hE hS hdn hg h hk hb h2
          go_enter Try.func21, Try.ntmps21
          go_wp2_with fail
          refine SP.out.mono ?_
          rintro _ w1 ⟨rfl, D1, g1⟩
          go_wp2_with fail
          refine (FN _ D1).out.mono ?_
          rintro _ w2 ⟨rfl, rfl⟩
          go_wp2_with fail
          refine (FR _ g1).out.mono ?_
          rintro _ w2 ⟨v, rfl, o2, g2, k2⟩
          have D2 := D1.below g2
          obtain ⟨A2, q2, rfl⟩ := own_slice o2
          obtain ⟨e1, k1, c1⟩ := D2.c1
          have f1 : w2.frozen? ⟨g, 1, none⟩ = false := D2.fr
          have SN := Df.snap D2 (own_mono o2 (Nat.zero_le _)) rfl k2 D1 (fun k hk => hF k (by have := g1.size; omega)) g2
          clear D2 o2
          go_wp2_with fail
          refine (KP _ (by have := g1.size; have := SN.2.size; omega) SN.1).out.mono ?_
          rintro _ w3 ⟨rfl, D3, g3⟩
          go_wp2_with fail
          go_ret
          exact ⟨rfl, D3, only_step (only_step g1 SN.2 (fun k hk => .inl hk)) g3 (fun k hk => .inl hk)⟩
  · rw [show swapE d b = 18 by simp [swapE, hd], show swapS d b = d by simp [swapS, hd]]
    rw [hd] at c4
    clear h hk hb
    go_enter Try.func21, Try.ntmps21
    go_wp2_with fail
    go_ret
    exact ⟨rfl, H.out, only_refl _ _⟩
theorem crash_anyF (F : Nat → Prop) (g : Nat) (d : DS) (p : Int) (w : World) (h : Df w F g d) (hk : Ok d) (hF : ∀ k, w.heap.size ≤ k → F k) (_ : -9223372036854775808 ≤ p) (_ : p ≤ 9223372036854775807) :
    Calls Try.prog 19 #[.pointer (some ⟨g, 0, none⟩), .int .i64 p] w fun e w' => e = .returned (.int .i64 (crashK d p)) ∧ Df w' F g (crashS d p) ∧ w.grownBy w' (some g) := by
  have c2 := h.c2
  obtain ⟨A, c, c0⟩ := h.c0
  have kl := hk.l
  have ks := hk.sy
  obtain ⟨cc, hcc⟩ : ∃ cc : Int, cc = (d.L.length : Int) - d.sy + 1 := ⟨_, rfl⟩
  have hcp : 0 < cc := by omega
  obtain ⟨t, ht, ht1, ht2, ht3, ht4⟩ := crash_mod p cc hcp
  have hK : crashK d p = p % cc := by unfold crashK; rw [← hcc]
  have hk1 := Int.emod_nonneg p (show cc ≠ 0 by omega)
  have hk2 := Int.emod_lt_of_pos p hcp
  obtain ⟨kk, hkk⟩ : ∃ kk, kk = p % cc := ⟨_, rfl⟩
  rw [← hkk] at hK hk1 hk2 ht3
  obtain ⟨m, hm⟩ : ∃ m : Nat, d.sy + kk = (m : Int) := ⟨(d.sy + kk).toNat, by omega⟩
  have hml : m ≤ d.L.length := by omega
  have hS : crashS d p = { d with L := d.L.take m, sy := m, dd := false, st := 0, sn := 0 } := by
    unfold crashS; rw [hK, hm, Int.toNat_natCast]
  rw [hK, hS]
  have w1 : IntKind.i64.wrap ((d.L.length : Int) - d.sy) = (d.L.length : Int) - d.sy := by rw [IntKind.wrap_i64]; omega
  have w2 : IntKind.i64.wrap ((d.L.length : Int) - d.sy + 1) = cc := by rw [IntKind.wrap_i64]; omega
  have w3 : IntKind.i64.wrap (t + cc) = t + cc := by rw [IntKind.wrap_i64]; omega
  have w4 : (t + cc).tmod cc = kk := by rw [Int.tmod_eq_emod_of_nonneg ht4]; exact ht3
  have w5 : IntKind.i64.wrap (d.sy + kk) = (m : Int) := by rw [IntKind.wrap_i64]; omega
  have hcz : ¬ cc = 0 := by omega
  have hczb : (cc == 0) = false := by rw [beq_eq_false_iff_ne]; exact hcz
  have hcm : ¬ cc = -1 := by omega
  have KP := fun W (hW : w.heap.size ≤ W.heap.size) H => Lib.hid (keep_dkF F g d m W H hml (by omega) (fun k hk => hF k (by omega)))
  have H := Lib.hid h
  clear hS hK hk h hkk hcc ht1 ht2 ht3 hm
  go_enter Try.func19, Try.ntmps19
  go_wp2_with fail
  go_quiet (fail)
  go_wp2_with fail
  have c2d : (w.drewN nq).drew.cell? ⟨g, 2, none⟩ = some (.int .i64 d.sy) := c2
  have D0 : Hid (Df (w.drewN nq).drew F g d) := H.out
  have G0 : w.grownBy (w.drewN nq).drew (some g) := only_drew (only_drewN (only_refl _ _) _)
  go_region_with (go_at_call 33; refine (KP (w.drewN nq).drew (show w.heap.size ≤ w.heap.size from Nat.le_refl _) D0.out).out.mono ?_; rintro e w6 ⟨rfl, D1, g1⟩)
  have e4 := D1.c4
  have f4 : w6.frozen? ⟨g, 4, none⟩ = false := D1.fr
  have D2 : Hid (Df (w6.setCell ⟨g, 4, none⟩ (.bool false)) F g { keepS d m with dd := false } ∧ w6.grownBy (w6.setCell ⟨g, 4, none⟩ (.bool false)) (some g)) := by
    obtain ⟨vL, vS, hB, hL, hS, nL, nS, nLS, hBg⟩ := D1
    have gg : w6.grownBy (w6.setCell ⟨g, 4, none⟩ (.bool false)) (some g) := only_set (only_refl w6 (some g)) (.inl rfl) _
    have hB1 : Blk w6 g #[vL, vS, .int .i64 m, .int .i64 d.rm, .bool d.dd, .int .i64 d.st, .int .i64 d.sn, .int .i64 d.op] := hB
    exact ⟨⟨vL, vS, hB1.set, kept_other hL gg (fun k hk e => by cases hk; exact nL e), kept_other hS gg (fun k hk e => by cases hk; exact nS e), nL, nS, nLS, hBg⟩, gg⟩
  have ST := Lib.hid (stop_anyF F g _ 0 _ D2.out.1)
  clear D1
  go_wp2_with fail
  refine ST.out.mono ?_
  rintro _ w7 ⟨rfl, D3, g3⟩
  go_wp2_with fail
  go_ret
  exact ⟨rfl, D3, only_step (only_step (only_step G0 g1 (fun k hk => .inl hk)) D2.out.2 (fun k hk => .inl hk)) g3 (fun k hk => .inl hk)⟩
/-- What an Append may have turned: block g, blocks of F. -/
structure OutF (w : World) (F : Nat → Prop) (g : Nat) (w' : World) : Prop where
  os : w'.os = w.os
  tape : w'.tape = w.tape
  output : w'.output = w.output
  size : w.heap.size ≤ w'.heap.size
  block : ∀ k, k < w.heap.size → k ≠ g → ¬ F k → w'.heap[k]? = w.heap[k]?
theorem OutF.of {w w' : World} {F : Nat → Prop} {g : Nat} (h : w.grownBy w' (some g)) : OutF w F g w' := ⟨h.os, h.tape, h.output, h.size, fun k hk hg _ => h.block k hk (fun e => by injection e with e; exact hg e)⟩
theorem append_anyF (F : Nat → Prop) (g : Nat) (d : DS) (A : Option Addr) (c : Nat) (b : List Int) (w : World) (h : Df w F g d) (hk : Ok d) (hb : Has w w.heap.size A (bs b)) (hbl : b.length ≤ 1073741824) (hF : ∀ k, w.heap.size ≤ k → F k) :
    Calls Try.prog 13 #[.pointer (some ⟨g, 0, none⟩), .slice A b.length c] w fun e w' => e = .returned (.int .i64 (appendE d b)) ∧ Df w' F g (appendS d b) ∧ OutF w F g w' := by
  have hlt := h.lt
  obtain ⟨vL, vS, hB, hL, hS, nL, nS, nLS, hBg⟩ := h
  have kl := hk.l; have ks := hk.s; have kr := hk.rm
  have e1 : w.cell? ⟨g, 0, none⟩ = some vL := hB.cell rfl
  have e2 : w.cell? ⟨g, 1, none⟩ = some vS := hB.cell rfl
  have e4 : w.cell? ⟨g, 3, none⟩ = some (.int .i64 d.rm) := hB.cell rfl
  have e5 : w.cell? ⟨g, 4, none⟩ = some (.bool d.dd) := hB.cell rfl
  have hDk0 : Hid (∀ n, Df (w.drewN n) F g d ∧ OutF w F g (w.drewN n)) := fun n => ⟨⟨vL, vS, hB, hL, hS, nL, nS, nLS, hBg⟩, OutF.of (only_drewN (only_refl w (some g)) n)⟩
  have hDk00 : Hid (Df w F g d ∧ OutF w F g w) := ⟨⟨vL, vS, hB, hL, hS, nL, nS, nLS, hBg⟩, OutF.of (only_refl w (some g))⟩
  obtain ⟨AL, cL, rfl⟩ := own_slice hL
  obtain ⟨AS, cS, rfl⟩ := own_slice hS
  cases hd : d.dd
  · rw [hd] at e5
    have hw1 : IntKind.i64.wrap ((d.L.length : Int) + (d.S.length : Int)) = (d.L.length : Int) + (d.S.length : Int) := by rw [IntKind.wrap_i64]; omega
    have hw2 : IntKind.i64.wrap ((d.L.length : Int) + (d.S.length : Int) + (b.length : Int)) = (d.L.length : Int) + (d.S.length : Int) + (b.length : Int) := by rw [IntKind.wrap_i64]; omega
    by_cases hf : d.rm < (d.L.length : Int) + d.S.length + b.length
    · have hv : appendE d b = 17 := by simp [appendE, hd, hf]
      have hv2 : appendS d b = d := by simp [appendS, hf]
      rw [hv, hv2]
      clear hv hv2 hB hL hS hb hk
      go_enter Try.func13, Try.ntmps13
      go_wp2_with fail
      go_quiet (fail)
      go_wp2_with fail
      go_ret
      exact ⟨rfl, hDk0.out _⟩
    · have hv : appendE d b = spendE d := by simp [appendE, hd, hf]
      have hv2 : appendS d b = spendS { d with L := d.L ++ b } := by simp [appendS, hd, hf]
      obtain ⟨LL, hLL⟩ : ∃ LL, LL = d.L ++ b := ⟨_, rfl⟩
      rw [hv, hv2, ← hLL]
      have HLL := Lib.hid hLL
      have HO : ∀ n, Hid ((w.drewN n).ownsRow 0 5 1 (.slice AL d.L.length cL) (bs d.L).length (bs d.L)) := fun n => by rw [bs_len]; exact hL
      have HSr : ∀ n, Hid (Src Try.prog 1 31 (.slice A b.length c) (bs b).length (bs b) (w.drewN n)) := fun n => by
        have := (show Has (w.drewN n) w.heap.size A (bs b) from hb).src (P := Try.prog) (tx := 31) Try.underlying31 c (bs_one _)
        rw [bs_len] at this ⊢; exact this
      have HBk := Lib.hid hB
      have HSd := Lib.hid hS
      have HLd := Lib.hid hL
      have NE := Lib.hid (And.intro nL (And.intro nS nLS))
      have HFF := Lib.hid hBg
      have HK := Lib.hid hk
      have HD := Lib.hid hd
      have hlen : (bs d.L).length + (bs b).length ≤ 70368744177664 := by rw [bs_len, bs_len]; omega
      clear hv hv2 hB hL hS hb nL nS nLS hk hDk0 hDk00 hd hLL
      go_enter Try.func13, Try.ntmps13
      go_wp2_with fail
      go_quiet (fail)
      go_wp2_with (at_builtin; go_loud (refine app_bytes rfl _ _ 31 rfl 0 (.slice AL d.L.length cL) (bs d.L) rfl (HO _).out (.slice A b.length c) (bs b) rfl (HSr _).out hlen (Nat.zero_le _) ?_); intro v2 w2 g2; have o2 := g2.own; rw [← bs_append, ← HLL.out, bs_len] at o2; have at2 := g2.at_; have on2 := g2.only; clear g2; obtain ⟨A2, c2, rfl⟩ := own_slice o2; have Hb2 := (HBk.out.drewN _).only on2 NE.out.1; have d0 : w2.cell? ⟨g, 0, none⟩ = some (.slice AL d.L.length cL) := Hb2.cell rfl; have f0 : w2.frozen? ⟨g, 0, none⟩ = false := Hb2.frozen)
      have Hb3 : Blk (w2.setCell ⟨g, 0, none⟩ (.slice A2 LL.length c2)) g #[.slice A2 LL.length c2, .slice AS d.S.length cS, .int .i64 d.sy, .int .i64 d.rm, .bool d.dd, .int .i64 d.st, .int .i64 d.sn, .int .i64 d.op] := Hb2.set
      refine (spend_any g _ _ _ _ _ _ _ _ _ Hb3 HK.out.sn HK.out.op).mono ?_
      rintro _ w4 ⟨rfl, Hb4, g4⟩
      have z2 := on2.size
      have zz : (w.drewN nq).heap.size = w.heap.size := rfl
      have n2 : (Value.slice A2 LL.length c2).ownBlock ≠ some g := by
        rcases at2 with h | ⟨q, h, hq⟩
        · rw [h]; exact NE.out.1
        · rw [h]; intro e; injection e with e; omega
      have oS2 : w2.ownsRow 0 5 1 (.slice AS d.S.length cS) d.S.length (bs d.S) := kept_other (w := w.drewN nq) HSd.out on2 (fun k hk e => by
        rcases NE.out.2.2 with h | h
        · rw [h] at hk; cases hk
        · exact h (hk.trans e.symm))
      have nd : (Value.slice A2 LL.length c2).ownBlock = none ∨ (Value.slice A2 LL.length c2).ownBlock ≠ (Value.slice AS d.S.length cS).ownBlock := by
        rcases at2 with h | ⟨q, h, hq⟩
        · rw [h]; exact NE.out.2.2
        · right; rw [h]; intro e
          have := (HSd.out.lt q e.symm).2
          omega
      have gg : w2.grownBy w4 (some g) := only_step (only_set (only_refl w2 (some g)) (.inl rfl) _) g4 (fun k hk => .inl hk)
      have K1 := kept_other o2 gg (fun k hk e => by cases hk; exact n2 e)
      have K2 := kept_other oS2 gg (fun k hk e => by cases hk; exact NE.out.2.1 e)
      have BL : OutF w F g w4 := ⟨gg.os.trans on2.os, gg.tape.trans on2.tape, gg.output.trans on2.output, Nat.le_trans on2.size gg.size, fun k hk hg hn => (gg.block k (by omega) (fun e => by injection e with e; exact hg e)).trans (on2.block k hk (fun e => hn (HFF.out.1 k e.symm)))⟩
      have NF : FF F (.slice A2 LL.length c2) (.slice AS d.S.length cS) := ⟨fun k e => by
        rcases at2 with h | ⟨q, h, hq⟩
        · rw [h] at e; exact HFF.out.1 k e
        · rw [h] at e; injection e with e; exact hF k (by omega), HFF.out.2⟩
      go_wp2_with fail
      go_ret
      exact ⟨rfl, ⟨_, _, Hb4, K1, K2, n2, NE.out.2.1, nd, NF⟩, BL⟩
  · have hv : appendE d b = 18 := by simp [appendE, hd]
    have hv2 : appendS d b = d := by simp [appendS, hd]
    rw [hv, hv2]
    rw [hd] at e5
    clear hv hv2 hB hL hS hb hk
    go_enter Try.func13, Try.ntmps13
    go_wp2_with fail
    go_ret
    exact ⟨rfl, hDk00.out⟩
end Go.Proofs.Ytmjfemnjkgfgfaa
