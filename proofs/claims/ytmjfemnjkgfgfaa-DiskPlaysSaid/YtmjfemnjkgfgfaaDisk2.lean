/- Package disk's other methods: New, Sync, Cut, Swap, Log, Snap, Stop, Crash, Dead, Ops. Conditions: its numbers stay below 2^40. -/
import Derived.Test.YtmjfemnjkgfgfaaDisk
namespace Go.Proofs.Ytmjfemnjkgfgfaa
open Go.RowKit Go.Deep

def newS (room : Int) : DS := { L := [], S := [], sy := 0, rm := room, st := 0, sn := 0, op := 0, dd := false }
theorem new_any (B : Nat) (room : Int) (w : World) (h1 : 1 ≤ room) (h2 : room ≤ 16777216) (hB : B ≤ w.heap.size) :
    Calls Try.prog 10 #[.int .i64 room] w fun e w' => ∃ g, e = .returned (.tuple #[.pointer (some ⟨g, 0, none⟩), .int .i64 0]) ∧ Dk w' B g (newS room) ∧ w.grownBy w' none := by
  have t1 : ¬ room < 1 := by omega
  have t2 : ¬ (16777216 : Int) < room := by omega
  go_enter Try.func10, Try.ntmps10
  go_wp2_with fail
  go_ret2
  exact ⟨w.heap.size, rfl, ⟨.slice none 0 0, .slice none 0 0, heap_alloc_new _ _, World.ownsRow_nil _ _ _ _, World.ownsRow_nil _ _ _ _, by simp [Value.ownBlock], by simp [Value.ownBlock], .inl rfl, hB⟩, World.grownBy_alloc _ _ none⟩

theorem Dk.below {w w' : World} {B g : Nat} {d : DS} (h : Dk w B g d) (hg : w.grownBy w' none) : Dk w' B g d := by
  obtain ⟨vL, vS, hB, hL, hS, nL, nS, nLS, hBg⟩ := h
  exact ⟨vL, vS, hB.only hg (by simp), kept_other hL hg (fun _ h => by cases h), kept_other hS hg (fun _ h => by cases h), nL, nS, nLS, hBg⟩
theorem log_any (B g : Nat) (d : DS) (w : World) (h : Dk w B g d) (hl : d.L.length ≤ 1099511627776) :
    Calls Try.prog 25 #[.pointer (some ⟨g, 0, none⟩)] w fun e w' => (∃ v, e = .returned v ∧ w'.ownsRow w.heap.size 5 1 v d.L.length (bs d.L)) ∧ w.grownBy w' none := by
  obtain ⟨vL, vS, hB, hL, hS, nL, nS, nLS, hBg⟩ := h
  obtain ⟨A, c, rfl⟩ := own_slice hL
  have c0 : w.cell? ⟨g, 0, none⟩ = some (.slice A d.L.length c) := hB.cell rfl
  have F := fresh_any A c d.L w (Has.own hL) hl
  clear hB hL hS
  go_enter Try.func25, Try.ntmps25
  go_wp2_with fail
  refine F.mono ?_
  rintro _ w1 ⟨v1, rfl, o1, g1, _⟩
  go_wp2_with fail
  go_ret
  exact ⟨⟨v1, rfl, o1⟩, g1⟩
theorem snap_any (B g : Nat) (d : DS) (w : World) (h : Dk w B g d) (hl : d.S.length ≤ 1099511627776) :
    Calls Try.prog 26 #[.pointer (some ⟨g, 0, none⟩)] w fun e w' => (∃ v, e = .returned v ∧ w'.ownsRow w.heap.size 5 1 v d.S.length (bs d.S)) ∧ w.grownBy w' none := by
  obtain ⟨vL, vS, hB, hL, hS, nL, nS, nLS, hBg⟩ := h
  obtain ⟨A, c, rfl⟩ := own_slice hS
  have c0 : w.cell? ⟨g, 1, none⟩ = some (.slice A d.S.length c) := hB.cell rfl
  have F := fresh_any A c d.S w (Has.own hS) hl
  clear hB hL hS
  go_enter Try.func26, Try.ntmps26
  go_wp2_with fail
  refine F.mono ?_
  rintro _ w1 ⟨v1, rfl, o1, g1, _⟩
  go_wp2_with fail
  go_ret
  exact ⟨⟨v1, rfl, o1⟩, g1⟩
theorem dead_any (B g : Nat) (d : DS) (w : World) (h : Dk w B g d) :
    Calls Try.prog 27 #[.pointer (some ⟨g, 0, none⟩)] w fun e w' => e = .returned (.bool d.dd) ∧ w = w' := by
  obtain ⟨vL, vS, hB, hL, hS, nL, nS, nLS, hBg⟩ := h
  have c4 : w.cell? ⟨g, 4, none⟩ = some (.bool d.dd) := hB.cell rfl
  clear hB hL hS
  go_enter Try.func27, Try.ntmps27
  go_wp2_with fail
  go_ret
  exact ⟨rfl, rfl⟩
theorem ops_any (B g : Nat) (d : DS) (w : World) (h : Dk w B g d) :
    Calls Try.prog 28 #[.pointer (some ⟨g, 0, none⟩)] w fun e w' => e = .returned (.int .i64 d.op) ∧ w = w' := by
  obtain ⟨vL, vS, hB, hL, hS, nL, nS, nLS, hBg⟩ := h
  have c7 : w.cell? ⟨g, 7, none⟩ = some (.int .i64 d.op) := hB.cell rfl
  clear hB hL hS
  go_enter Try.func28, Try.ntmps28
  go_wp2_with fail
  go_ret
  exact ⟨rfl, rfl⟩
def stopS (d : DS) (n : Int) : DS := { d with st := n, sn := 0 }
theorem stop_any (B g : Nat) (d : DS) (n : Int) (w : World) (h : Dk w B g d) :
    Calls Try.prog 17 #[.pointer (some ⟨g, 0, none⟩), .int .i64 n] w fun e w' => e = .returned (.tuple #[]) ∧ Dk w' B g (stopS d n) ∧ w.grownBy w' (some g) := by
  obtain ⟨vL, vS, hB, hL, hS, nL, nS, nLS, hBg⟩ := h
  have c5 : w.cell? ⟨g, 5, none⟩ = some (.int .i64 d.st) := hB.cell rfl
  have c6 : w.cell? ⟨g, 6, none⟩ = some (.int .i64 d.sn) := hB.cell rfl
  have f5 : w.frozen? ⟨g, 5, none⟩ = false := hB.frozen
  have f6 : w.frozen? ⟨g, 6, none⟩ = false := hB.frozen
  have gg1 : w.grownBy (w.setCell ⟨g, 5, none⟩ (.int .i64 n)) (some g) := only_set (only_refl w (some g)) (.inl rfl) _
  have gg : w.grownBy ((w.setCell ⟨g, 5, none⟩ (.int .i64 n)).setCell ⟨g, 6, none⟩ (.int .i64 0)) (some g) := only_set (p := ⟨g, 6, none⟩) gg1 (.inl rfl) (.int .i64 0)
  have b0 : Blk w g #[vL, vS, .int .i64 d.sy, .int .i64 d.rm, .bool d.dd, .int .i64 d.st, .int .i64 d.sn, .int .i64 d.op] := hB
  have b1 : Blk (w.setCell ⟨g, 5, none⟩ (.int .i64 n)) g #[vL, vS, .int .i64 d.sy, .int .i64 d.rm, .bool d.dd, .int .i64 n, .int .i64 d.sn, .int .i64 d.op] := b0.set
  have b2 : Blk ((w.setCell ⟨g, 5, none⟩ (.int .i64 n)).setCell ⟨g, 6, none⟩ (.int .i64 0)) g #[vL, vS, .int .i64 d.sy, .int .i64 d.rm, .bool d.dd, .int .i64 n, .int .i64 0, .int .i64 d.op] := b1.set
  have fin : Hid (Dk ((w.setCell ⟨g, 5, none⟩ (.int .i64 n)).setCell ⟨g, 6, none⟩ (.int .i64 0)) B g (stopS d n) ∧ w.grownBy ((w.setCell ⟨g, 5, none⟩ (.int .i64 n)).setCell ⟨g, 6, none⟩ (.int .i64 0)) (some g)) :=
    ⟨⟨vL, vS, b2, kept_other hL gg (fun k hk e => by cases hk; exact nL e), kept_other hS gg (fun k hk e => by cases hk; exact nS e), nL, nS, nLS, hBg⟩, gg⟩
  clear hB hL hS gg gg1 b0 b1 b2
  go_enter Try.func17, Try.ntmps17
  go_wp2_with fail
  go_end0
  exact ⟨rfl, fin.out.1, fin.out.2⟩
/-- Behind a spend: the disk's cells anew. -/
theorem Dk.spent {w w' : World} {B g : Nat} {d : DS} {vL vS : Value} (h : Blk w' g #[vL, vS, .int .i64 d.sy, .int .i64 d.rm, .bool (d.dd || goes d.st d.sn), .int .i64 d.st, .int .i64 (d.sn + 1), .int .i64 (spO d.st d.sn d.op)]) (gg : w.grownBy w' (some g))
    (hL : w.ownsRow B 5 1 vL d.L.length (bs d.L)) (hS : w.ownsRow B 5 1 vS d.S.length (bs d.S)) (nL : vL.ownBlock ≠ some g) (nS : vS.ownBlock ≠ some g) (nLS : vL.ownBlock = none ∨ vL.ownBlock ≠ vS.ownBlock) (hBg : B ≤ g) : Dk w' B g (spendS d) :=
  ⟨vL, vS, h, kept_other hL gg (fun k hk e => by cases hk; exact nL e), kept_other hS gg (fun k hk e => by cases hk; exact nS e), nL, nS, nLS, hBg⟩
def syncS (d : DS) : DS := if d.dd = true then d else if goes d.st d.sn = true then spendS d else { spendS d with sy := d.L.length }
def syncE (d : DS) : Int := if d.dd = true then 18 else spR d.st d.sn
theorem sync_any (B g : Nat) (d : DS) (w : World) (h : Dk w B g d) (hk : Ok d) :
    Calls Try.prog 15 #[.pointer (some ⟨g, 0, none⟩)] w fun e w' => e = .returned (.int .i64 (syncE d)) ∧ Dk w' B g (syncS d) ∧ w.grownBy w' (some g) := by
  have h0 := h
  obtain ⟨vL, vS, hB, hL, hS, nL, nS, nLS, hBg⟩ := h
  have c4 : w.cell? ⟨g, 4, none⟩ = some (.bool d.dd) := hB.cell rfl
  obtain ⟨A, c, rfl⟩ := own_slice hL
  have H0 := Lib.hid h0
  clear h0
  cases hd : d.dd
  · have SP := spend_any g _ _ _ _ _ _ _ _ w hB hk.sn hk.op
    rw [hd] at c4
    have hv : syncE d = spR d.st d.sn := by simp [syncE, hd]
    rw [hv]
    cases hg : goes d.st d.sn
    · have hr : spR d.st d.sn = 0 := by simp [spR, hg]
      have hv2 : syncS d = { spendS d with sy := d.L.length } := by simp [syncS, hd, hg]
      rw [hr] at SP ⊢
      rw [hv2]
      have SP := Lib.hid SP
      have HG := Lib.hid hg
      clear hv hv2 hr hg
      go_enter Try.func15, Try.ntmps15
      go_wp2_with fail
      refine SP.out.mono ?_
      rintro _ w1 ⟨rfl, Hb1, g1⟩
      have ST := Lib.hid (settle_any g A d.L.length c _ _ _ _ _ _ _ w1 Hb1)
      have D1 : Hid (Dk w1 B g (spendS d)) := Dk.spent Hb1 g1 hL hS nL nS nLS hBg
      clear Hb1
      go_wp2_with fail
      refine ST.out.mono ?_
      rintro _ w2 ⟨rfl, Hb2, g2⟩
      have D2 : Hid (Dk w2 B g { spendS d with sy := d.L.length }) := by
        have gg := only_step g1 g2 (fun k hk => .inl hk)
        exact ⟨_, vS, Hb2, kept_other hL gg (fun k hk e => by cases hk; exact nL e), kept_other hS gg (fun k hk e => by cases hk; exact nS e), nL, nS, nLS, hBg⟩
      clear Hb2
      go_wp2_with fail
      go_ret
      exact ⟨rfl, D2.out, only_step g1 g2 (fun k hk => .inl hk)⟩
    · have hr : spR d.st d.sn = 18 := by simp [spR, hg]
      have hv2 : syncS d = spendS d := by simp [syncS, hd, hg]
      rw [hr] at SP ⊢
      rw [hv2]
      have SP := Lib.hid SP
      clear hv hv2 hr hg
      go_enter Try.func15, Try.ntmps15
      go_wp2_with fail
      refine SP.out.mono ?_
      rintro _ w1 ⟨rfl, Hb1, g1⟩
      have D1 : Hid (Dk w1 B g (spendS d)) := Dk.spent Hb1 g1 hL hS nL nS nLS hBg
      clear Hb1
      go_wp2_with fail
      go_ret
      exact ⟨rfl, D1.out, g1⟩
  · have hv : syncE d = 18 := by simp [syncE, hd]
    have hv2 : syncS d = d := by simp [syncS, hd]
    rw [hv, hv2]
    rw [hd] at c4
    clear hv hv2 hB hL hS
    go_enter Try.func15, Try.ntmps15
    go_wp2_with fail
    go_ret
    exact ⟨rfl, H0.out, only_refl _ _⟩
end Go.Proofs.Ytmjfemnjkgfgfaa
