/- Package disk's methods as its callers see them: what a disk holds, and what each call makes of it. Conditions: its numbers stay below 2^40. -/
import Derived.Test.YtmjfemnjkgfgfaaDk
namespace Go.Proofs.Ytmjfemnjkgfgfaa
open Go.RowKit Go.Deep

/-- What a disk holds: its log, its snapshot, how much is synced, its room, when it stops, how many operations it has seen, and done; whether the power is off. -/
structure DS where
  L : List Int
  S : List Int
  sy : Int
  rm : Int
  st : Int
  sn : Int
  op : Int
  dd : Bool
def cellsOf (vL vS : Value) (d : DS) : Array Value := #[vL, vS, .int .i64 d.sy, .int .i64 d.rm, .bool d.dd, .int .i64 d.st, .int .i64 d.sn, .int .i64 d.op]
def Dk (w : World) (B g : Nat) (d : DS) : Prop := ∃ vL vS, Blk w g (cellsOf vL vS d) ∧ w.ownsRow B 5 1 vL d.L.length (bs d.L) ∧ w.ownsRow B 5 1 vS d.S.length (bs d.S) ∧
  vL.ownBlock ≠ some g ∧ vS.ownBlock ≠ some g ∧ (vL.ownBlock = none ∨ vL.ownBlock ≠ vS.ownBlock) ∧ B ≤ g
structure Ok (d : DS) : Prop where
  l : d.L.length ≤ 1073741824
  s : d.S.length ≤ 1073741824
  sy : 0 ≤ d.sy ∧ d.sy ≤ d.L.length
  rm : 0 ≤ d.rm ∧ d.rm ≤ 1073741824
  st : -9223372036854775808 ≤ d.st
  sn : 0 ≤ d.sn ∧ d.sn ≤ 1099511627776
  op : 0 ≤ d.op ∧ d.op ≤ 1099511627776
def spendS (d : DS) : DS := { d with sn := d.sn + 1, dd := d.dd || goes d.st d.sn, op := spO d.st d.sn d.op }
def spendE (d : DS) : Int := spR d.st d.sn
theorem bel {w w' : World} {r : Option Nat} {B : Nat} (h : w.grownBy w' r) (hr : ∀ k, r = some k → B ≤ k) (hB : B ≤ w.heap.size) : Below B w w' :=
  ⟨h.os, h.tape, h.output, h.size, fun k hk => h.block k (by omega) (fun e => by have := hr k e.symm; omega)⟩
theorem Dk.lt {w : World} {B g : Nat} {d : DS} (h : Dk w B g d) : B ≤ g ∧ g < w.heap.size := by
  obtain ⟨_, _, hb, _, _, _, _, _, h⟩ := h
  exact ⟨h, hb.lt⟩
theorem Blk.drewN {w : World} {g : Nat} {cs : Array Value} (h : Blk w g cs) (n : Nat) : Blk (w.drewN n) g cs := h
theorem ne_of_lt {v : Value} {w : World} {B n g : Nat} {xs : List Value} (h : w.ownsRow B 5 1 v n xs) (hg : w.heap.size ≤ g) : v.ownBlock ≠ some g := fun e => by
  have := (h.lt g e).2; omega
theorem kept_other {w w' : World} {B n : Nat} {v : Value} {xs : List Value} {r : Option Nat} (h : w.ownsRow B 5 1 v n xs) (hg : w.grownBy w' r) (hr : ∀ k, r = some k → v.ownBlock ≠ some k) : w'.ownsRow B 5 1 v n xs := by
  refine h.kept hg ?_
  cases hv : v.ownBlock with
  | none => exact .inl rfl
  | some q => exact .inr (fun e => hr q e.symm hv)

def appendS (d : DS) (b : List Int) : DS := if d.dd = true ∨ d.rm < (d.L.length : Int) + d.S.length + b.length then d else spendS { d with L := d.L ++ b }
def appendE (d : DS) (b : List Int) : Int := if d.dd = true then 18 else if d.rm < (d.L.length : Int) + d.S.length + b.length then 17 else spendE d
theorem append_any (B g : Nat) (d : DS) (A : Option Addr) (c : Nat) (b : List Int) (w : World) (h : Dk w B g d) (hk : Ok d) (hb : Has w w.heap.size A (bs b)) (hbl : b.length ≤ 1073741824) :
    Calls Try.prog 13 #[.pointer (some ⟨g, 0, none⟩), .slice A b.length c] w fun e w' => e = .returned (.int .i64 (appendE d b)) ∧ Dk w' B g (appendS d b) ∧ Below B w w' := by
  have hlt := h.lt
  obtain ⟨vL, vS, hB, hL, hS, nL, nS, nLS, hBg⟩ := h
  have kl := hk.l; have ks := hk.s; have kr := hk.rm
  have e1 : w.cell? ⟨g, 0, none⟩ = some vL := hB.cell rfl
  have e2 : w.cell? ⟨g, 1, none⟩ = some vS := hB.cell rfl
  have e4 : w.cell? ⟨g, 3, none⟩ = some (.int .i64 d.rm) := hB.cell rfl
  have e5 : w.cell? ⟨g, 4, none⟩ = some (.bool d.dd) := hB.cell rfl
  have hDk0 : Hid (∀ n, Dk (w.drewN n) B g d ∧ Below B w (w.drewN n)) := fun n => ⟨⟨vL, vS, hB, hL, hS, nL, nS, nLS, hBg⟩, bel (only_drewN (only_refl w none) n) (fun _ e => by cases e) (by omega)⟩
  have hDk00 : Hid (Dk w B g d ∧ Below B w w) := ⟨⟨vL, vS, hB, hL, hS, nL, nS, nLS, hBg⟩, bel (only_refl w none) (fun _ e => by cases e) (by omega)⟩
  obtain ⟨AL, cL, rfl⟩ := own_slice hL
  obtain ⟨AS, cS, rfl⟩ := own_slice hS
  cases hd : d.dd
  · rw [hd] at e5
    have hw1 : IntKind.i64.wrap ((d.L.length : Int) + (d.S.length : Int)) = (d.L.length : Int) + (d.S.length : Int) := by rw [IntKind.wrap_i64]; omega
    have hw2 : IntKind.i64.wrap ((d.L.length : Int) + (d.S.length : Int) + (b.length : Int)) = (d.L.length : Int) + (d.S.length : Int) + (b.length : Int) := by rw [IntKind.wrap_i64]; omega
    by_cases hf : d.rm < (d.L.length : Int) + d.S.length + b.length
    · have hv : appendE d b = 17 := by simp [appendE, hd, hf]
      have hv2 : appendS d b = d := by simp [appendS, hf]
      rw [hv, hv2]
      clear hv hv2 hB hL hS hb hk
      go_enter Try.func13, Try.ntmps13
      go_wp2_with fail
      go_quiet (fail)
      go_wp2_with fail
      go_ret
      exact ⟨rfl, hDk0.out _⟩
    · have hv : appendE d b = spendE d := by simp [appendE, hd, hf]
      have hv2 : appendS d b = spendS { d with L := d.L ++ b } := by simp [appendS, hd, hf]
      obtain ⟨LL, hLL⟩ : ∃ LL, LL = d.L ++ b := ⟨_, rfl⟩
      rw [hv, hv2, ← hLL]
      have HLL := Lib.hid hLL
      have HO : ∀ n, Hid ((w.drewN n).ownsRow B 5 1 (.slice AL d.L.length cL) (bs d.L).length (bs d.L)) := fun n => by rw [bs_len]; exact hL
      have HSr : ∀ n, Hid (Src Try.prog 1 31 (.slice A b.length c) (bs b).length (bs b) (w.drewN n)) := fun n => by
        have := (show Has (w.drewN n) w.heap.size A (bs b) from hb).src (P := Try.prog) (tx := 31) Try.underlying31 c (bs_one _)
        rw [bs_len] at this ⊢; exact this
      have HBk := Lib.hid hB
      have HSd := Lib.hid hS
      have HLd := Lib.hid hL
      have NE := Lib.hid (And.intro nL (And.intro nS nLS))
      have HK := Lib.hid hk
      have HD := Lib.hid hd
      have hlen : (bs d.L).length + (bs b).length ≤ 70368744177664 := by rw [bs_len, bs_len]; omega
      clear hv hv2 hB hL hS hb nL nS nLS hk hDk0 hDk00 hd hLL
      go_enter Try.func13, Try.ntmps13
      go_wp2_with fail
      go_quiet (fail)
      go_wp2_with (at_builtin; go_loud (refine app_bytes rfl _ _ 31 rfl B (.slice AL d.L.length cL) (bs d.L) rfl (HO _).out (.slice A b.length c) (bs b) rfl (HSr _).out hlen (by simp; omega) ?_); intro v2 w2 g2; have o2 := g2.own; rw [← bs_append, ← HLL.out, bs_len] at o2; have at2 := g2.at_; have on2 := g2.only; clear g2; obtain ⟨A2, c2, rfl⟩ := own_slice o2; have Hb2 := (HBk.out.drewN _).only on2 NE.out.1; have d0 : w2.cell? ⟨g, 0, none⟩ = some (.slice AL d.L.length cL) := Hb2.cell rfl; have f0 : w2.frozen? ⟨g, 0, none⟩ = false := Hb2.frozen)
      have Hb3 : Blk (w2.setCell ⟨g, 0, none⟩ (.slice A2 LL.length c2)) g #[.slice A2 LL.length c2, .slice AS d.S.length cS, .int .i64 d.sy, .int .i64 d.rm, .bool d.dd, .int .i64 d.st, .int .i64 d.sn, .int .i64 d.op] := Hb2.set
      refine (spend_any g _ _ _ _ _ _ _ _ _ Hb3 HK.out.sn HK.out.op).mono ?_
      rintro _ w4 ⟨rfl, Hb4, g4⟩
      have z2 := on2.size
      have zz : (w.drewN nq).heap.size = w.heap.size := rfl
      have n2 : (Value.slice A2 LL.length c2).ownBlock ≠ some g := by
        rcases at2 with h | ⟨q, h, hq⟩
        · rw [h]; exact NE.out.1
        · rw [h]; intro e; injection e with e; omega
      have oS2 : w2.ownsRow B 5 1 (.slice AS d.S.length cS) d.S.length (bs d.S) := kept_other (w := w.drewN nq) HSd.out on2 (fun k hk e => by
        rcases NE.out.2.2 with h | h
        · rw [h] at hk; cases hk
        · exact h (hk.trans e.symm))
      have nd : (Value.slice A2 LL.length c2).ownBlock = none ∨ (Value.slice A2 LL.length c2).ownBlock ≠ (Value.slice AS d.S.length cS).ownBlock := by
        rcases at2 with h | ⟨q, h, hq⟩
        · rw [h]; exact NE.out.2.2
        · right; rw [h]; intro e
          have := (HSd.out.lt q e.symm).2
          omega
      have gg : w2.grownBy w4 (some g) := only_step (only_set (only_refl w2 (some g)) (.inl rfl) _) g4 (fun k hk => .inl hk)
      have K1 := kept_other o2 gg (fun k hk e => by cases hk; exact n2 e)
      have K2 := kept_other oS2 gg (fun k hk e => by cases hk; exact NE.out.2.1 e)
      have BL : Below B w w4 := (bel (w := w) (w' := w2) (B := B) (r := (Value.slice AL d.L.length cL).ownBlock) ⟨on2.os, on2.tape, on2.output, on2.size, on2.block⟩ (fun k hk => (HLd.out.lt k hk).1) (by omega)).trans (bel gg (fun k hk => by cases hk; exact hBg) (by omega))
      go_wp2_with fail
      go_ret
      exact ⟨rfl, ⟨_, _, Hb4, K1, K2, n2, NE.out.2.1, nd, hBg⟩, BL⟩
  · have hv : appendE d b = 18 := by simp [appendE, hd]
    have hv2 : appendS d b = d := by simp [appendS, hd]
    rw [hv, hv2]
    rw [hd] at e5
    clear hv hv2 hB hL hS hb hk
    go_enter Try.func13, Try.ntmps13
    go_wp2_with fail
    go_ret
    exact ⟨rfl, hDk00.out⟩
end Go.Proofs.Ytmjfemnjkgfgfaa
