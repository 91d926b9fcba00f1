/- The disk's Append once more: what it keeps beside the disk: every block whose cells are no bytes. No condition of the program's own. -/
import Derived.Test.YtpfahfakinonnaaDoorGd3
namespace Go.Proofs.YtpfahfakinonnaaDoor
open Go.RowKit Go.Deep
/-- Every block of the world before, but block g and blocks of bytes, stands as it was. -/
def Keeps (w w' : World) (g : Nat) : Prop := ∀ (k : Nat) (T : TypeId) (cs : Array Value) (m : Nat × Nat), k ≠ g → T ≠ 5 → w.heap[k]? = some (.cells cs T m) → w'.heap[k]? = some (.cells cs T m)
theorem Keeps.grown {w w' : World} {g : Nat} (h : w.grownBy w' (some g)) : Keeps w w' g := fun k _ _ _ hne _ hk =>
  (h.block k (Array.getElem?_eq_some_iff.1 hk).1 (fun e => by injection e with e; exact hne e)).trans hk
theorem Keeps.trans {w w1 w2 : World} {g : Nat} (h : Keeps w w1 g) (h2 : Keeps w1 w2 g) : Keeps w w2 g := fun k T cs m hne hT hk => h2 k T cs m hne hT (h k T cs m hne hT hk)
theorem own_typ {w : World} {base e n k : Nat} {v : Value} {xs : List Value} (h : w.ownsRow base e 1 v n xs) (hk : v.ownBlock = some k) : ∃ cs, w.heap[k]? = some (.cells cs e (0, 0)) := by
  rcases h.2 with ⟨hv, _⟩ | ⟨g, cap, cur, hv, hg, h2, _⟩
  · rw [hv] at hk; cases hk
  · rw [hv] at hk
    have : g = k := by simpa [Value.ownBlock] using hk
    subst this
    exact ⟨cur, h2⟩
theorem append_typ (B g : Nat) (d : DS) (A : Option Addr) (c : Nat) (b : List Int) (w : World) (h : Dk w B g d) (hk : Ok d) (hb : Has w w.heap.size A (bs b)) (hbl : b.length ≤ 1073741824) :
    Calls Tryd.prog 23 #[.pointer (some ⟨g, 0, none⟩), .slice A b.length c] w fun e w' => e = .returned (.int .i64 (appendE d b)) ∧ Dk w' B g (appendS d b) ∧ Below B w w' ∧ Keeps w w' g := by
  have hlt := h.lt
  obtain ⟨vL, vS, hB, hL, hS, nL, nS, nLS, hBg⟩ := h
  have kl := hk.l; have ks := hk.s; have kr := hk.rm
  have e1 : w.cell? ⟨g, 0, none⟩ = some vL := hB.cell rfl
  have e2 : w.cell? ⟨g, 1, none⟩ = some vS := hB.cell rfl
  have e4 : w.cell? ⟨g, 3, none⟩ = some (.int .i64 d.rm) := hB.cell rfl
  have e5 : w.cell? ⟨g, 4, none⟩ = some (.bool d.dd) := hB.cell rfl
  have hDk0 : Hid (∀ n, Dk (w.drewN n) B g d ∧ Below B w (w.drewN n) ∧ Keeps w (w.drewN n) g) := fun n => ⟨⟨vL, vS, hB, hL, hS, nL, nS, nLS, hBg⟩, bel (only_drewN (only_refl w none) n) (fun _ e => by cases e) (by omega), fun _ _ _ _ _ _ h => h⟩
  have hDk00 : Hid (Dk w B g d ∧ Below B w w ∧ Keeps w w g) := ⟨⟨vL, vS, hB, hL, hS, nL, nS, nLS, hBg⟩, bel (only_refl w none) (fun _ e => by cases e) (by omega), fun _ _ _ _ _ _ h => h⟩
  obtain ⟨AL, cL, rfl⟩ := own_slice hL
  obtain ⟨AS, cS, rfl⟩ := own_slice hS
  cases hd : d.dd
  · rw [hd] at e5
    have hw1 : IntKind.i64.wrap ((d.L.length : Int) + (d.S.length : Int)) = (d.L.length : Int) + (d.S.length : Int) := by rw [IntKind.wrap_i64]; omega
    have hw2 : IntKind.i64.wrap ((d.L.length : Int) + (d.S.length : Int) + (b.length : Int)) = (d.L.length : Int) + (d.S.length : Int) + (b.length : Int) := by rw [IntKind.wrap_i64]; omega
    by_cases hf : d.rm < (d.L.length : Int) + d.S.length + b.length
    · have hv : appendE d b = 17 := by simp [appendE, hd, hf]
      have hv2 : appendS d b = d := by simp [appendS, hf]
      rw [hv, hv2]
      clear hv hv2 hB hL hS hb hk
      go_enter Tryd.func23, Tryd.ntmps23
      go_wp2_with fail
      go_quiet (fail)
      go_wp2_with fail
      go_ret
      exact ⟨rfl, hDk0.out _⟩
    · have hv : appendE d b = spendE d := by simp [appendE, hd, hf]
      have hv2 : appendS d b = spendS { d with L := d.L ++ b } := by simp [appendS, hd, hf]
      obtain ⟨LL, hLL⟩ : ∃ LL, LL = d.L ++ b := ⟨_, rfl⟩
      rw [hv, hv2, ← hLL]
      have HLL := Lib.hid hLL
      have HO : ∀ n, Hid ((w.drewN n).ownsRow B 5 1 (.slice AL d.L.length cL) (bs d.L).length (bs d.L)) := fun n => by rw [bs_len]; exact hL
      have HSr : ∀ n, Hid (Src Tryd.prog 1 33 (.slice A b.length c) (bs b).length (bs b) (w.drewN n)) := fun n => by
        have := (show Has (w.drewN n) w.heap.size A (bs b) from hb).src (P := Tryd.prog) (tx := 33) Tryd.underlying33 c (bs_one _)
        rw [bs_len] at this ⊢; exact this
      have HBk := Lib.hid hB
      have HSd := Lib.hid hS
      have HLd := Lib.hid hL
      have NE := Lib.hid (And.intro nL (And.intro nS nLS))
      have HK := Lib.hid hk
      have HD := Lib.hid hd
      have hlen : (bs d.L).length + (bs b).length ≤ 70368744177664 := by rw [bs_len, bs_len]; omega
      clear hv hv2 hB hL hS hb nL nS nLS hk hDk0 hDk00 hd hLL
      go_enter Tryd.func23, Tryd.ntmps23
      go_wp2_with fail
      go_quiet (fail)
      go_wp2_with (at_builtin; go_loud (refine app_bytes rfl _ _ 33 rfl B (.slice AL d.L.length cL) (bs d.L) rfl (HO _).out (.slice A b.length c) (bs b) rfl (HSr _).out hlen (by simp; omega) ?_); intro v2 w2 g2; have o2 := g2.own; rw [← bs_append, ← HLL.out, bs_len] at o2; have at2 := g2.at_; have on2 := g2.only; clear g2; obtain ⟨A2, c2, rfl⟩ := own_slice o2; have Hb2 := (HBk.out.drewN _).only on2 NE.out.1; have d0 : w2.cell? ⟨g, 0, none⟩ = some (.slice AL d.L.length cL) := Hb2.cell rfl; have f0 : w2.frozen? ⟨g, 0, none⟩ = false := Hb2.frozen)
      have Hb3 : Blk (w2.setCell ⟨g, 0, none⟩ (.slice A2 LL.length c2)) g #[.slice A2 LL.length c2, .slice AS d.S.length cS, .int .i64 d.sy, .int .i64 d.rm, .bool d.dd, .int .i64 d.st, .int .i64 d.sn, .int .i64 d.op] := Hb2.set
      refine (spend_any g _ _ _ _ _ _ _ _ _ Hb3 HK.out.sn HK.out.op).mono ?_
      rintro _ w4 ⟨rfl, Hb4, g4⟩
      have z2 := on2.size
      have zz : (w.drewN nq).heap.size = w.heap.size := rfl
      have n2 : (Value.slice A2 LL.length c2).ownBlock ≠ some g := by
        rcases at2 with h | ⟨q, h, hq⟩
        · rw [h]; exact NE.out.1
        · rw [h]; intro e; injection e with e; omega
      have oS2 : w2.ownsRow B 5 1 (.slice AS d.S.length cS) d.S.length (bs d.S) := kept_other (w := w.drewN nq) HSd.out on2 (fun k hk e => by
        rcases NE.out.2.2 with h | h
        · rw [h] at hk; cases hk
        · exact h (hk.trans e.symm))
      have nd : (Value.slice A2 LL.length c2).ownBlock = none ∨ (Value.slice A2 LL.length c2).ownBlock ≠ (Value.slice AS d.S.length cS).ownBlock := by
        rcases at2 with h | ⟨q, h, hq⟩
        · rw [h]; exact NE.out.2.2
        · right; rw [h]; intro e
          have := (HSd.out.lt q e.symm).2
          omega
      have gg : w2.grownBy w4 (some g) := only_step (only_set (only_refl w2 (some g)) (.inl rfl) _) g4 (fun k hk => .inl hk)
      have K1 := kept_other o2 gg (fun k hk e => by cases hk; exact n2 e)
      have K2 := kept_other oS2 gg (fun k hk e => by cases hk; exact NE.out.2.1 e)
      have BL : Below B w w4 := (bel (w := w) (w' := w2) (B := B) (r := (Value.slice AL d.L.length cL).ownBlock) ⟨on2.os, on2.tape, on2.output, on2.size, on2.block⟩ (fun k hk => (HLd.out.lt k hk).1) (by omega)).trans (bel gg (fun k hk => by cases hk; exact hBg) (by omega))
      have KP : Keeps w w4 g := fun k T cs m hne hT hk => by
        have hlt : k < w.heap.size := (Array.getElem?_eq_some_iff.1 hk).1
        have h2 : w2.heap[k]? = some (.cells cs T m) := (on2.block k hlt (fun e => by
          obtain ⟨cur, hc⟩ := own_typ HLd.out e.symm
          rw [hc] at hk
          injection hk with hk
          injection hk with _ hk _
          exact hT hk.symm)).trans hk
        exact (gg.block k (by omega) (fun e => by injection e with e; exact hne e)).trans h2
      go_wp2_with fail
      go_ret
      exact ⟨rfl, ⟨_, _, Hb4, K1, K2, n2, NE.out.2.1, nd, hBg⟩, BL, KP⟩
  · have hv : appendE d b = 18 := by simp [appendE, hd]
    have hv2 : appendS d b = d := by simp [appendS, hd]
    rw [hv, hv2]
    rw [hd] at e5
    clear hv hv2 hB hL hS hb hk
    go_enter Tryd.func23, Tryd.ntmps23
    go_wp2_with fail
    go_ret
    exact ⟨rfl, hDk00.out⟩
end Go.Proofs.YtpfahfakinonnaaDoor
