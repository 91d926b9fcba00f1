/- Package disk's Cut, Swap, Crash. Conditions: its numbers stay below 2^40. -/
import Derived.Test.YtmjfemnjkgfgfaaDisk2
import Derived.Deep.RegionWith
namespace Go.Proofs.Ytmjfemnjkgfgfaa
open Go.RowKit Go.Deep

theorem Dk.c0 {w : World} {B g : Nat} {d : DS} (h : Dk w B g d) : ∃ A c, w.cell? ⟨g, 0, none⟩ = some (.slice A d.L.length c) := by
  obtain ⟨vL, vS, hB, hL, _⟩ := h
  obtain ⟨A, c, rfl⟩ := own_slice hL
  exact ⟨A, c, hB.cell rfl⟩
theorem Dk.c1 {w : World} {B g : Nat} {d : DS} (h : Dk w B g d) : ∃ A c, w.cell? ⟨g, 1, none⟩ = some (.slice A d.S.length c) := by
  obtain ⟨vL, vS, hB, _, hS, _⟩ := h
  obtain ⟨A, c, rfl⟩ := own_slice hS
  exact ⟨A, c, hB.cell rfl⟩
theorem Dk.c2 {w : World} {B g : Nat} {d : DS} (h : Dk w B g d) : w.cell? ⟨g, 2, none⟩ = some (.int .i64 d.sy) := by obtain ⟨_, _, hB, _⟩ := h; exact hB.cell rfl
theorem Dk.c3 {w : World} {B g : Nat} {d : DS} (h : Dk w B g d) : w.cell? ⟨g, 3, none⟩ = some (.int .i64 d.rm) := by obtain ⟨_, _, hB, _⟩ := h; exact hB.cell rfl
theorem Dk.c4 {w : World} {B g : Nat} {d : DS} (h : Dk w B g d) : w.cell? ⟨g, 4, none⟩ = some (.bool d.dd) := by obtain ⟨_, _, hB, _⟩ := h; exact hB.cell rfl
theorem Dk.fr {w : World} {B g i : Nat} {d : DS} (h : Dk w B g d) : w.frozen? ⟨g, i, none⟩ = false := by obtain ⟨_, _, hB, _⟩ := h; exact hB.frozen
theorem spend_dk (B g : Nat) (d : DS) (w : World) (h : Dk w B g d) (hk : Ok d) :
    Calls Try.prog 29 #[.pointer (some ⟨g, 4, none⟩)] w fun e w' => e = .returned (.int .i64 (spR d.st d.sn)) ∧ Dk w' B g (spendS d) ∧ w.grownBy w' (some g) := by
  obtain ⟨vL, vS, hB, hL, hS, nL, nS, nLS, hBg⟩ := h
  exact (spend_any g _ _ _ _ _ _ _ _ w hB hk.sn hk.op).mono fun _ _ ⟨h1, h2, h3⟩ => ⟨h1, Dk.spent h2 h3 hL hS nL nS nLS hBg, h3⟩
def keepS (d : DS) (n : Nat) : DS := { d with L := d.L.take n, sy := n }
theorem keep_dk (B g : Nat) (d : DS) (n : Nat) (w : World) (h : Dk w B g d) (hn : n ≤ d.L.length) (hl : d.L.length ≤ 1099511627776) :
    Calls Try.prog 33 #[.pointer (some ⟨g, 0, none⟩), .int .i64 n] w fun e w' => e = .returned (.tuple #[]) ∧ Dk w' B g (keepS d n) ∧ w.grownBy w' (some g) := by
  have hlt := h.lt
  obtain ⟨vL, vS, hB, hL, hS, nL, nS, nLS, hBg⟩ := h
  refine (keep_any B g vL d.L n _ _ _ _ _ _ _ w hB hL hn hl).mono ?_
  rintro e w' ⟨h1, v', h2, h3, h4, h5⟩
  refine ⟨h1, ⟨v', vS, h2, own_mono h3 (by omega), kept_other hS h5 (fun k hk e => by cases hk; exact nS e), by rw [h4]; intro e; injection e; omega, nS, ?_, hBg⟩, h5⟩
  right
  rw [h4]
  exact fun e => ne_of_lt hS (Nat.le_refl _) e.symm
theorem finishes_dk (B g : Nat) (d : DS) (w : World) (h : Dk w B g d) :
    Calls Try.prog 34 #[.pointer (some ⟨g, 4, none⟩)] w fun e w' => e = .returned (.bool (d.st % 2 == 0)) ∧ w = w' := by
  obtain ⟨vL, vS, hB, hL, hS, nL, nS, nLS, hBg⟩ := h
  exact finishes_any g _ _ _ _ _ _ _ _ w hB
/-- Is what was begun done? -/
def doneB (d : DS) : Bool := !(goes d.st d.sn) || (d.st % 2 == 0)
def cutS (d : DS) (n : Int) : DS := if d.dd = true ∨ n < 0 ∨ (d.L.length : Int) < n then d else if doneB d = true then keepS (spendS d) n.toNat else spendS d
def cutE (d : DS) (n : Int) : Int := if d.dd = true then 18 else if n < 0 ∨ (d.L.length : Int) < n then 1 else spR d.st d.sn
theorem cut_any (B g : Nat) (d : DS) (n : Int) (w : World) (h : Dk w B g d) (hk : Ok d) :
    Calls Try.prog 23 #[.pointer (some ⟨g, 0, none⟩), .int .i64 n] w fun e w' => e = .returned (.int .i64 (cutE d n)) ∧ Dk w' B g (cutS d n) ∧ w.grownBy w' (some g) := by
  have c4 := h.c4
  obtain ⟨A, c, c0⟩ := h.c0
  have H := Lib.hid h
  cases hd : d.dd
  · rw [hd] at c4
    by_cases hn0 : n < 0
    · rw [show cutE d n = 1 by simp [cutE, hd, hn0], show cutS d n = d by simp [cutS, hn0]]
      clear h hk
      go_enter Try.func23, Try.ntmps23
      go_wp2_with fail
      go_ret
      exact ⟨rfl, H.out, only_refl _ _⟩
    · by_cases hn1 : (d.L.length : Int) < n
      · rw [show cutE d n = 1 by simp [cutE, hd, hn1], show cutS d n = d by simp [cutS, hn1]]
        clear h hk
        go_enter Try.func23, Try.ntmps23
        go_wp2_with fail
        go_ret
        exact ⟨rfl, H.out, only_refl _ _⟩
      · have hE : cutE d n = spR d.st d.sn := by simp [cutE, hd, hn0, hn1]
        have hS : cutS d n = if doneB d = true then keepS (spendS d) n.toNat else spendS d := by simp [cutS, hd, hn0, hn1]
        rw [hE, hS]
        obtain ⟨m, rfl⟩ : ∃ m : Nat, n = (m : Int) := ⟨n.toNat, by omega⟩
        rw [Int.toNat_natCast]
        have hm : m ≤ (spendS d).L.length := by show m ≤ d.L.length; omega
        have hl : (spendS d).L.length ≤ 1099511627776 := by show d.L.length ≤ _; have := hk.l; omega
        have SP := spend_dk B g d w h hk
        have KP := fun W H => Lib.hid (keep_dk B g (spendS d) m W H hm hl)
        have FN := fun W H => Lib.hid (finishes_dk B g (spendS d) W H)
        have hst : (spendS d).st = d.st := rfl
        rw [hst] at FN
        cases hg : goes d.st d.sn
        · have hdn : doneB d = true := by simp [doneB, hg]
          rw [show spR d.st d.sn = 0 by simp [spR, hg]] at SP ⊢
          rw [if_pos hdn]
          have SP := Lib.hid SP
          clear hE hS hdn hg FN h hk
          go_enter Try.func23, Try.ntmps23
          go_wp2_with fail
          refine SP.out.mono ?_
          rintro _ w1 ⟨rfl, D1, g1⟩
          go_wp2_with fail
          refine (KP _ D1).out.mono ?_
          rintro _ w2 ⟨rfl, D2, g2⟩
          go_wp2_with fail
          go_ret
          exact ⟨rfl, D2, only_step g1 g2 (fun k hk => .inl hk)⟩
        · rw [show spR d.st d.sn = 18 by simp [spR, hg]] at SP ⊢
          have SP := Lib.hid SP
          cases h2 : (d.st % 2 == 0)
          · have hdn : ¬ doneB d = true := by simp [doneB, hg, h2]
            rw [if_neg hdn]
            rw [h2] at FN
            clear hE hS hdn hg h hk KP h2
            go_enter Try.func23, Try.ntmps23
            go_wp2_with fail
            refine SP.out.mono ?_
            rintro _ w1 ⟨rfl, D1, g1⟩
            go_wp2_with fail
            refine (FN _ D1).out.mono ?_
            rintro _ w2 ⟨rfl, rfl⟩
            go_wp2_with fail
            go_ret
            exact ⟨rfl, D1, g1⟩
          · have hdn : doneB d = true := by simp [doneB, h2]
            rw [if_pos hdn]
            rw [h2] at FN
            clear hE hS hdn hg h hk h2
            go_enter Try.func23, Try.ntmps23
            go_wp2_with fail
            refine SP.out.mono ?_
            rintro _ w1 ⟨rfl, D1, g1⟩
            go_wp2_with fail
            refine (FN _ D1).out.mono ?_
            rintro _ w2 ⟨rfl, rfl⟩
            go_wp2_with fail
            refine (KP _ D1).out.mono ?_
            rintro _ w2 ⟨rfl, D2, g2⟩
            go_wp2_with fail
            go_ret
            exact ⟨rfl, D2, only_step g1 g2 (fun k hk => .inl hk)⟩
  · rw [show cutE d n = 18 by simp [cutE, hd], show cutS d n = d by simp [cutS, hd]]
    rw [hd] at c4
    clear h hk
    go_enter Try.func23, Try.ntmps23
    go_wp2_with fail
    go_ret
    exact ⟨rfl, H.out, only_refl _ _⟩
/-- A new snapshot is laid. -/
theorem Dk.snap {w w1 : World} {B g : Nat} {d : DS} {b : List Int} {A : Option Addr} {n c : Nat} (_ : Dk w1 B g d) (ho : w1.ownsRow B 5 1 (.slice A n c) b.length (bs b)) (hn : n = b.length) (hk : (Value.slice A n c).ownBlock = some w.heap.size) (hw : Dk w B g d) (hg : w.grownBy w1 none) :
    Dk (w1.setCell ⟨g, 1, none⟩ (.slice A n c)) B g { d with S := b } ∧ w.grownBy (w1.setCell ⟨g, 1, none⟩ (.slice A n c)) (some g) := by
  subst hn
  have hlt := hw.lt
  obtain ⟨vL, vS, hB, hL, hS, nL, nS, nLS, hBg⟩ := hw
  have gg : w1.grownBy (w1.setCell ⟨g, 1, none⟩ (.slice A b.length c)) (some g) := only_set (only_refl w1 (some g)) (.inl rfl) _
  have hB1 : Blk w1 g #[vL, vS, .int .i64 d.sy, .int .i64 d.rm, .bool d.dd, .int .i64 d.st, .int .i64 d.sn, .int .i64 d.op] := hB.only hg (by simp)
  have nn : (Value.slice A b.length c).ownBlock ≠ some g := by rw [hk]; intro e; injection e; omega
  refine ⟨⟨vL, _, hB1.set, kept_other (kept_other hL hg (fun _ h => by cases h)) gg (fun k hk e => by cases hk; exact nL e), kept_other ho gg (fun k hk e => by cases hk; exact nn e), nL, nn, ?_, hBg⟩, only_step (only_none hg _) gg (fun k hk => .inl hk)⟩
  right
  rw [hk]
  exact ne_of_lt hL (Nat.le_refl _)
def swapS (d : DS) (b : List Int) : DS := if d.dd = true ∨ d.rm < (b.length : Int) then d else if doneB d = true then keepS { spendS d with S := b } 0 else spendS d
def swapE (d : DS) (b : List Int) : Int := if d.dd = true then 18 else if d.rm < (b.length : Int) then 17 else spR d.st d.sn
theorem swap_any (B g : Nat) (d : DS) (A : Option Addr) (c : Nat) (b : List Int) (w : World) (h : Dk w B g d) (hk : Ok d) (hb : ∀ W, w.grownBy W (some g) → Has W W.heap.size A (bs b)) (hbl : b.length ≤ 1073741824) :
    Calls Try.prog 21 #[.pointer (some ⟨g, 0, none⟩), .slice A b.length c] w fun e w' => e = .returned (.int .i64 (swapE d b)) ∧ Dk w' B g (swapS d b) ∧ w.grownBy w' (some g) := by
  have c4 := h.c4
  have c3 := h.c3
  have hlt := h.lt
  have H := Lib.hid h
  cases hd : d.dd
  · rw [hd] at c4
    by_cases hf : d.rm < (b.length : Int)
    · rw [show swapE d b = 17 by simp [swapE, hd, hf], show swapS d b = d by simp [swapS, hf]]
      clear h hk hb
      go_enter Try.func21, Try.ntmps21
      go_wp2_with fail
      go_ret
      exact ⟨rfl, H.out, only_refl _ _⟩
    · have hE : swapE d b = spR d.st d.sn := by simp [swapE, hd, hf]
      have hS : swapS d b = if doneB d = true then keepS { spendS d with S := b } 0 else spendS d := by simp [swapS, hd, hf]
      rw [hE, hS]
      have hl : (spendS d).L.length ≤ 1099511627776 := by show d.L.length ≤ _; have := hk.l; omega
      have SP := spend_dk B g d w h hk
      have FR : ∀ W, w.grownBy W (some g) → Hid (Calls Try.prog 35 #[.slice A b.length c] W fun e w' => ∃ v, e = .returned v ∧ w'.ownsRow W.heap.size 5 1 v b.length (bs b) ∧ W.grownBy w' none ∧ v.ownBlock = some W.heap.size) := fun W hW =>
        fresh_any A c b W (hb W hW) (by omega)
      have KP := fun W H => Lib.hid (keep_dk B g { spendS d with S := b } 0 W H (Nat.zero_le _) hl)
      have FN := fun W H => Lib.hid (finishes_dk B g (spendS d) W H)
      have hst : (spendS d).st = d.st := rfl
      rw [hst] at FN
      cases hg : goes d.st d.sn
      · have hdn : doneB d = true := by simp [doneB, hg]
        rw [show spR d.st d.sn = 0 by simp [spR, hg]] at SP ⊢
        rw [if_pos hdn]
        have SP := Lib.hid SP
        clear hE hS hdn hg FN h hk hb
        go_enter Try.func21, Try.ntmps21
        go_wp2_with fail
        refine SP.out.mono ?_
        rintro _ w1 ⟨rfl, D1, g1⟩
        go_wp2_with fail
        refine (FR _ g1).out.mono ?_
        rintro _ w2 ⟨v, rfl, o2, g2, k2⟩
        have D2 := D1.below g2
        obtain ⟨A2, q2, rfl⟩ := own_slice o2
        obtain ⟨e1, k1, c1⟩ := D2.c1
        have f1 : w2.frozen? ⟨g, 1, none⟩ = false := D2.fr
        have SN := Dk.snap D2 (own_mono o2 (by have := g1.size; omega)) rfl k2 D1 g2
        clear D2 o2
        go_wp2_with fail
        refine (KP _ SN.1).out.mono ?_
        rintro _ w3 ⟨rfl, D3, g3⟩
        go_wp2_with fail
        go_ret
        exact ⟨rfl, D3, only_step (only_step g1 SN.2 (fun k hk => .inl hk)) g3 (fun k hk => .inl hk)⟩
      · rw [show spR d.st d.sn = 18 by simp [spR, hg]] at SP ⊢
        have SP := Lib.hid SP
        cases h2 : (d.st % 2 == 0)
        · have hdn : ¬ doneB d = true := by simp [doneB, hg, h2]
          rw [if_neg hdn]
          rw [h2] at FN
          clear hE hS hdn hg h hk KP FR hb h2
          go_enter Try.func21, Try.ntmps21
          go_wp2_with fail
          refine SP.out.mono ?_
          rintro _ w1 ⟨rfl, D1, g1⟩
          go_wp2_with fail
          refine (FN _ D1).out.mono ?_
          rintro _ w2 ⟨rfl, rfl⟩
          go_wp2_with fail
          go_ret
          exact ⟨rfl, D1, g1⟩
        · have hdn : doneB d = true := by simp [doneB, h2]
          rw [if_pos hdn]
          rw [h2] at FN
          clear hE hS hdn hg h hk hb h2
          go_enter Try.func21, Try.ntmps21
          go_wp2_with fail
          refine SP.out.mono ?_
          rintro _ w1 ⟨rfl, D1, g1⟩
          go_wp2_with fail
          refine (FN _ D1).out.mono ?_
          rintro _ w2 ⟨rfl, rfl⟩
          go_wp2_with fail
          refine (FR _ g1).out.mono ?_
          rintro _ w2 ⟨v, rfl, o2, g2, k2⟩
          have D2 := D1.below g2
          obtain ⟨A2, q2, rfl⟩ := own_slice o2
          obtain ⟨e1, k1, c1⟩ := D2.c1
          have f1 : w2.frozen? ⟨g, 1, none⟩ = false := D2.fr
          have SN := Dk.snap D2 (own_mono o2 (by have := g1.size; omega)) rfl k2 D1 g2
          clear D2 o2
          go_wp2_with fail
          refine (KP _ SN.1).out.mono ?_
          rintro _ w3 ⟨rfl, D3, g3⟩
          go_wp2_with fail
          go_ret
          exact ⟨rfl, D3, only_step (only_step g1 SN.2 (fun k hk => .inl hk)) g3 (fun k hk => .inl hk)⟩
  · rw [show swapE d b = 18 by simp [swapE, hd], show swapS d b = d by simp [swapS, hd]]
    rw [hd] at c4
    clear h hk hb
    go_enter Try.func21, Try.ntmps21
    go_wp2_with fail
    go_ret
    exact ⟨rfl, H.out, only_refl _ _⟩
def crashK (d : DS) (p : Int) : Int := p % ((d.L.length : Int) - d.sy + 1)
def crashS (d : DS) (p : Int) : DS := { d with L := d.L.take (d.sy + crashK d p).toNat, sy := d.sy + crashK d p, dd := false, st := 0, sn := 0 }
theorem crash_mod (p c : Int) (hc : 0 < c) :
    ∃ t, p.tmod c = t ∧ -c < t ∧ t < c ∧ (t + c) % c = p % c ∧ 0 ≤ t + c := by
  refine ⟨_, rfl, ?_⟩
  have h := @Int.tmod_eq_emod p c
  have h1 := Int.emod_nonneg p (show c ≠ 0 by omega)
  have h2 := Int.emod_lt_of_pos p hc
  by_cases h0 : 0 ≤ p
  · have e : p.tmod c = p % c := by rw [h, if_pos (.inl h0)]; omega
    rw [e]
    refine ⟨by omega, h2, ?_, by omega⟩
    rw [Int.add_emod_right, Int.emod_emod_of_dvd _ (Int.dvd_refl c)]
  · by_cases hd : c ∣ p
    · have e : p.tmod c = p % c := by rw [h, if_pos (.inr hd)]; omega
      rw [e]
      refine ⟨by omega, h2, ?_, by omega⟩
      rw [Int.add_emod_right, Int.emod_emod_of_dvd _ (Int.dvd_refl c)]
    · have hne : p % c ≠ 0 := fun e => hd (Int.dvd_of_emod_eq_zero e)
      have e : p.tmod c = p % c - c := by
        rw [h, if_neg (by rintro (h | h); exact h0 h; exact hd h)]
        have : (c.natAbs : Int) = c := by omega
        omega
      rw [e]
      refine ⟨by omega, by omega, ?_, by omega⟩
      rw [show p % c - c + c = p % c by omega, Int.emod_emod_of_dvd _ (Int.dvd_refl c)]
theorem crash_any (B g : Nat) (d : DS) (p : Int) (w : World) (h : Dk w B g d) (hk : Ok d) (_ : -9223372036854775808 ≤ p) (_ : p ≤ 9223372036854775807) :
    Calls Try.prog 19 #[.pointer (some ⟨g, 0, none⟩), .int .i64 p] w fun e w' => e = .returned (.int .i64 (crashK d p)) ∧ Dk w' B g (crashS d p) ∧ w.grownBy w' (some g) := by
  have c2 := h.c2
  obtain ⟨A, c, c0⟩ := h.c0
  have kl := hk.l
  have ks := hk.sy
  obtain ⟨cc, hcc⟩ : ∃ cc : Int, cc = (d.L.length : Int) - d.sy + 1 := ⟨_, rfl⟩
  have hcp : 0 < cc := by omega
  obtain ⟨t, ht, ht1, ht2, ht3, ht4⟩ := crash_mod p cc hcp
  have hK : crashK d p = p % cc := by unfold crashK; rw [← hcc]
  have hk1 := Int.emod_nonneg p (show cc ≠ 0 by omega)
  have hk2 := Int.emod_lt_of_pos p hcp
  obtain ⟨kk, hkk⟩ : ∃ kk, kk = p % cc := ⟨_, rfl⟩
  rw [← hkk] at hK hk1 hk2 ht3
  obtain ⟨m, hm⟩ : ∃ m : Nat, d.sy + kk = (m : Int) := ⟨(d.sy + kk).toNat, by omega⟩
  have hml : m ≤ d.L.length := by omega
  have hS : crashS d p = { d with L := d.L.take m, sy := m, dd := false, st := 0, sn := 0 } := by
    unfold crashS; rw [hK, hm, Int.toNat_natCast]
  rw [hK, hS]
  have w1 : IntKind.i64.wrap ((d.L.length : Int) - d.sy) = (d.L.length : Int) - d.sy := by rw [IntKind.wrap_i64]; omega
  have w2 : IntKind.i64.wrap ((d.L.length : Int) - d.sy + 1) = cc := by rw [IntKind.wrap_i64]; omega
  have w3 : IntKind.i64.wrap (t + cc) = t + cc := by rw [IntKind.wrap_i64]; omega
  have w4 : (t + cc).tmod cc = kk := by rw [Int.tmod_eq_emod_of_nonneg ht4]; exact ht3
  have w5 : IntKind.i64.wrap (d.sy + kk) = (m : Int) := by rw [IntKind.wrap_i64]; omega
  have hcz : ¬ cc = 0 := by omega
  have hczb : (cc == 0) = false := by rw [beq_eq_false_iff_ne]; exact hcz
  have hcm : ¬ cc = -1 := by omega
  have KP := fun W H => Lib.hid (keep_dk B g d m W H hml (by omega))
  have H := Lib.hid h
  clear hS hK hk h hkk hcc ht1 ht2 ht3 hm
  go_enter Try.func19, Try.ntmps19
  go_wp2_with fail
  go_quiet (fail)
  go_wp2_with fail
  have c2d : (w.drewN nq).drew.cell? ⟨g, 2, none⟩ = some (.int .i64 d.sy) := c2
  have D0 : Hid (Dk (w.drewN nq).drew B g d) := H.out
  have G0 : w.grownBy (w.drewN nq).drew (some g) := only_drew (only_drewN (only_refl _ _) _)
  go_region_with (go_at_call 33; refine (KP _ D0.out).out.mono ?_; rintro e w6 ⟨rfl, D1, g1⟩)
  have e4 := D1.c4
  have f4 : w6.frozen? ⟨g, 4, none⟩ = false := D1.fr
  have D2 : Hid (Dk (w6.setCell ⟨g, 4, none⟩ (.bool false)) B g { keepS d m with dd := false } ∧ w6.grownBy (w6.setCell ⟨g, 4, none⟩ (.bool false)) (some g)) := by
    obtain ⟨vL, vS, hB, hL, hS, nL, nS, nLS, hBg⟩ := D1
    have gg : w6.grownBy (w6.setCell ⟨g, 4, none⟩ (.bool false)) (some g) := only_set (only_refl w6 (some g)) (.inl rfl) _
    have hB1 : Blk w6 g #[vL, vS, .int .i64 m, .int .i64 d.rm, .bool d.dd, .int .i64 d.st, .int .i64 d.sn, .int .i64 d.op] := hB
    exact ⟨⟨vL, vS, hB1.set, kept_other hL gg (fun k hk e => by cases hk; exact nL e), kept_other hS gg (fun k hk e => by cases hk; exact nS e), nL, nS, nLS, hBg⟩, gg⟩
  have ST := Lib.hid (stop_any B g _ 0 _ D2.out.1)
  clear D1
  go_wp2_with fail
  refine ST.out.mono ?_
  rintro _ w7 ⟨rfl, D3, g3⟩
  go_wp2_with fail
  go_ret
  exact ⟨rfl, D3, only_step (only_step (only_step G0 g1 (fun k hk => .inl hk)) D2.out.2 (fun k hk => .inl hk)) g3 (fun k hk => .inl hk)⟩
end Go.Proofs.Ytmjfemnjkgfgfaa
