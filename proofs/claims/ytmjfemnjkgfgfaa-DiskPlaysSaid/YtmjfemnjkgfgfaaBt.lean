/- Two disks in one heap, the program's and the reference's: each call of the one leaves the other. Conditions: their numbers stay below 2^40. -/
import Derived.Test.YtmjfemnjkgfgfaaRo3
namespace Go.Proofs.Ytmjfemnjkgfgfaa
open Go.RowKit Go.Deep
/-- The program's disk at block p in state d, the reference's at block q in state e, apart from one another, and from the blocks of M. -/
def Bt (w : World) (base p q : Nat) (M : Nat → Prop) (d e : DS) : Prop := ∃ P R : Nat → Prop, Df w P p d ∧ Rk w R q e ∧ (∀ k, P k → ¬ R k) ∧ ¬ R p ∧ ¬ P q ∧ p ≠ q ∧ base ≤ p ∧ base ≤ q ∧ (∀ k, P k → base ≤ k) ∧ (∀ k, M k → k < w.heap.size ∧ ¬ P k ∧ ¬ R k ∧ k ≠ p ∧ k ≠ q)
theorem Rk.lt {w : World} {F : Nat → Prop} {g : Nat} {d : DS} (h : Rk w F g d) : g < w.heap.size := by
  obtain ⟨_, _, _, hV, _⟩ := h
  exact hV.lt
theorem Rk.mono {w : World} {F F' : Nat → Prop} {g : Nat} {d : DS} (h : Rk w F g d) (hF : ∀ k, k < w.heap.size → F k → F' k) : Rk w F' g d := by
  obtain ⟨ev, vL, vS, hV, he⟩ := h
  exact ⟨ev, vL, vS, ⟨hV.1, hV.2.1.mono hF, hV.2.2.mono hF⟩, he⟩
theorem Bt.lt {w : World} {base p q : Nat} {M : Nat → Prop} {d e : DS} (h : Bt w base p q M d e) : base ≤ p ∧ p < w.heap.size ∧ base ≤ q ∧ q < w.heap.size := by
  obtain ⟨P, R, hD, hR, _, _, _, _, h1, h2, _, _⟩ := h
  exact ⟨h1, hD.lt, h2, hR.lt⟩
/-- What turns none of the elder blocks leaves both. -/
theorem Bt.off {w w' : World} {base p q : Nat} {M : Nat → Prop} {d e : DS} (h : Bt w base p q M d e) (g : w.grownBy w' none) : Bt w' base p q M d e := by
  obtain ⟨P, R, hD, hR, h1, h2, h3, h4, h5, h6, h7, h8⟩ := h
  exact ⟨P, R, hD.keep (g.block p hD.lt (by simp)) (fun k hk _ => g.block k hk (by simp)), hR.keep g.size (fun k hk _ => g.block k hk (by simp)), h1, h2, h3, h4, h5, h6, h7, fun k hk => ⟨by have := (h8 k hk).1; have := g.size; omega, (h8 k hk).2⟩⟩
/-- The program's disk at work: the set that its call may turn, and what stands behind it. -/
theorem Bt.prog {w : World} {base p q : Nat} {M : Nat → Prop} {d e : DS} (h : Bt w base p q M d e) (_ : base ≤ w.heap.size) : ∃ F : Nat → Prop, Df w F p d ∧ (∀ k, w.heap.size ≤ k → F k) ∧
    ∀ (w' : World) (d' : DS), Df w' F p d' → OutF w F p w' → Bt w' base p q M d' e ∧ Below base w w' ∧ (∀ k, M k → w'.heap[k]? = w.heap[k]?) := by
  obtain ⟨P, R, hD, hR, h1, h2, h3, h4, h5, h6, h7, h8⟩ := h
  have lp := hD.lt
  have lq := hR.lt
  refine ⟨fun k => P k ∨ w.heap.size ≤ k, hD.mono (fun k _ h => .inl h), fun k h => .inr h, fun w' d' hD' hO => ⟨⟨fun k => P k ∨ (w.heap.size ≤ k ∧ k < w'.heap.size), fun k => R k ∧ k < w.heap.size, hD'.mono (fun k hk h => h.imp id (fun h => ⟨h, hk⟩)), ?_, ?_, fun h => h2 h.1, ?_, h4, h5, h6, ?_, ?_⟩, ?_, ?_⟩⟩
  · have hR' : Rk w (fun k => R k ∧ k < w.heap.size) q e := hR.mono (fun k hk h => ⟨h, hk⟩)
    refine hR'.keep hO.size (fun k hk h => hO.block k hk ?_ ?_)
    · rintro rfl
      rcases h with h | h
      · exact h4 h
      · exact h2 h.1
    · intro hF
      rcases hF with hF | hF
      · rcases h with h | h
        · exact h3 (h ▸ hF)
        · exact h1 k hF h.1
      · omega
  · rintro k (h | h) ⟨h8, h9⟩
    · exact h1 k h h8
    · omega
  · rintro (h | h)
    · exact h3 h
    · omega
  · rintro k (h | h)
    · exact h7 k h
    · omega
  · intro k hk
    obtain ⟨m1, m2, m3, m4, m5⟩ := h8 k hk
    refine ⟨by have := hO.size; omega, ?_, fun h => m3 h.1, m4, m5⟩
    rintro (h | h)
    · exact m2 h
    · omega
  · exact ⟨hO.os, hO.tape, hO.output, hO.size, fun k hk => hO.block k (by omega) (by omega) (fun hF => by
      rcases hF with hF | hF
      · have := h7 k hF; omega
      · omega)⟩
  · intro k hk
    obtain ⟨m1, m2, m3, m4, m5⟩ := h8 k hk
    refine hO.block k m1 m4 ?_
    rintro (h | h)
    · exact m2 h
    · omega
/-- The reference's disk at work. -/
theorem Bt.ref {w : World} {base p q : Nat} {M : Nat → Prop} {d e : DS} (h : Bt w base p q M d e) (hb : base ≤ w.heap.size) : ∃ F : Nat → Prop, Rk w F q e ∧ (∀ k, w.heap.size ≤ k → F k) ∧
    ∀ (w' : World) (e' : DS), Rk w' F q e' → w.grownBy w' (some q) → Bt w' base p q M d e' ∧ Below base w w' ∧ (∀ k, M k → w'.heap[k]? = w.heap[k]?) := by
  obtain ⟨P, R, hD, hR, h1, h2, h3, h4, h5, h6, h7, h8⟩ := h
  have lp := hD.lt
  have lq := hR.lt
  refine ⟨fun k => R k ∨ w.heap.size ≤ k, hR.mono (fun k _ h => .inl h), fun k h => .inr h, fun w' e' hR' hO => ⟨⟨fun k => P k ∧ k < w.heap.size, fun k => R k ∨ (w.heap.size ≤ k ∧ k < w'.heap.size), ?_, hR'.mono (fun k hk h => h.imp id (fun h => ⟨h, hk⟩)), ?_, ?_, fun h => h3 h.1, h4, h5, h6, fun k h => h7 k h.1, ?_⟩, ?_, ?_⟩⟩
  · have hD' : Df w (fun k => P k ∧ k < w.heap.size) p d := hD.mono (fun k hk h => ⟨h, hk⟩)
    exact hD'.keep (hO.block p lp (fun e => by injection e with e; exact h4 e)) (fun k hk h => hO.block k hk (fun e => by injection e with e; exact h3 (e ▸ h.1)))
  · rintro k ⟨h8, h9⟩ (h | h)
    · exact h1 k h8 h
    · omega
  · rintro (h | h)
    · exact h2 h
    · omega
  · intro k hk
    obtain ⟨m1, m2, m3, m4, m5⟩ := h8 k hk
    refine ⟨by have := hO.size; omega, fun h => m2 h.1, ?_, m4, m5⟩
    rintro (h | h)
    · exact m3 h
    · omega
  · exact bel hO (fun k e => by injection e with e; omega) hb
  · intro k hk
    obtain ⟨m1, m2, m3, m4, m5⟩ := h8 k hk
    exact hO.block k m1 (fun e => by injection e with e; exact m5 e)
/-- A block that is new is apart, too. -/
theorem Bt.add {w w' : World} {base p q : Nat} {M : Nat → Prop} {d e : DS} (h : Bt w base p q M d e) (g : w.grownBy w' none) (mb : Nat) (h0 : w.heap.size ≤ mb) (h1' : mb < w'.heap.size) : Bt w' base p q (fun k => M k ∨ k = mb) d e := by
  obtain ⟨P, R, hD, hR, h1, h2, h3, h4, h5, h6, h7, h8⟩ := h
  have lp := hD.lt
  have lq := hR.lt
  refine ⟨fun k => P k ∧ k < w.heap.size, fun k => R k ∧ k < w.heap.size, (hD.mono (fun k hk h => ⟨h, hk⟩)).keep (g.block p lp (by simp)) (fun k hk _ => g.block k hk (by simp)), (hR.mono (fun k hk h => ⟨h, hk⟩)).keep g.size (fun k hk _ => g.block k hk (by simp)), fun k a b => h1 k a.1 b.1, fun a => h2 a.1, fun a => h3 a.1, h4, h5, h6, fun k a => h7 k a.1, ?_⟩
  rintro k (hk | rfl)
  · obtain ⟨m1, m2, m3, m4, m5⟩ := h8 k hk
    exact ⟨by have := g.size; omega, fun a => m2 a.1, fun a => m3 a.1, m4, m5⟩
  · exact ⟨h1', fun a => by omega, fun a => by omega, by omega, by omega⟩
theorem Bt.less {w : World} {base p q : Nat} {M : Nat → Prop} {d e : DS} (h : Bt w base p q M d e) {M' : Nat → Prop} (hM : ∀ k, M' k → M k) : Bt w base p q M' d e := by
  obtain ⟨P, R, hD, hR, h1, h2, h3, h4, h5, h6, h7, h8⟩ := h
  exact ⟨P, R, hD, hR, h1, h2, h3, h4, h5, h6, h7, fun k hk => h8 k (hM k hk)⟩
/-- A block of M turned: both disks stand. -/
theorem Bt.turn {w w' : World} {base p q mb : Nat} {M : Nat → Prop} {d e : DS} (h : Bt w base p q M d e) (hm : M mb) (g : w.grownBy w' (some mb)) : Bt w' base p q M d e := by
  obtain ⟨P, R, hD, hR, h1, h2, h3, h4, h5, h6, h7, h8⟩ := h
  obtain ⟨m1, m2, m3, m4, m5⟩ := h8 mb hm
  refine ⟨P, R, hD.keep (g.block p hD.lt (fun e => by injection e with e; exact m4 e.symm)) (fun k hk hp => g.block k hk (fun e => by injection e with e; exact m2 (e ▸ hp))), hR.keep g.size (fun k hk ho => g.block k hk (fun e => by
    injection e with e
    rcases ho with ho | ho
    · exact m5 (e.symm.trans ho)
    · exact m3 (e ▸ ho))), h1, h2, h3, h4, h5, h6, h7, fun k hk => ⟨by have := (h8 k hk).1; have := g.size; omega, (h8 k hk).2⟩⟩
/-- Both at work, one behind the other: Append, Sync, Stop, Crash, Swap, Cut. -/
theorem bt_append_p {w : World} {base p q : Nat} {M : Nat → Prop} {d e : DS} (h : Bt w base p q M d e) (hk : Ok d) (hb0 : base ≤ w.heap.size) (A : Option Addr) (c : Nat) (b : List Int) (hb : Has w w.heap.size A (bs b)) (hbl : b.length ≤ 1073741824) :
    Calls Try.prog 13 #[.pointer (some ⟨p, 0, none⟩), .slice A b.length c] w fun x w' => x = .returned (.int .i64 (appendE d b)) ∧ Bt w' base p q M (appendS d b) e ∧ Below base w w' ∧ (∀ k, M k → w'.heap[k]? = w.heap[k]?) := by
  obtain ⟨F, hD, hF, hN⟩ := h.prog hb0
  exact (append_anyF F p d A c b w hD hk hb hbl hF).mono fun _ w' h => ⟨h.1, hN w' _ h.2.1 h.2.2⟩
theorem bt_append_r {w : World} {base p q : Nat} {M : Nat → Prop} {d e : DS} (h : Bt w base p q M d e) (hk : Ok e) (hst : e.st ≤ 9223372036854775807) (hb0 : base ≤ w.heap.size) (A : Option Addr) (c : Nat) (b : List Int) (hb : ∀ W, w.grownBy W (some q) → Has W W.heap.size A (bs b)) (hbl : b.length ≤ 1073741824) :
    Calls Try.prog 14 #[.pointer (some ⟨q, 0, none⟩), .slice A b.length c] w fun x w' => x = .returned (.int .i64 (appendE e b)) ∧ Bt w' base p q M d (appendS e b) ∧ Below base w w' ∧ (∀ k, M k → w'.heap[k]? = w.heap[k]?) := by
  obtain ⟨F, hR, hF, hN⟩ := h.ref hb0
  exact (rappend_any F q e A c b w hR hk hst hb hbl hF).mono fun _ w' h => ⟨h.1, hN w' _ h.2.1 h.2.2⟩
theorem bt_sync_p {w : World} {base p q : Nat} {M : Nat → Prop} {d e : DS} (h : Bt w base p q M d e) (hk : Ok d) (hb0 : base ≤ w.heap.size) :
    Calls Try.prog 15 #[.pointer (some ⟨p, 0, none⟩)] w fun x w' => x = .returned (.int .i64 (syncE d)) ∧ Bt w' base p q M (syncS d) e ∧ Below base w w' ∧ (∀ k, M k → w'.heap[k]? = w.heap[k]?) := by
  obtain ⟨F, hD, hF, hN⟩ := h.prog hb0
  exact (sync_anyF F p d w hD hk).mono fun _ w' h => ⟨h.1, hN w' _ h.2.1 (OutF.of h.2.2)⟩
theorem bt_sync_r {w : World} {base p q : Nat} {M : Nat → Prop} {d e : DS} (h : Bt w base p q M d e) (hk : Ok e) (hst : e.st ≤ 9223372036854775807) (hb0 : base ≤ w.heap.size) :
    Calls Try.prog 16 #[.pointer (some ⟨q, 0, none⟩)] w fun x w' => x = .returned (.int .i64 (syncE e)) ∧ Bt w' base p q M d (syncS e) ∧ Below base w w' ∧ (∀ k, M k → w'.heap[k]? = w.heap[k]?) := by
  obtain ⟨F, hR, hF, hN⟩ := h.ref hb0
  exact (rsync_any F q e w hR hk hst).mono fun _ w' h => ⟨h.1, hN w' _ h.2.1 h.2.2⟩
theorem bt_stop_p {w : World} {base p q : Nat} {M : Nat → Prop} {d e : DS} (h : Bt w base p q M d e) (hb0 : base ≤ w.heap.size) (n : Int) :
    Calls Try.prog 17 #[.pointer (some ⟨p, 0, none⟩), .int .i64 n] w fun x w' => x = .returned (.tuple #[]) ∧ Bt w' base p q M (stopS d n) e ∧ Below base w w' ∧ (∀ k, M k → w'.heap[k]? = w.heap[k]?) := by
  obtain ⟨F, hD, hF, hN⟩ := h.prog hb0
  exact (stop_anyF F p d n w hD).mono fun _ w' h => ⟨h.1, hN w' _ h.2.1 (OutF.of h.2.2)⟩
theorem bt_stop_r {w : World} {base p q : Nat} {M : Nat → Prop} {d e : DS} (h : Bt w base p q M d e) (hb0 : base ≤ w.heap.size) (n : Int) (h1 : -9223372036854775808 ≤ n) (h2 : n ≤ 9223372036854775807) :
    Calls Try.prog 18 #[.pointer (some ⟨q, 0, none⟩), .int .i64 n] w fun x w' => x = .returned (.tuple #[]) ∧ Bt w' base p q M d (stopS e n) ∧ Below base w w' ∧ (∀ k, M k → w'.heap[k]? = w.heap[k]?) := by
  obtain ⟨F, hR, hF, hN⟩ := h.ref hb0
  exact (rstop_any F q e n w hR h1 h2).mono fun _ w' h => ⟨h.1, hN w' _ h.2.1 h.2.2⟩
theorem bt_crash_p {w : World} {base p q : Nat} {M : Nat → Prop} {d e : DS} (h : Bt w base p q M d e) (hk : Ok d) (hb0 : base ≤ w.heap.size) (n : Int) (h1 : -9223372036854775808 ≤ n) (h2 : n ≤ 9223372036854775807) :
    Calls Try.prog 19 #[.pointer (some ⟨p, 0, none⟩), .int .i64 n] w fun x w' => x = .returned (.int .i64 (crashK d n)) ∧ Bt w' base p q M (crashS d n) e ∧ Below base w w' ∧ (∀ k, M k → w'.heap[k]? = w.heap[k]?) := by
  obtain ⟨F, hD, hF, hN⟩ := h.prog hb0
  exact (crash_anyF F p d n w hD hk hF h1 h2).mono fun _ w' h => ⟨h.1, hN w' _ h.2.1 (OutF.of h.2.2)⟩
theorem bt_crash_r {w : World} {base p q : Nat} {M : Nat → Prop} {d e : DS} (h : Bt w base p q M d e) (hk : Ok e) (hb0 : base ≤ w.heap.size) (n : Int) (h1 : -9223372036854775808 ≤ n) (h2 : n ≤ 9223372036854775807) :
    Calls Try.prog 20 #[.pointer (some ⟨q, 0, none⟩), .int .i64 n] w fun x w' => x = .returned (.int .i64 (crashK e n)) ∧ Bt w' base p q M d (crashS e n) ∧ Below base w w' ∧ (∀ k, M k → w'.heap[k]? = w.heap[k]?) := by
  obtain ⟨F, hR, hF, hN⟩ := h.ref hb0
  exact (rcrash_any F q e n w hR hk h1 h2).mono fun _ w' h => ⟨h.1, hN w' _ h.2.1 h.2.2⟩
theorem bt_swap_p {w : World} {base p q : Nat} {M : Nat → Prop} {d e : DS} (h : Bt w base p q M d e) (hk : Ok d) (hb0 : base ≤ w.heap.size) (A : Option Addr) (c : Nat) (b : List Int) (hb : ∀ W, w.grownBy W (some p) → Has W W.heap.size A (bs b)) (hbl : b.length ≤ 1073741824) :
    Calls Try.prog 21 #[.pointer (some ⟨p, 0, none⟩), .slice A b.length c] w fun x w' => x = .returned (.int .i64 (swapE d b)) ∧ Bt w' base p q M (swapS d b) e ∧ Below base w w' ∧ (∀ k, M k → w'.heap[k]? = w.heap[k]?) := by
  obtain ⟨F, hD, hF, hN⟩ := h.prog hb0
  exact (swap_anyF F p d A c b w hD hk hb hbl hF).mono fun _ w' h => ⟨h.1, hN w' _ h.2.1 (OutF.of h.2.2)⟩
theorem bt_swap_r {w : World} {base p q : Nat} {M : Nat → Prop} {d e : DS} (h : Bt w base p q M d e) (hk : Ok e) (hst : e.st ≤ 9223372036854775807) (hb0 : base ≤ w.heap.size) (A : Option Addr) (c : Nat) (b : List Int) (hb : ∀ W, w.grownBy W (some q) → Has W W.heap.size A (bs b)) (hbl : b.length ≤ 1073741824) :
    Calls Try.prog 22 #[.pointer (some ⟨q, 0, none⟩), .slice A b.length c] w fun x w' => x = .returned (.int .i64 (swapE e b)) ∧ Bt w' base p q M d (swapS e b) ∧ Below base w w' ∧ (∀ k, M k → w'.heap[k]? = w.heap[k]?) := by
  obtain ⟨F, hR, hF, hN⟩ := h.ref hb0
  exact (rswap_any F q e A c b w hR hk hst hb hbl hF).mono fun _ w' h => ⟨h.1, hN w' _ h.2.1 h.2.2⟩
theorem bt_cut_p {w : World} {base p q : Nat} {M : Nat → Prop} {d e : DS} (h : Bt w base p q M d e) (hk : Ok d) (hb0 : base ≤ w.heap.size) (n : Int) :
    Calls Try.prog 23 #[.pointer (some ⟨p, 0, none⟩), .int .i64 n] w fun x w' => x = .returned (.int .i64 (cutE d n)) ∧ Bt w' base p q M (cutS d n) e ∧ Below base w w' ∧ (∀ k, M k → w'.heap[k]? = w.heap[k]?) := by
  obtain ⟨F, hD, hF, hN⟩ := h.prog hb0
  exact (cut_anyF F p d n w hD hk hF).mono fun _ w' h => ⟨h.1, hN w' _ h.2.1 (OutF.of h.2.2)⟩
theorem bt_cut_r {w : World} {base p q : Nat} {M : Nat → Prop} {d e : DS} (h : Bt w base p q M d e) (hk : Ok e) (hst : e.st ≤ 9223372036854775807) (hb0 : base ≤ w.heap.size) (n : Int) :
    Calls Try.prog 24 #[.pointer (some ⟨q, 0, none⟩), .int .i64 n] w fun x w' => x = .returned (.int .i64 (cutE e n)) ∧ Bt w' base p q M d (cutS e n) ∧ Below base w w' ∧ (∀ k, M k → w'.heap[k]? = w.heap[k]?) := by
  obtain ⟨F, hR, hF, hN⟩ := h.ref hb0
  exact (rcut_any F q e n w hR hk hst hF).mono fun _ w' h => ⟨h.1, hN w' _ h.2.1 h.2.2⟩
end Go.Proofs.Ytmjfemnjkgfgfaa
