/- Two heaps of timers beside each other; lists that are the same. No condition of the program's own. -/
import Derived.Test.YtgfpogmipennaaaTf
import Derived.StillTailTactics
import Derived.BigQuiet
namespace Go.Proofs.Ytgfpogmipennaaa
open Go.RowKit Go.Deep
set_option maxRecDepth 100000 in
theorem ints_same (A B : Option Addr) (ca cb : Nat) (l : List Int) (w : World) (lim : Nat) (hA : Has w lim A (ns l)) (hB : Has w lim B (ns l)) (hl : l.length ≤ 1099511627776) :
    Calls Try.prog 18 #[.slice A l.length ca, .slice B l.length cb] w fun e w' => e = .returned (.bool true) ∧ ∃ n, w' = w.drewN n := by
  have HA := Lib.hid hA
  have HB := Lib.hid hB
  clear hA hB
  go_enter Try.func18, Try.ntmps18
  go_wp2_with fail
  go_loopw [5] (fun si wr => ∃ (i n : Nat), i ≤ l.length ∧ si = .int .i64 i ∧ wr = w.drewN n) (fun si _ => l.length - (intOf si).toNat)
  case atStart => exact ⟨0, 0, Nat.zero_le _, rfl, rfl⟩
  case round =>
    obtain ⟨i, n, hi, rfl, rfl⟩ := hrel
    have t0 : (0 : Int) ≤ (i : Int) := by omega
    by_cases hlt : i < l.length
    · have t1 : (i : Int) < (l.length : Int) := by omega
      have hes : IntKind.i64.wrap ((i : Int) + 1) = (i : Int) + 1 := by rw [IntKind.wrap_i64]; omega
      have hx : l[i]? = some l[i] := by simp [hlt]
      obtain ⟨x, hxx⟩ : ∃ x, x = l[i] := ⟨_, rfl⟩
      rw [← hxx] at hx
      obtain ⟨b, off, rfl, _, a1⟩ := HA.out.int hx
      obtain ⟨b', off', rfl, _, b1⟩ := HB.out.int hx
      have l1 : ∀ k, (w.drewN k).cell? ⟨b, off + i, none⟩ = some (.int .i64 x) := fun _ => a1
      have l3 : ∀ k, (w.drewN k).cell? ⟨b', off' + i, none⟩ = some (.int .i64 x) := fun _ => b1
      clear hx hxx
      go_wp2_with fail
      go_quiet (fail)
      go_wp2_with fail
      go_roundw
      case rel => exact ⟨i + 1, _, by omega, by go_num, rfl⟩
      case measure => simp [intOf]; omega
    · have t1 : ¬ (i : Int) < (l.length : Int) := by omega
      go_wp2_with fail
      go_ret
      exact ⟨rfl, _, rfl⟩
/-- Two heaps, and rows of the law's own (P), none of which share a block. -/
def Sep (w wr : World) (Bs Bt : Nat) (S T : List It) (P : Nat → Prop) : Prop :=
  ∃ Fs Ft : Nat → Prop, TS wr Bs S Fs ∧ TS wr Bt T Ft ∧ (∀ k, Fs k → w.heap.size ≤ k ∧ k < wr.heap.size) ∧ (∀ k, Ft k → w.heap.size ≤ k ∧ k < wr.heap.size) ∧ (∀ k, Fs k → ¬ Ft k) ∧ (∀ k, P k → k < wr.heap.size ∧ ¬ Fs k ∧ ¬ Ft k) ∧ OnlyF (Mine w) w wr
theorem Sep.only {w wr : World} {Bs Bt : Nat} {S T : List It} {P : Nat → Prop} (h : Sep w wr Bs Bt S T P) : OnlyF (Mine w) w wr := by
  obtain ⟨_, _, _, _, _, _, _, _, h⟩ := h; exact h
theorem Sep.symm {w wr : World} {Bs Bt : Nat} {S T : List It} {P : Nat → Prop} (h : Sep w wr Bs Bt S T P) : Sep w wr Bt Bs T S P := by
  obtain ⟨Fs, Ft, a, b, c, d, e, f, g⟩ := h
  exact ⟨Ft, Fs, b, a, d, c, fun k h1 h2 => e k h2 h1, fun k hk => ⟨(f k hk).1, (f k hk).2.2, (f k hk).2.1⟩, g⟩
theorem Sep.less {w wr : World} {Bs Bt : Nat} {S T : List It} {P Q : Nat → Prop} (h : Sep w wr Bs Bt S T P) (hQ : ∀ k, Q k → P k) : Sep w wr Bs Bt S T Q := by
  obtain ⟨Fs, Ft, a, b, c, d, e, f, g⟩ := h
  exact ⟨Fs, Ft, a, b, c, d, e, fun k hk => f k (hQ k hk), g⟩
theorem Sep.fst {w wr : World} {Bs Bt : Nat} {S T : List It} {P : Nat → Prop} (h : Sep w wr Bs Bt S T P) : At w wr Bs S := by
  obtain ⟨Fs, Ft, a, b, c, d, e, f, g⟩ := h
  exact ⟨a.wide (fun k hk => (c k hk).1), g⟩
/-- Blocks of P, and new ones, have turned: the heaps stay. -/
theorem Sep.grow {w wr w1 : World} {Bs Bt : Nat} {S T : List It} {P Q : Nat → Prop} (h : Sep w wr Bs Bt S T P) (o : OnlyF (fun k => P k ∧ w.heap.size ≤ k) wr w1) (hQ : ∀ k, Q k → k < w1.heap.size ∧ (P k ∨ wr.heap.size ≤ k)) : Sep w w1 Bs Bt S T Q := by
  obtain ⟨Fs, Ft, a, b, c, d, e, f, g⟩ := h
  refine ⟨Fs, Ft, a.apart o (fun k hk _ hp => (f k hp.1).2.1 hk), b.apart o (fun k hk _ hp => (f k hp.1).2.2 hk), fun k hk => ⟨(c k hk).1, Nat.lt_of_lt_of_le (c k hk).2 o.size⟩, fun k hk => ⟨(d k hk).1, Nat.lt_of_lt_of_le (d k hk).2 o.size⟩, e, fun k hk => ⟨(hQ k hk).1, ?_, ?_⟩, ?_⟩
  · intro hs
    rcases (hQ k hk).2 with h1 | h1
    · exact (f k h1).2.1 hs
    · have := (c k hs).2; omega
  · intro hs
    rcases (hQ k hk).2 with h1 | h1
    · exact (f k h1).2.2 hs
    · have := (d k hs).2; omega
  · exact ⟨o.os.trans g.os, o.tape.trans g.tape, o.output.trans g.output, Nat.le_trans g.size o.size, fun k hk hF => (o.block k (Nat.lt_of_lt_of_le hk g.size) (fun hp => hF hp.2)).trans (g.block k hk hF)⟩
theorem Sep.next {w wr : World} {Bs Bt : Nat} {S T : List It} {P : Nat → Prop} (h : Sep w wr Bs Bt S T P) : ∃ F : Nat → Prop, (∀ k, wr.heap.size ≤ k → F k) ∧ TS wr Bs S F ∧ (∀ k, P k → k < wr.heap.size ∧ ¬ F k) ∧
    ∀ (w1 : World) (S' : List It) (G : Nat → Prop), TS w1 Bs S' G → (∀ k, G k → F k) → OnlyF F wr w1 → ∀ Q : Nat → Prop, (∀ k, Q k → k < w1.heap.size ∧ wr.heap.size ≤ k ∧ ¬ G k) → Sep w w1 Bs Bt S' T (fun k => P k ∨ Q k) := by
  obtain ⟨Fs, Ft, a, b, c, d, e, f, g⟩ := h
  refine ⟨fun k => Fs k ∨ wr.heap.size ≤ k, fun k hk => .inr hk, a.wide (fun k hk => .inl hk), fun k hk => ⟨(f k hk).1, fun h => ?_⟩, fun w1 S' G t1 hG o Q hQ => ?_⟩
  · rcases h with h | h
    · exact (f k hk).2.1 h
    · have := (f k hk).1; omega
  · have hw : w.heap.size ≤ wr.heap.size := g.size
    refine ⟨fun k => G k ∧ k < w1.heap.size, Ft, t1.narrow, b.apart o (fun k hk hl hF => ?_), fun k hk => ⟨?_, hk.2⟩, fun k hk => ⟨(d k hk).1, Nat.lt_of_lt_of_le (d k hk).2 o.size⟩, fun k hk hk2 => ?_, fun k hk => ?_, ?_⟩
    · rcases hF with hF | hF
      · exact e k hF hk
      · omega
    · rcases hG k hk.1 with h | h
      · exact (c k h).1
      · omega
    · rcases hG k hk.1 with h | h
      · exact e k h hk2
      · have := (d k hk2).2; omega
    · rcases hk with hk | hk
      · refine ⟨Nat.lt_of_lt_of_le (f k hk).1 o.size, fun h => ?_, (f k hk).2.2⟩
        rcases hG k h.1 with h1 | h1
        · exact (f k hk).2.1 h1
        · have := (f k hk).1; omega
      · exact ⟨(hQ k hk).1, fun h => (hQ k hk).2.2 h.1, fun h => by have := (d k h).2; have := (hQ k hk).2.1; omega⟩
    · exact g.trans ⟨o.os, o.tape, o.output, o.size, fun k hk hM => o.block k hk (fun h => hM (by
        rcases h with h | h
        · exact (c k h).1
        · exact Nat.le_trans hw h))⟩
theorem sep_set {w wr : World} {Bs Bt : Nat} {S T : List It} {P : Nat → Prop} (h : Sep w wr Bs Bt S T P) (hl : S.length ≤ 1099511627770) (id at_ : Int) :
    Calls Try.prog 14 #[.pointer (some ⟨Bs, 0, none⟩), .int .i64 id, .int .i64 at_] wr fun e w' => e = .returned (.int .i64 (setR id S)) ∧ Sep w w' Bs Bt (setT id at_ S) T P ∧ ∀ k, P k → w'.heap[k]? = wr.heap[k]? := by
  obtain ⟨F, hN, t, hP, nx⟩ := h.next
  refine (tset Bs id at_ S F wr t hl hN).mono ?_
  rintro e w1 ⟨rfl, t1, o1⟩
  exact ⟨rfl, (nx w1 _ F t1 (fun _ h => h) o1 (fun _ => False) (fun _ h => h.elim)).less (fun k hk => .inl hk), fun k hk => o1.block k (hP k hk).1 (hP k hk).2⟩
theorem sep_due {w wr : World} {Bs Bt : Nat} {S T : List It} {P : Nat → Prop} (h : Sep w wr Bs Bt S T P) (hl : S.length ≤ 1099511627770) (now : Int) {l : List Int} {C : List It} (hA : ids (S.takeWhile (isDue now)) = l) (hC : S.dropWhile (isDue now) = C) :
    Calls Try.prog 19 #[.pointer (some ⟨Bs, 0, none⟩), .int .i64 now] wr fun e w' => ∃ X c, e = .returned (.slice X l.length c) ∧ w'.ownsRow wr.heap.size 3 1 (.slice X l.length c) l.length (ns l) ∧
      Sep w w' Bs Bt C T (fun k => P k ∨ (Value.slice X l.length c).ownBlock = some k) ∧ (∀ k, P k → w'.heap[k]? = wr.heap[k]?) ∧ wr.heap.size ≤ w'.heap.size := by
  obtain ⟨F, hN, t, hP, nx⟩ := h.next
  refine (tdue Bs now S F wr t hl).mono ?_
  rintro e w1 ⟨v, rfl, r, t1, o1⟩
  rw [hA, ns_len] at r
  rw [hC] at t1
  obtain ⟨X, c, rfl⟩ := row_slice r
  exact ⟨X, c, rfl, r, nx w1 _ _ t1 (fun _ h => h.1) o1 _ (fun k hk => ⟨row_lt r k hk, row_ge r k hk, fun h => by have := row_ge r k hk; omega⟩), fun k hk => o1.block k (hP k hk).1 (hP k hk).2, o1.size⟩
theorem sep_new {w wr : World} (o : OnlyF (Mine w) w wr) : Calls Try.prog 11 #[] wr fun e w1 => ∃ Bs, e = .returned (.pointer (some ⟨Bs, 0, none⟩)) ∧
    Calls Try.prog 11 #[] w1 fun e w2 => ∃ Bt, e = .returned (.pointer (some ⟨Bt, 0, none⟩)) ∧ Sep w w2 Bs Bt [] [] (fun _ => False) := by
  refine (tnew wr).mono ?_
  rintro e w1 ⟨Bs, rfl, h1, t1, g1⟩
  refine ⟨Bs, rfl, (tnew w1).mono ?_⟩
  rintro e w2 ⟨Bt, rfl, h2, t2, g2⟩
  have l1 : Bs < w1.heap.size := by
    obtain ⟨l, ⟨v, mv, q, _⟩, _⟩ := t1
    exact q.lt Bs (.inl rfl)
  have l2 : Bt < w2.heap.size := by
    obtain ⟨l, ⟨v, mv, q, _⟩, _⟩ := t2
    exact q.lt Bt (.inl rfl)
  have := o.size
  have := g1.size
  have := g2.size
  exact ⟨Bt, rfl, _, _, t1.keep g2, t2, fun k hk => by subst hk; omega, fun k hk => by subst hk; omega, fun k hk hk2 => by subst hk; omega, fun k hk => hk.elim, (o.trans (OnlyF.still g1)).trans (OnlyF.still g2)⟩
end Go.Proofs.Ytgfpogmipennaaa
