/- (*draft).termAt. Conditions: numbers below 2^40. -/
import Derived.Test.YtjhnipnocjoelaaNg
namespace Go.Proofs.Ytjhnipnocjoelaa
open Go.RowKit Go.Deep
/-- What holds of a node's numbers. -/
structure Nd.ok (n : Nd) : Prop where
  base : 0 ≤ n.base ∧ n.base ≤ 1099511627776
  len : n.log.length ≤ 1048576
/-- The term of the entry at an index. -/
def Nd.tA (n : Nd) (i : Int) : Int × Bool :=
  if i = n.base then (n.bt, true) else if i < n.base then (0, false) else match n.log[(i - n.base).toNat - 1]? with
    | none => (0, false)
    | some p => (p.1, true)
theorem log_cell {w : World} {P : Nat → Prop} {g : Nat} {n : Nd} {L M : Value} {S : List Mg} (h : DrV w P g n L S M) {k : Nat} {x : Int × ByteArray} (hx : n.log[k]? = some x) : ∃ b c, L = .slice (some ⟨b, 0, none⟩) n.log.length c ∧ w.cell? ⟨b, k * 2, none⟩ = some (.int .i64 x.1) := by
  have he := (es_at n.log k x hx).1
  rcases h.log.2 with ⟨_, h0⟩ | ⟨b, c, cur, hv, _, hh, _⟩
  · rw [List.eq_nil_of_length_eq_zero h0] at hx; cases hx
  · refine ⟨b, c, hv, ?_⟩
    have := h.log.cells (g := b) (by rw [hv]; rfl) (k * 2) _ he
    rwa [Addr.add_lit, Nat.zero_add] at this
set_option maxRecDepth 100000 in
set_option maxHeartbeats 1000000 in
theorem term_any (w : World) (P : Nat → Prop) (g : Nat) (n : Nd) (S : List Mg) (i : Int) (hD : Dr w P g n S) (hk : n.ok) (hi : -1099511627776 ≤ i ∧ i ≤ 2199023255552) :
    Calls Try.prog 49 #[.pointer (some ⟨g, 0, none⟩), .int .i64 i] w fun e w' => e = .returned (.tuple #[.int .i64 (n.tA i).1, .bool (n.tA i).2]) ∧ w = w' := by
  obtain ⟨L, M, hD⟩ := hD
  obtain ⟨⟨hb1, hb2⟩, hl⟩ := hk
  obtain ⟨A, c, rfl⟩ := own_slice_w hD.log
  by_cases h0 : i = n.base
  · have e : n.tA i = (n.bt, true) := by unfold Nd.tA; rw [if_pos h0]
    rw [e, h0]
    obtain ⟨_, _, _, c3, c4, _⟩ := hD.all
    clear e h0 hD hi
    go_enter Try.func49, Try.ntmps49
    go_wp2_with fail
    go_ret2
    exact ⟨rfl, rfl⟩
  · obtain ⟨d, hd⟩ : ∃ d, i - n.base = d := ⟨_, rfl⟩
    have hd0 : (d == 0) = false := by rw [beq_eq_false_iff_ne]; omega
    by_cases h1 : i < n.base
    · have e : n.tA i = (0, false) := by unfold Nd.tA; rw [if_neg h0, if_pos h1]
      rw [e]
      have t1 : d < 0 := by omega
      obtain ⟨_, _, _, c3, c4, _, c6, _⟩ := hD.all
      clear e h0 h1 hD
      go_enter Try.func49, Try.ntmps49
      go_wp2_with fail
      go_ret2
      exact ⟨rfl, rfl⟩
    · have t1 : ¬ d < 0 := by omega
      by_cases h2 : (n.log.length : Int) < d
      · have e : n.tA i = (0, false) := by unfold Nd.tA; rw [if_neg h0, if_neg h1, List.getElem?_eq_none (by omega)]
        rw [e]
        obtain ⟨_, _, _, c3, c4, _, c6, _⟩ := hD.all
        clear e h0 h1 hD
        go_enter Try.func49, Try.ntmps49
        go_wp2_with fail
        go_ret2
        exact ⟨rfl, rfl⟩
      · obtain ⟨k, hk⟩ : ∃ k : Nat, d = (k : Int) + 1 := ⟨(d - 1).toNat, by omega⟩
        have hkl : k < n.log.length := by omega
        have hx : n.log[k]? = some n.log[k] := List.getElem?_eq_getElem hkl
        have e : n.tA i = (n.log[k].1, true) := by unfold Nd.tA; rw [if_neg h0, if_neg h1, show (i - n.base).toNat - 1 = k by omega, hx]
        rw [e]
        obtain ⟨x, hxx⟩ : ∃ x, n.log[k].1 = x := ⟨_, rfl⟩
        obtain ⟨b, c', hv, hc⟩ := log_cell hD hx
        rw [hxx] at hc
        rw [hxx]
        injection hv with hA
        subst hA
        obtain ⟨_, _, _, c3, c4, _, c6, _⟩ := hD.all
        have hkk := hk
        subst hk
        have t2 : (0 : Int) ≤ (k : Int) := by omega
        have t3 : (k : Int) < (n.log.length : Int) := by omega
        have t4 : ¬ (n.log.length : Int) < (k : Int) + 1 := h2
        clear e h0 h1 hD hx hxx hkl
        go_enter Try.func49, Try.ntmps49
        go_wp2_with fail
        go_ret2
        exact ⟨rfl, rfl⟩
end Go.Proofs.Ytjhnipnocjoelaa
