/- Package replica's small functions: Within, isNode, patience, Last, begin, List, termAt. Conditions: numbers below 2^40, logs shorter than 2^32. -/
import Derived.Test.YtjhnipnocjoelaaNd
namespace Go.Proofs.Ytjhnipnocjoelaa
open Go.RowKit Go.Deep
theorem Try.info_entry : (Try.prog.info? 49).map (fun i => (i.zero, i.size, i.bytes)) = some (some (.agg #[.int .i64 0, .string { data := #[] }]), 2, 24) := by kernel_rfl
theorem Try.info_msg : (Try.prog.info? 25).map (fun i => (i.size, i.bytes)) = some (10, 104) := by kernel_rfl
theorem within_is (n lo hi : Int) (w : World) : Calls Try.prog 35 #[.int .i64 n, .int .i64 lo, .int .i64 hi] w fun e w' => e = .returned (.bool (decide (lo ≤ n ∧ n ≤ hi))) ∧ w = w' := by
  by_cases h1 : lo ≤ n
  · by_cases h2 : n ≤ hi
    · rw [decide_eq_true (And.intro h1 h2)]
      go_enter Try.func35, Try.ntmps35
      go_wp2_with fail
      go_ret
      exact ⟨rfl, rfl⟩
    · rw [decide_eq_false (fun h => h2 h.2)]
      go_enter Try.func35, Try.ntmps35
      go_wp2_with fail
      go_ret
      exact ⟨rfl, rfl⟩
  · rw [decide_eq_false (fun h => h1 h.1)]
    go_enter Try.func35, Try.ntmps35
    go_wp2_with fail
    go_ret
    exact ⟨rfl, rfl⟩
theorem node_is (n : Int) (b : Bool) (hb : decide (0 ≤ n ∧ n ≤ 2) = b) (w : World) : Calls Try.prog 34 #[.int .i64 n] w fun e w' => e = .returned (.bool b) ∧ w = w' := by
  have K := Lib.hid (within_is n 0 2 w)
  rw [hb] at K
  clear hb
  go_enter Try.func34, Try.ntmps34
  go_wp2_with fail
  refine K.out.mono ?_
  rintro _ w' ⟨rfl, rfl⟩
  go_wp2_with fail
  go_ret
  exact ⟨rfl, rfl⟩
theorem patience_is (n : Int) (h1 : 0 ≤ n) (h2 : n ≤ 100) (w : World) : Calls Try.prog 46 #[.int .i64 n] w fun e w' => e = .returned (.int .i64 (5 + 3 * n)) ∧ w = w' := by
  go_enter Try.func46, Try.ntmps46
  go_wp2_with fail
  go_ret
  exact ⟨rfl, rfl⟩
/-- The last entry's index and term. -/
def Nd.li (n : Nd) : Int := n.base + n.log.length
def Nd.lt (n : Nd) : Int := match n.log.getLast? with | none => n.bt | some p => p.1
theorem getLast_at {α : Type} (l : List α) (h : 0 < l.length) : ∃ x, l.getLast? = some x ∧ l[l.length - 1]? = some x := by
  refine ⟨l[l.length - 1], ?_, List.getElem?_eq_getElem (by omega)⟩
  rw [List.getLast?_eq_getElem?]
  exact List.getElem?_eq_getElem (by omega)
set_option maxRecDepth 100000 in
theorem last_any (n : Nd) (A : Option Addr) (c : Nat) (w : World) (hA : Has w w.heap.size A (es n.log)) (hl : n.log.length ≤ 4294967296) (hb : 0 ≤ n.base ∧ n.base ≤ 1099511627776) :
    Calls Try.prog 17 #[n.val (.slice A n.log.length c)] w fun e w' => e = .returned (.tuple #[.int .i64 n.li, .int .i64 n.lt]) ∧ w.grownBy w' none := by
  unfold Nd.val
  rcases Nat.eq_zero_or_pos n.log.length with h0 | h0
  · have hli : n.li = n.base := by unfold Nd.li; omega
    have hlt : n.lt = n.bt := by unfold Nd.lt; rw [List.eq_nil_of_length_eq_zero h0]; rfl
    rw [hli, hlt, h0]
    clear hA hl hb hli hlt h0
    go_enter Try.func17, Try.ntmps17
    go_wp2_with fail
    go_quiet (fail)
    go_wp2_with fail
    go_ret2
    exact ⟨rfl, only_drewN (World.grownBy_alloc w _ none) _⟩
  · obtain ⟨x, hx1, hx2⟩ := getLast_at n.log h0
    have hlt : n.lt = x.1 := by unfold Nd.lt; rw [hx1]
    obtain ⟨li, hli⟩ : ∃ li, n.li = li := ⟨_, rfl⟩
    have hsum : IntKind.i64.wrap (n.base + (n.log.length : Int)) = li := by rw [← hli, IntKind.wrap_i64]; unfold Nd.li; omega
    rw [hli, hlt]
    have he := (es_at n.log _ x hx2).1
    obtain ⟨b, off, rfl, hbl, hc⟩ : ∃ b off, A = some ⟨b, off, none⟩ ∧ b < w.heap.size ∧ w.cell? ⟨b, off + (n.log.length - 1) * 2, none⟩ = some (.int .i64 x.1) := by
      rcases hA with h | ⟨b, off, hA, hb, hc⟩
      · rw [h] at he; cases he
      · exact ⟨b, off, hA, hb, hc _ _ he⟩
    obtain ⟨k, hk⟩ : ∃ k, n.log.length = k + 1 := ⟨n.log.length - 1, by omega⟩
    rw [hk] at hsum hc ⊢
    rw [show k + 1 - 1 = k by omega] at hc
    have hne : (((k + 1 : Nat) : Int) == 0) = false := by rw [beq_eq_false_iff_ne]; omega
    have hk2 : k ≤ 4294967296 := by omega
    have t0 : (0 : Int) ≤ (k : Int) := by omega
    have t1 : (k : Int) < ((k + 1 : Nat) : Int) := by omega
    have hw1 : IntKind.i64.wrap (k : Int) = (k : Int) := by rw [IntKind.wrap_i64]; omega
    have hsum : IntKind.i64.wrap (n.base + ((k : Int) + 1)) = li := hsum
    have t2 : (k : Int) < (k : Int) + 1 := by omega
    have hcc : (w.alloc (.cells (n.cells (.slice (some ⟨b, off, none⟩) (k + 1) c)) 37)).cell? ⟨b, off + k * 2, none⟩ = some (.int .i64 x.1) := (World.cell?_alloc_lt _ _ _ hbl).trans hc
    unfold Nd.cells at hcc
    clear hA hl hb hli hlt h0 he hx1 hx2 hk
    go_enter Try.func17, Try.ntmps17
    go_wp2_with fail
    go_quiet (fail)
    go_wp2_with fail
    go_ret2
    exact ⟨rfl, only_drewN (World.grownBy_alloc w _ none) _⟩
end Go.Proofs.Ytjhnipnocjoelaa
