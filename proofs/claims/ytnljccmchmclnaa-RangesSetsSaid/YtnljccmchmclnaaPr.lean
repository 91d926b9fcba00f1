/- Rows of ranges (two numbers each), as cells; the copy of such a row. No condition of the program's own. -/
import Derived.Test.YtnljccmchmclnaaWide
import Derived.WalkKit
import Derived.ProofKit
import Derived.Below
import Derived.Lib.Hide
import Derived.Deep.WholeRow
import Derived.Deep.QuietTactic
namespace Go.Proofs.Ytnljccmchmclnaa
open Go.RowKit Go.Deep

def pc (l : List (Int × Int)) : List Value := l.flatMap fun p => [.int .i64 p.1, .int .i64 p.2]
theorem pc_len (l : List (Int × Int)) : (pc l).length = l.length * 2 := by
  induction l with
  | nil => rfl
  | cons p r ih => show (_ :: _ :: pc r).length = _; simp only [List.length_cons, ih]; omega
theorem pc_append (l m : List (Int × Int)) : pc (l ++ m) = pc l ++ pc m := by simp [pc]
theorem pc_one (l : List (Int × Int)) : ∀ u ∈ pc l, u.oneCell' = true := fun u hu => by
  obtain ⟨p, _, hp⟩ := List.mem_flatMap.1 hu
  simp at hp
  rcases hp with rfl | rfl <;> rfl
theorem Try.info_range : (Try.prog.info? 24).map (fun i => (i.zero, i.size, i.bytes)) = some (some (.agg #[.int .i64 0, .int .i64 0]), 2, 16) := by kernel_rfl

set_option maxRecDepth 100000 in
theorem list_any (A : Option Addr) (c : Nat) (l : List (Int × Int)) (w : World) (h : Has w w.heap.size A (pc l)) (hl : l.length ≤ 1099511627776) :
    Calls Try.prog 20 #[.slice A l.length c] w fun e w' => ∃ v, e = .returned v ∧ w'.ownsRow w.heap.size 24 2 v l.length (pc l) ∧ w.grownBy w' none := by
  have hsz : (Try.prog.info? 24).map (·.size) = some 2 := by kernel_rfl
  rcases Nat.eq_zero_or_pos l.length with h0 | h0
  · have hl0 : l = [] := List.eq_nil_of_length_eq_zero h0
    subst hl0
    clear h
    go_enter Try.func20, Try.ntmps20
    go_wp2_with fail
    go_ret
    exact ⟨_, rfl, World.ownsRow_nil w _ _ 2, only_refl _ _⟩
  · have hmk := run_make_wide (P := Try.prog) w 26 24 (.agg #[.int .i64 0, .int .i64 0]) 2 16 Try.underlying26 Try.info_range .i64 .i64 l.length (by omega) (by unfold maxLen; omega)
    obtain ⟨row, hrow⟩ : ∃ row, row = madeCells (Value.agg #[.int .i64 0, .int .i64 0]).cells (l.length * 2) := ⟨_, rfl⟩
    have hrs : row.size = l.length * 2 := by rw [hrow]; exact size_madeCells _ _
    rw [← hrow] at hmk
    clear hrow
    have hnew := heap_alloc_new w (.cells row 24)
    obtain ⟨b, off, rfl, hb, hc⟩ : ∃ b off, A = some ⟨b, off, none⟩ ∧ b < w.heap.size ∧ ∀ j u, (pc l)[j]? = some u → w.cell? ⟨b, off + j, none⟩ = some u := by
      rcases h with h | h
      · have := congrArg List.length h; rw [pc_len, List.length_nil] at this; omega
      · exact h
    have hsrc : ∀ j v, (pc l)[j]? = some v → (w.alloc (.cells row 24)).cell? ((⟨b, off, none⟩ : Addr).add j) = some v := fun j v hv => by
      rw [Addr.add_lit]
      exact (World.cell?_alloc_lt _ _ _ hb).trans (hc j v hv)
    have hne : ((l.length : Int) == 0) = false := by rw [beq_eq_false_iff_ne]; omega
    go_enter Try.func20, Try.ntmps20
    go_wp2_with (with_reducible refine wpList_copy_wide _ rfl _ _ 26 26 rfl 24 2 Try.underlying26 hsz w.heap.size 0 l.length l.length ⟨b, off, none⟩ l.length c rfl rfl row 24 hnew (pc l) (by rw [pc_len]; simp) hsrc (by rw [pc_len, hrs]; omega) (pc_one l) ?_)
    go_ret
    rw [World.setRow_alloc_new]
    refine ⟨_, rfl, ⟨pc_len l, .inr ⟨w.heap.size, l.length, _, rfl, Nat.le_refl _, heap_alloc_new w _, Nat.le_refl _, by unfold maxLen; omega, ?_, ?_⟩⟩, World.grownBy_alloc w _ none⟩
    · simp [pc_len, hrs]
    · simp [pc_len]

theorem pc_at (l : List (Int × Int)) : ∀ (i : Nat) (x : Int × Int), l[i]? = some x → (pc l)[2 * i]? = some (.int .i64 x.1) ∧ (pc l)[2 * i + 1]? = some (.int .i64 x.2) := by
  induction l with
  | nil => intro i x h; simp at h
  | cons p r ih =>
    intro i x h
    have e : pc (p :: r) = .int .i64 p.1 :: .int .i64 p.2 :: pc r := rfl
    cases i with
    | zero => simp at h; subst h; exact ⟨rfl, rfl⟩
    | succ k =>
      have := ih k x (by simpa using h)
      rw [e, show 2 * (k + 1) = 2 * k + 1 + 1 by omega]
      simpa using this
set_option maxRecDepth 100000 in
/-- A row is the same as one that holds the same. -/
theorem same_self (A B : Option Addr) (ca cb : Nat) (l : List (Int × Int)) (w : World) (hA : Has w w.heap.size A (pc l)) (hB : Has w w.heap.size B (pc l)) (hl : l.length ≤ 1099511627776) :
    Calls Try.prog 16 #[.slice A l.length ca, .slice B l.length cb] w fun e w' => e = .returned (.bool true) ∧ ∃ n, w' = w.drewN n := by
  have HA := Lib.hid hA
  have HB := Lib.hid hB
  clear hA hB
  go_enter Try.func16, Try.ntmps16
  go_wp2_with fail
  go_loopw [5] (fun si wr => ∃ (i n : Nat), i ≤ l.length ∧ si = .int .i64 i ∧ wr = w.drewN n) (fun si _ => l.length - (intOf si).toNat)
  case atStart => exact ⟨0, 0, Nat.zero_le _, rfl, rfl⟩
  case round =>
    obtain ⟨i, n, hi, rfl, rfl⟩ := hrel
    have t0 : (0 : Int) ≤ (i : Int) := by omega
    by_cases hlt : i < l.length
    · have t1 : (i : Int) < (l.length : Int) := by omega
      have hes : IntKind.i64.wrap ((i : Int) + 1) = (i : Int) + 1 := by rw [IntKind.wrap_i64]; omega
      have hx : l[i]? = some l[i] := by simp [hlt]
      obtain ⟨x, hxx⟩ : ∃ x, x = l[i] := ⟨_, rfl⟩
      rw [← hxx] at hx
      have h2 := pc_at l i x hx
      obtain ⟨b, off, rfl, a1, a2⟩ : ∃ b off, A = some ⟨b, off, none⟩ ∧ w.cell? ⟨b, off + i * 2, none⟩ = some (.int .i64 x.1) ∧ w.cell? ⟨b, off + i * 2 + 1, none⟩ = some (.int .i64 x.2) := by
        rcases HA.out with h0 | ⟨b, off, hA, hb, hc⟩
        · rw [h0] at h2; simp at h2
        · exact ⟨b, off, hA, by rw [Nat.mul_comm]; exact hc _ _ h2.1, by rw [Nat.mul_comm, Nat.add_assoc]; exact hc _ _ h2.2⟩
      obtain ⟨b', off', rfl, b1, b2⟩ : ∃ b off, B = some ⟨b, off, none⟩ ∧ w.cell? ⟨b, off + i * 2, none⟩ = some (.int .i64 x.1) ∧ w.cell? ⟨b, off + i * 2 + 1, none⟩ = some (.int .i64 x.2) := by
        rcases HB.out with h0 | ⟨b, off, hA, hb, hc⟩
        · rw [h0] at h2; simp at h2
        · exact ⟨b, off, hA, by rw [Nat.mul_comm]; exact hc _ _ h2.1, by rw [Nat.mul_comm, Nat.add_assoc]; exact hc _ _ h2.2⟩
      have l1 : ∀ k, (w.drewN k).cell? ⟨b, off + i * 2, none⟩ = some (.int .i64 x.1) := fun _ => a1
      have l2 : ∀ k, (w.drewN k).cell? ⟨b, off + i * 2 + 1, none⟩ = some (.int .i64 x.2) := fun _ => a2
      have l3 : ∀ k, (w.drewN k).cell? ⟨b', off' + i * 2, none⟩ = some (.int .i64 x.1) := fun _ => b1
      have l4 : ∀ k, (w.drewN k).cell? ⟨b', off' + i * 2 + 1, none⟩ = some (.int .i64 x.2) := fun _ => b2
      clear h2 hx hxx
      go_wp2_with fail
      go_quiet (fail)
      go_wp2_with fail
      go_roundw
      case rel => exact ⟨i + 1, _, by omega, by go_num, rfl⟩
      case measure => simp [intOf]; omega
    · have t1 : ¬ (i : Int) < (l.length : Int) := by omega
      go_wp2_with fail
      go_ret
      exact ⟨rfl, _, rfl⟩
end Go.Proofs.Ytnljccmchmclnaa
