/- A slice of calls that came in: structs of two numbers and a row of bytes. No condition of the program's own. -/
import Derived.Test.YtmjfemnjkgfgfaaCam
import Derived.Lib.SmallJoins
import Derived.OpenShut
import Derived.Deep.Slices
import Derived.Deep.Fields
import Derived.ChangeSame
namespace Go.Proofs.Ytmjfemnjkgfgfaa
open Go.Joins Go.ChangeShapes Go.WideShapes Go.RowKit Go.Deep
/-- A call's values. -/
structure CallV where
  k : Int
  n : Int
  A : Option Addr
  c : Nat
  b : List Int
def ccs (l : List CallV) : List Value := l.flatMap fun p => [.int .i64 p.k, .int .i64 p.n, .slice p.A p.b.length p.c]
theorem ccs_len (l : List CallV) : (ccs l).length = l.length * 3 := by
  induction l with
  | nil => rfl
  | cons p r ih => show (_ :: _ :: _ :: ccs r).length = _; simp only [List.length_cons, ih]; omega
theorem ccs_at (l : List CallV) : ∀ (i : Nat) (x : CallV), l[i]? = some x → (ccs l)[i * 3]? = some (.int .i64 x.k) ∧ (ccs l)[i * 3 + 1]? = some (.int .i64 x.n) ∧ (ccs l)[i * 3 + 2]? = some (.slice x.A x.b.length x.c) := by
  induction l with
  | nil => intro i x h; simp at h
  | cons p r ih =>
    intro i x h
    have e : ccs (p :: r) = .int .i64 p.k :: .int .i64 p.n :: .slice p.A p.b.length p.c :: ccs r := rfl
    cases i with
    | zero => simp at h; subst h; exact ⟨rfl, rfl, rfl⟩
    | succ k =>
      have := ih k x (by simpa using h)
      rw [e, show (k + 1) * 3 = k * 3 + 1 + 1 + 1 by omega, show k * 3 + 1 + 1 + 1 + 2 = k * 3 + 2 + 1 + 1 + 1 by omega]
      simpa using this
/-- What holds of each call that came in. -/
structure CallOk (w : World) (p : CallV) : Prop where
  k : -9223372036854775808 ≤ p.k ∧ p.k ≤ 9223372036854775807
  n : -9223372036854775808 ≤ p.n ∧ p.n ≤ 9223372036854775807
  has : Has w w.heap.size p.A (bs p.b)
  byt : ∀ x ∈ p.b, 0 ≤ x ∧ x ≤ 255
  cap : p.b.length ≤ p.c
section
variable {H : Type} {enc : TypeId × Value → H} {w : World} {base : Nat} {spare : Nat → Bool} {held : Bool}
theorem cellsOf_int : Try.prog.cellsOf 3 = 1 := by kernel_rfl
theorem cellsOf_u8 : Try.prog.cellsOf 5 = 1 := by kernel_rfl
theorem cellsOf_bytes : Try.prog.cellsOf 31 = 1 := by kernel_rfl
theorem cellsOf_call : Try.prog.cellsOf 33 = 3 := by kernel_rfl
theorem int_of {k : Nat} {c : Value} {y : DataW H × List MemPlace} (h : DataW.trod enc Try.prog w base spare held k 3 [c] = some y) : ∃ n, c = .int .i64 n ∧ -9223372036854775808 ≤ n ∧ n ≤ 9223372036854775807 := by
  obtain ⟨n, e, _, hw⟩ := DataW.trod_int Try.underlying3 h
  exact ⟨n, by simpa using e, bounds_i64 hw⟩
theorem byte_of {k : Nat} {c : Value} {y : DataW H × List MemPlace} (h : DataW.trod enc Try.prog w base spare held k 5 [c] = some y) : ∃ n, c = .int .u8 n ∧ 0 ≤ n ∧ n ≤ 255 := by
  obtain ⟨n, e, _, hw⟩ := DataW.trod_int Try.underlying5 h
  exact ⟨n, by simpa using e, bounds_u8 hw⟩
theorem row_of {k : Nat} {c : Value} {y : DataW H × List MemPlace} (h : DataW.trod enc Try.prog w base spare held k 31 [c] = some y) :
    ∃ (A : Option Addr) (cap : Nat) (l : List Int), c = .slice A l.length cap ∧ Has w w.heap.size A (bs l) ∧ (∀ x ∈ l, 0 ≤ x ∧ x ≤ 255) ∧ l.length ≤ cap := by
  rcases open_slice Try.underlying31 h with ⟨hcs, _⟩ | ⟨a, len, cap, m, n, D, Pl, hcs, _, hl, _, hmm, _, hi⟩
  · simp at hcs
    subst hcs
    exact ⟨none, 0, [], rfl, .inl rfl, (fun p hp => by simp at hp), Nat.le_refl _⟩
  · simp at hcs
    subst hcs
    have hlm : len ≤ m := by rw [hmm]; split <;> omega
    have key : ∀ i : Nat, ∃ p : Int, i < m → w.cell? (a.add i) = some (.int .u8 p) ∧ 0 ≤ p ∧ p ≤ 255 := fun i => by
      by_cases him : i < m
      · obtain ⟨cs', hc, ht⟩ := hi i him
        rw [cellsOf_u8] at hc
        obtain ⟨_, hcl, hat⟩ := World.cells?_some hc
        match cs', hcl with
        | [v0], _ =>
          obtain ⟨p, rfl, h0, h1⟩ := byte_of ht
          refine ⟨p, fun _ => ⟨?_, h0, h1⟩⟩
          have := hat 0 (by omega); rw [Go.Deep.add_add] at this; simpa using this
      · exact ⟨0, fun h => absurd h him⟩
    obtain ⟨f, hF⟩ := Classical.axiomOfChoice key
    have hlen : ((List.range len).map f).length = len := by simp
    refine ⟨some a, cap, (List.range len).map f, by rw [hlen], ?_, fun p hp => ?_, by rw [hlen]; exact hl⟩
    · have hV := has_of_cells (w := w) (x := a) (n := len) (V := fun j => .int .u8 (f j)) (fun j hj => (hF j (by omega)).1)
      have e : (List.range len).map (fun j => Value.int .u8 (f j)) = bs ((List.range len).map f) := by simp [bs, List.map_map, Function.comp_def]
      rw [e] at hV
      exact hV
    · obtain ⟨i, hi', rfl⟩ := List.mem_map.1 hp
      have := List.mem_range.1 hi'
      exact (hF i (by omega)).2
theorem call_of {k : Nat} {c0 c1 c2 : Value} {y : DataW H × List MemPlace} (h : DataW.trod enc Try.prog w base spare held k 33 [c0, c1, c2] = some y) : ∃ p : CallV, c0 = .int .i64 p.k ∧ c1 = .int .i64 p.n ∧ c2 = .slice p.A p.b.length p.c ∧ CallOk w p := by
  obtain ⟨xs, n, _, _, _, hlen, hg⟩ := DataW.trod_struct Try.underlying33 h
  match xs, hlen with
  | [z0, z1, z2], _ =>
    have t0 : DataW.trod enc Try.prog w base spare held n 3 [c0] = some z0 := by simpa [cellsOf_int] using hg 0 _ rfl
    have t1 : DataW.trod enc Try.prog w base spare held n 3 [c1] = some z1 := by simpa [cellsOf_int] using hg 1 _ rfl
    have t2 : DataW.trod enc Try.prog w base spare held n 31 [c2] = some z2 := by simpa [cellsOf_bytes] using hg 2 _ rfl
    obtain ⟨a, rfl, ha⟩ := int_of t0
    obtain ⟨b, rfl, hb⟩ := int_of t1
    obtain ⟨A, cap, l, rfl, h1, h2, h3⟩ := row_of t2
    exact ⟨⟨a, b, A, cap, l⟩, rfl, rfl, rfl, ⟨ha, hb, h1, h2, h3⟩⟩
/-- A slice of calls that came in, opened whole. -/
theorem calls_of {k : Nat} {c : Value} {y : DataW H × List MemPlace} (h : DataW.trod enc Try.prog w base spare held k 22 [c] = some y) :
    ∃ (A : Option Addr) (cap : Nat) (l : List CallV), c = .slice A l.length cap ∧ Has w w.heap.size A (ccs l) ∧ (∀ p ∈ l, CallOk w p) ∧ l.length ≤ cap := by
  rcases open_slice Try.underlying22 h with ⟨hcs, _⟩ | ⟨a, len, cap, m, n, D, Pl, hcs, _, hl, _, hmm, _, hi⟩
  · simp at hcs
    subst hcs
    exact ⟨none, 0, [], rfl, .inl rfl, (fun p hp => by simp at hp), Nat.le_refl _⟩
  · simp at hcs
    subst hcs
    have hlm : len ≤ m := by rw [hmm]; split <;> omega
    have key : ∀ i : Nat, ∃ p : CallV, i < m → w.cell? (a.add (i * 3)) = some (.int .i64 p.k) ∧ w.cell? (a.add (i * 3 + 1)) = some (.int .i64 p.n) ∧ w.cell? (a.add (i * 3 + 2)) = some (.slice p.A p.b.length p.c) ∧ CallOk w p := fun i => by
      by_cases him : i < m
      · obtain ⟨cs', hc, ht⟩ := hi i him
        rw [cellsOf_call] at hc
        obtain ⟨_, hcl, hat⟩ := World.cells?_some hc
        match cs', hcl with
        | [v0, v1, v2], _ =>
          obtain ⟨p, rfl, rfl, rfl, hp⟩ := call_of ht
          refine ⟨p, fun _ => ⟨?_, ?_, ?_, hp⟩⟩
          · have := hat 0 (by omega); rw [Go.Deep.add_add] at this; simpa using this
          · have := hat 1 (by omega); rw [Go.Deep.add_add] at this; simpa using this
          · have := hat 2 (by omega); rw [Go.Deep.add_add] at this; simpa using this
      · exact ⟨⟨0, 0, none, 0, []⟩, fun h => absurd h him⟩
    obtain ⟨f, hF⟩ := Classical.axiomOfChoice key
    have hlen : ((List.range len).map f).length = len := by simp
    refine ⟨some a, cap, (List.range len).map f, by rw [hlen], ?_, fun p hp => ?_, by rw [hlen]; exact hl⟩
    · have hcell : ∀ j, j < len * 3 → ∃ u, (ccs ((List.range len).map f))[j]? = some u ∧ w.cell? (a.add j) = some u := fun j hj => by
        obtain ⟨i, r, hr, rfl⟩ : ∃ i r, r < 3 ∧ j = i * 3 + r := ⟨j / 3, j % 3, by omega, by omega⟩
        have h1 : i < len := by omega
        obtain ⟨q0, q1, q2, _⟩ := hF i (by omega)
        obtain ⟨e0, e1, e2⟩ := ccs_at ((List.range len).map f) i (f i) (by simp [h1])
        rcases (show r = 0 ∨ r = 1 ∨ r = 2 by omega) with rfl | rfl | rfl
        · exact ⟨_, e0, q0⟩
        · exact ⟨_, e1, q1⟩
        · exact ⟨_, e2, q2⟩
      have hV := has_of_cells (w := w) (x := a) (n := len * 3) (V := fun j => (ccs ((List.range len).map f)).getD j undef) (fun j hj => by
        obtain ⟨u, h1, h2⟩ := hcell j hj
        rw [h2, List.getD_eq_getElem?_getD, h1]; rfl)
      have e : (List.range (len * 3)).map (fun j => (ccs ((List.range len).map f)).getD j undef) = ccs ((List.range len).map f) := by
        apply List.ext_getElem?
        intro j
        rw [List.getElem?_map]
        by_cases hj : j < len * 3
        · obtain ⟨u, h1, _⟩ := hcell j hj
          rw [List.getElem?_range hj, h1, Option.map_some, List.getD_eq_getElem?_getD, h1]; rfl
        · rw [List.getElem?_eq_none (by simpa using hj), List.getElem?_eq_none (by rw [ccs_len, hlen]; omega)]; rfl
      rw [e] at hV
      exact hV
    · obtain ⟨i, hi', rfl⟩ := List.mem_map.1 hp
      have := List.mem_range.1 hi'
      exact (hF i (by omega)).2.2.2
end
/-- Where a call stands. -/
theorem Has.call {w : World} {lim : Nat} {A : Option Addr} {l : List CallV} (h : Has w lim A (ccs l)) {i : Nat} {x : CallV} (hx : l[i]? = some x) :
    ∃ b off, A = some ⟨b, off, none⟩ ∧ b < lim ∧ w.cell? ⟨b, off + i * 3, none⟩ = some (.int .i64 x.k) ∧ w.cell? ⟨b, off + i * 3 + 1, none⟩ = some (.int .i64 x.n) ∧ w.cell? ⟨b, off + i * 3 + 2, none⟩ = some (.slice x.A x.b.length x.c) := by
  have h2 := ccs_at l i x hx
  rcases h with h0 | ⟨b, off, hA, hb, hc⟩
  · rw [h0] at h2; simp at h2
  · exact ⟨b, off, hA, hb, hc _ _ h2.1, by rw [Nat.add_assoc]; exact hc _ _ h2.2.1, by rw [Nat.add_assoc]; exact hc _ _ h2.2.2⟩
end Go.Proofs.Ytmjfemnjkgfgfaa
