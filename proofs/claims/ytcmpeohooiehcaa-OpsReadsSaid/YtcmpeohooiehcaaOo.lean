/- An operation that came in by value, opened to its eleven cells. No condition of the program's own. -/
import Derived.Test.YtcmpeohooiehcaaOgd
import Derived.Test.YtcmpeohooiehcaaOrt
import Derived.Test.YtcmpeohooiehcaaCam
import Derived.Lib.SmallJoins
import Derived.OpenShut
import Derived.Deep.Slices
import Derived.Deep.Fields
import Derived.ChangeSame
namespace Go.Proofs.Ytcmpeohooiehcaa
open Go.Joins Go.ChangeShapes Go.WideShapes Go.RowKit Go.Deep

section
variable {H : Type} {enc : TypeId × Value → H} {w : World} {base : Nat} {spare : Nat → Bool} {held : Bool}
theorem cellsOf_int : Try.prog.cellsOf 3 = 1 := by kernel_rfl
theorem cellsOf_str : Try.prog.cellsOf 9 = 1 := by kernel_rfl
theorem cellsOf_dot : Try.prog.cellsOf 23 = 3 := by kernel_rfl
theorem cellsOf_dots : Try.prog.cellsOf 24 = 1 := by kernel_rfl
theorem cellsOf_op : Try.prog.cellsOf 26 = 11 := by kernel_rfl
theorem open_op0 {r : Reach} {b0 : Nat} {v : Value} {d : DataW H} {p : List MemPlace}
    (hv : Value.okWide Try.prog w r b0 26 v) (h : DataW.Trod enc Try.prog w base spare held 26 v d p) :
    ∃ (c0 c1 c2 c3 c4 c5 c6 c7 c8 c9 c10 : Value) (y0 y1 y2 y3 y4 y5 y6 y7 y8 : DataW H × List MemPlace) (n : Nat), v = .agg #[c0, c1, c2, c3, c4, c5, c6, c7, c8, c9, c10] ∧
      DataW.trod enc Try.prog w base spare held n 23 [c0, c1, c2] = some y0 ∧ DataW.trod enc Try.prog w base spare held n 3 [c3] = some y1 ∧ DataW.trod enc Try.prog w base spare held n 3 [c4] = some y2 ∧ DataW.trod enc Try.prog w base spare held n 3 [c5] = some y3 ∧
      DataW.trod enc Try.prog w base spare held n 9 [c6] = some y4 ∧ DataW.trod enc Try.prog w base spare held n 9 [c7] = some y5 ∧ DataW.trod enc Try.prog w base spare held n 3 [c8] = some y6 ∧ DataW.trod enc Try.prog w base spare held n 3 [c9] = some y7 ∧ DataW.trod enc Try.prog w base spare held n 24 [c10] = some y8 := by
  obtain ⟨cs, rfl, hsz⟩ := okWide_struct Try.underlying26 hv
  obtain ⟨l⟩ := cs
  match l, hsz.trans cellsOf_op with
  | [c0, c1, c2, c3, c4, c5, c6, c7, c8, c9, c10], _ =>
    obtain ⟨fuel, hf⟩ := h
    obtain ⟨xs, n, _, hx, _, hlen, hg⟩ := DataW.trod_struct Try.underlying26 hf
    match xs, hlen with
    | [y0, y1, y2, y3, y4, y5, y6, y7, y8], _ =>
      exact ⟨c0, c1, c2, c3, c4, c5, c6, c7, c8, c9, c10, y0, y1, y2, y3, y4, y5, y6, y7, y8, n, rfl, by simpa [Value.cells, cellsOf_dot] using hg 0 _ rfl, by simpa [Value.cells, cellsOf_int] using hg 1 _ rfl, by simpa [Value.cells, cellsOf_int] using hg 2 _ rfl, by simpa [Value.cells, cellsOf_int] using hg 3 _ rfl, by simpa [Value.cells, cellsOf_str] using hg 4 _ rfl, by simpa [Value.cells, cellsOf_str] using hg 5 _ rfl, by simpa [Value.cells, cellsOf_int] using hg 6 _ rfl, by simpa [Value.cells, cellsOf_int] using hg 7 _ rfl, by simpa [Value.cells, cellsOf_dots] using hg 8 _ rfl⟩
theorem int_of {k : Nat} {c : Value} {y : DataW H × List MemPlace} (h : DataW.trod enc Try.prog w base spare held k 3 [c] = some y) : ∃ n, c = .int .i64 n ∧ I64 n := by
  obtain ⟨n, e, _, hw⟩ := DataW.trod_int Try.underlying3 h
  exact ⟨n, by simpa using e, bounds_i64 hw⟩
theorem str_of {k : Nat} {c : Value} {y : DataW H × List MemPlace} (h : DataW.trod enc Try.prog w base spare held k 9 [c] = some y) : ∃ s, c = .string s ∧ s.size ≤ maxLen := by
  obtain ⟨s, e, _, hw⟩ := DataW.trod_string Try.underlying9 h
  exact ⟨s, by simpa using e, hw⟩
theorem dot_of {k : Nat} {c0 c1 c2 : Value} {y : DataW H × List MemPlace} (h : DataW.trod enc Try.prog w base spare held k 23 [c0, c1, c2] = some y) : ∃ p : Dt, c0 = .int .i64 p.1 ∧ c1 = .int .i64 p.2.1 ∧ c2 = .int .i64 p.2.2 ∧ I64 p.1 ∧ I64 p.2.1 ∧ I64 p.2.2 := by
  obtain ⟨xs, n, _, _, _, hlen, hg⟩ := DataW.trod_struct Try.underlying23 h
  match xs, hlen with
  | [z0, z1, z2], _ =>
    have t0 : DataW.trod enc Try.prog w base spare held n 3 [c0] = some z0 := by simpa [cellsOf_int] using hg 0 _ rfl
    have t1 : DataW.trod enc Try.prog w base spare held n 3 [c1] = some z1 := by simpa [cellsOf_int] using hg 1 _ rfl
    have t2 : DataW.trod enc Try.prog w base spare held n 3 [c2] = some z2 := by simpa [cellsOf_int] using hg 2 _ rfl
    obtain ⟨a, rfl, ha⟩ := int_of t0
    obtain ⟨b, rfl, hb⟩ := int_of t1
    obtain ⟨c, rfl, hc⟩ := int_of t2
    exact ⟨(a, b, c), rfl, rfl, rfl, ha, hb, hc⟩
theorem dots_of {k : Nat} {c : Value} {y : DataW H × List MemPlace} (h : DataW.trod enc Try.prog w base spare held k 24 [c] = some y) :
    ∃ (A : Option Addr) (cap : Nat) (l : List Dt), c = .slice A l.length cap ∧ Has w w.heap.size A (dc l) ∧ (∀ p ∈ l, I64 p.1 ∧ I64 p.2.1 ∧ I64 p.2.2) ∧ l.length ≤ cap := by
  rcases open_slice Try.underlying24 h with ⟨hcs, _⟩ | ⟨a, len, cap, m, n, D, Pl, hcs, _, hl, _, hmm, _, hi⟩
  · simp at hcs
    subst hcs
    exact ⟨none, 0, [], rfl, .inl rfl, (fun p hp => by simp at hp), Nat.le_refl _⟩
  · simp at hcs
    subst hcs
    have hlm : len ≤ m := by rw [hmm]; split <;> omega
    have key : ∀ i : Nat, ∃ p : Dt, i < m → w.cell? (a.add (i * 3)) = some (.int .i64 p.1) ∧ w.cell? (a.add (i * 3 + 1)) = some (.int .i64 p.2.1) ∧ w.cell? (a.add (i * 3 + 2)) = some (.int .i64 p.2.2) ∧ I64 p.1 ∧ I64 p.2.1 ∧ I64 p.2.2 := fun i => by
      by_cases him : i < m
      · obtain ⟨cs', hc, ht⟩ := hi i him
        rw [cellsOf_dot] at hc
        obtain ⟨_, hcl, hat⟩ := World.cells?_some hc
        match cs', hcl with
        | [v0, v1, v2], _ =>
          obtain ⟨p, rfl, rfl, rfl, h0, h1, h2⟩ := dot_of ht
          refine ⟨p, fun _ => ⟨?_, ?_, ?_, h0, h1, h2⟩⟩
          · have := hat 0 (by omega); rw [Go.Deep.add_add] at this; simpa using this
          · have := hat 1 (by omega); rw [Go.Deep.add_add] at this; simpa using this
          · have := hat 2 (by omega); rw [Go.Deep.add_add] at this; simpa using this
      · exact ⟨(0, 0, 0), fun h => absurd h him⟩
    obtain ⟨f, hF⟩ := Classical.axiomOfChoice key
    have hlen : ((List.range len).map f).length = len := by simp
    refine ⟨some a, cap, (List.range len).map f, by rw [hlen], ?_, fun p hp => ?_, by rw [hlen]; exact hl⟩
    · have hcell : ∀ j, j < len * 3 → ∃ u, (dc ((List.range len).map f))[j]? = some u ∧ w.cell? (a.add j) = some u := fun j hj => by
        obtain ⟨i, r, hr, rfl⟩ : ∃ i r, r < 3 ∧ j = i * 3 + r := ⟨j / 3, j % 3, by omega, by omega⟩
        have h1 : i < len := by omega
        obtain ⟨q0, q1, q2, _⟩ := hF i (by omega)
        obtain ⟨e0, e1, e2⟩ := dc_at ((List.range len).map f) i (f i) (by simp [h1])
        rcases (show r = 0 ∨ r = 1 ∨ r = 2 by omega) with rfl | rfl | rfl
        · exact ⟨_, e0, q0⟩
        · exact ⟨_, e1, q1⟩
        · exact ⟨_, e2, q2⟩
      have hV := has_of_cells (w := w) (x := a) (n := len * 3) (V := fun j => (dc ((List.range len).map f)).getD j undef) (fun j hj => by
        obtain ⟨u, h1, h2⟩ := hcell j hj
        rw [h2, List.getD_eq_getElem?_getD, h1]; rfl)
      have e : (List.range (len * 3)).map (fun j => (dc ((List.range len).map f)).getD j undef) = dc ((List.range len).map f) := by
        apply List.ext_getElem?
        intro j
        rw [List.getElem?_map]
        by_cases hj : j < len * 3
        · obtain ⟨u, h1, _⟩ := hcell j hj
          rw [List.getElem?_range hj, h1, Option.map_some, List.getD_eq_getElem?_getD, h1]; rfl
        · rw [List.getElem?_eq_none (by simpa using hj), List.getElem?_eq_none (by rw [dc_len, hlen]; omega)]; rfl
      rw [e] at hV
      exact hV
    · obtain ⟨i, hi', rfl⟩ := List.mem_map.1 hp
      have := List.mem_range.1 hi'
      exact (hF i (by omega)).2.2.2
/-- An operation that came in, opened whole. -/
theorem open_op {r : Reach} {b0 : Nat} {v : Value} {d : DataW H} {p : List MemPlace}
    (hv : Value.okWide Try.prog w r b0 26 v) (h : DataW.Trod enc Try.prog w base spare held 26 v d p) :
    ∃ (dv e s coll ver kind n time : Int) (key text : ByteArray) (A : Option Addr) (c : Nat) (l : List Dt), v = .agg #[.int .i64 dv, .int .i64 e, .int .i64 s, .int .i64 coll, .int .i64 ver, .int .i64 kind, .string key, .string text, .int .i64 n, .int .i64 time, .slice A l.length c] ∧
      (I64 dv ∧ I64 e ∧ I64 s ∧ I64 coll ∧ I64 ver ∧ I64 kind ∧ I64 n ∧ I64 time) ∧ key.size ≤ maxLen ∧ text.size ≤ maxLen ∧ Has w w.heap.size A (dc l) ∧ (∀ p ∈ l, I64 p.1 ∧ I64 p.2.1 ∧ I64 p.2.2) ∧ l.length ≤ c := by
  obtain ⟨c0, c1, c2, c3, c4, c5, c6, c7, c8, c9, c10, _, _, _, _, _, _, _, _, _, k, rfl, t0, t1, t2, t3, t4, t5, t6, t7, t8⟩ := open_op0 hv h
  obtain ⟨⟨x, y, z⟩, rfl, rfl, rfl, hx, hy, hz⟩ := dot_of t0
  obtain ⟨a1, rfl, h1⟩ := int_of t1
  obtain ⟨a2, rfl, h2⟩ := int_of t2
  obtain ⟨a3, rfl, h3⟩ := int_of t3
  obtain ⟨a4, rfl, h4⟩ := str_of t4
  obtain ⟨a5, rfl, h5⟩ := str_of t5
  obtain ⟨a6, rfl, h6⟩ := int_of t6
  obtain ⟨a7, rfl, h7⟩ := int_of t7
  obtain ⟨A, c, l, rfl, hA, hd, hc⟩ := dots_of t8
  exact ⟨x, y, z, a1, a2, a3, a6, a7, a4, a5, A, c, l, rfl, ⟨hx, hy, hz, h1, h2, h3, h6, h7⟩, h4, h5, hA, hd, hc⟩
end
end Go.Proofs.Ytcmpeohooiehcaa
