/- A map of whole numbers by whole numbers: what its block holds, and what each operation on it does. No condition of the program's own. -/
import Derived.Test.YtgfpogmipennaaaHs
import Derived.MapKept
namespace Go.Proofs.Ytgfpogmipennaaa
open Go.RowKit Go.MapKept

/-- Block b of w is a map: what stands at k is m k. -/
structure MapAt (w : World) (b : Nat) (es : Array MapEntry) (clock : Nat) (m : Int → Option Int) : Prop where
  heap : w.heap[b]? = some (.map es clock)
  st : Stamped es clock
  int : ∀ x ∈ es.toList, ∃ k v, x.key = .int .i64 k ∧ x.val = .int .i64 v ∧ m k = some v
  has : ∀ k v, m k = some v → ∃ x ∈ es.toList, x.key = .int .i64 k
def MapIs (w : World) (b : Nat) (m : Int → Option Int) : Prop := ∃ es clock, MapAt w b es clock m
def mput (m : Int → Option Int) (k v : Int) : Int → Option Int := fun q => if q = k then some v else m q
def mdrop (m : Int → Option Int) (k : Int) : Int → Option Int := fun q => if q = k then none else m q

theorem MapIs.lt {w : World} {b : Nat} {m : Int → Option Int} (h : MapIs w b m) : b < w.heap.size := by
  obtain ⟨es, c, h⟩ := h
  exact (Array.getElem?_eq_some_iff.1 h.heap).1
theorem MapIs.of_heap {w w' : World} {b : Nat} {m : Int → Option Int} (h : MapIs w b m) (e : w'.heap[b]? = w.heap[b]?) : MapIs w' b m := by
  obtain ⟨es, c, h⟩ := h
  exact ⟨es, c, e.trans h.heap, h.st, h.int, h.has⟩
theorem MapIs.made (w : World) : MapIs (w.alloc (.map #[] 0)) w.heap.size (fun _ => none) :=
  ⟨#[], 0, (MapKept.heap_alloc w _).1, stamped_empty 0, by simp, by simp⟩

theorem born_apart {es : Array MapEntry} {c : Nat} (h : Stamped es c) {i j : Nat} {x y : MapEntry} (hi : es[i]? = some x) (hj : es[j]? = some y) (e : x.born = y.born) : i = j := by
  obtain ⟨_, hn, _⟩ := (stamped_iff es c).1 h
  have hi' : (es.toList.map (·.born))[i]? = some x.born := by simp [hi]
  have hj' : (es.toList.map (·.born))[j]? = some y.born := by simp [hj]
  obtain ⟨li, ei⟩ := List.getElem?_eq_some_iff.1 hi'
  obtain ⟨lj, ej⟩ := List.getElem?_eq_some_iff.1 hj'
  exact (List.getElem_inj hn).1 (by rw [ei, ej, e])
theorem key_apart {es : Array MapEntry} {c : Nat} (h : Stamped es c) {i j : Nat} {x y : MapEntry} (hi : es[i]? = some x) (hj : es[j]? = some y) (e : x.key = y.key) : i = j := by
  obtain ⟨_, _, hp⟩ := (stamped_iff es c).1 h
  have hi' : es.toList[i]? = some x := by simp [hi]
  have hj' : es.toList[j]? = some y := by simp [hj]
  obtain ⟨li, ei⟩ := List.getElem?_eq_some_iff.1 hi'
  obtain ⟨lj, ej⟩ := List.getElem?_eq_some_iff.1 hj'
  rcases Nat.lt_trichotomy i j with hl | hl | hl
  · exact absurd (by rw [ei, ej]; exact e) (List.pairwise_iff_getElem.1 hp i j li lj hl)
  · exact hl
  · exact absurd (by rw [ei, ej]; exact e.symm) (List.pairwise_iff_getElem.1 hp j i lj li hl)

section
variable {P : Program} {w : World} {t kt et : TypeId} {b : Nat} {es : Array MapEntry} {c : Nat} {m : Int → Option Int}
theorem MapAt.isKey (h : MapAt w b es c m) : ∀ x ∈ es.toList, IsKey (.int .i64) x.key := fun x hx => by
  obtain ⟨k, v, hk, _⟩ := h.int x hx
  rw [hk]; simp [IsKey]
theorem isKey_i64 (k : Int) : IsKey (.int .i64) (.int .i64 k) := by simp [IsKey]
/-- Where a key stands, or that it doesn't. -/
theorem MapAt.find (h : MapAt w b es c m) (k : Int) : (Instr.findNow (.int .i64) (.int .i64 k) es.toList 0 = some none ∧ m k = none ∧ ∀ x ∈ es.toList, x.key ≠ .int .i64 k) ∨
    ∃ j x v, Instr.findNow (.int .i64) (.int .i64 k) es.toList 0 = some (some (j, .int .i64 v)) ∧ es[j]? = some x ∧ x.key = .int .i64 k ∧ x.val = .int .i64 v ∧ m k = some v := by
  rcases findNow_spec (isKey_i64 k) es.toList 0 h.isKey with ⟨h1, h2⟩ | ⟨j, x, h1, h2, h3⟩
  · refine .inl ⟨h1, ?_, h2⟩
    cases hm : m k with
    | none => rfl
    | some v =>
      obtain ⟨x, hx, hk⟩ := h.has k v hm
      exact absurd hk (h2 x hx)
  · have hj : es[j]? = some x := by simpa using h2
    have hx : x ∈ es.toList := List.mem_of_getElem? h2
    obtain ⟨k', v, hk, hv, hm⟩ := h.int x hx
    rw [h3] at hk
    cases hk
    refine .inr ⟨j, x, v, ?_, hj, h3, hv, hm⟩
    rw [h1, hv]; simp
theorem run_look (hm : P.underlying t = some (.map kt et)) (hd : P.underlying kt = some (.int .i64)) (hz : (zeroValue et).run P w = .ok (.int .i64 0) w) (h : MapIs w b m) (k : Int) :
    (Instr.lookup t (.map (some b)) (.int .i64 k) true).run P w = .ok (.tuple #[.int .i64 ((m k).getD 0), .bool (m k).isSome]) w := by
  obtain ⟨es, c, h⟩ := h
  have kc : ∀ e, (Instr.checkKey e 10000 kt (.int .i64 k)).run P w = .ok () w := fun e => run_checkKey hd (isKey_i64 k) e 9999
  rcases h.find k with ⟨h1, h2, _⟩ | ⟨j, x, v, h1, _, _, _, h2⟩
  · simp [Instr.lookup, run_underlying hm, MapKept.run_getObj_map h.heap, kc, run_findKey hd h1, hz, Result.andThen, h2]
  · simp [Instr.lookup, run_underlying hm, MapKept.run_getObj_map h.heap, kc, run_findKey hd h1, Result.andThen, h2]
theorem run_look_nil (hm : P.underlying t = some (.map kt et)) (hd : P.underlying kt = some (.int .i64)) (hz : (zeroValue et).run P w = .ok (.int .i64 0) w) (k : Int) :
    (Instr.lookup t (.map none) (.int .i64 k) true).run P w = .ok (.tuple #[.int .i64 0, .bool false]) w := by
  have h1 : Instr.findNow (.int .i64) (.int .i64 k) [] 0 = some none := rfl
  have kc : ∀ e, (Instr.checkKey e 10000 kt (.int .i64 k)).run P w = .ok () w := fun e => run_checkKey hd (isKey_i64 k) e 9999
  simp [Instr.lookup, run_underlying hm, kc, run_findKey hd h1, hz, Result.andThen]

/-- A map's block set anew. -/
theorem set_block {w : World} {b : Nat} {o : Obj} (hb : w.heap[b]? = some o) (o' : Obj) : ({ w with heap := w.heap.setIfInBounds b o' } : World).heap[b]? = some o' := (heap_set hb).1
theorem set_only {w : World} {b : Nat} {o : Obj} (hb : w.heap[b]? = some o) (o' : Obj) : w.grownBy { w with heap := w.heap.setIfInBounds b o' } (some b) :=
  ⟨rfl, rfl, rfl, by simp, fun k _ hk => (heap_set hb).2 k (fun e => hk (by rw [e]))⟩

theorem MapAt.put_new (h : MapAt w b es c m) (k v : Int) (hk : ∀ x ∈ es.toList, x.key ≠ .int .i64 k) {w' : World} (hh : w'.heap[b]? = some (.map (es.push { key := .int .i64 k, val := .int .i64 v, born := c }) (c + 1))) :
    MapIs w' b (mput m k v) := by
  refine ⟨_, _, hh, stamped_push h.st hk, fun x hx => ?_, fun q u hq => ?_⟩
  · simp only [Array.toList_push, List.mem_append, List.mem_singleton] at hx
    rcases hx with hx | rfl
    · obtain ⟨q, u, h1, h2, h3⟩ := h.int x hx
      refine ⟨q, u, h1, h2, ?_⟩
      unfold mput
      rw [if_neg (fun e => hk x hx (by rw [h1, e])), h3]
    · exact ⟨k, v, rfl, rfl, by simp [mput]⟩
  · by_cases e : q = k
    · subst e
      exact ⟨{ key := .int .i64 q, val := .int .i64 v, born := c }, by simp, rfl⟩
    · unfold mput at hq
      rw [if_neg e] at hq
      obtain ⟨x, hx, h1⟩ := h.has q u hq
      exact ⟨x, by simp only [Array.toList_push, List.mem_append]; exact .inl hx, h1⟩
theorem MapAt.put_old (h : MapAt w b es c m) (k v : Int) {j : Nat} {x : MapEntry} (hj : es[j]? = some x) (hk : x.key = .int .i64 k) {w' : World} {f : MapEntry → MapEntry}
    (hf : ∀ y, es[j]? = some y → (f y).key = y.key ∧ (f y).val = .int .i64 v) (hb : ∀ y, (f y).born = y.born) (hh : w'.heap[b]? = some (.map (es.modify j f) c)) :
    MapAt w' b (es.modify j f) c (mput m k v) := by
  refine ⟨hh, stamped_modify h.st _ _ (fun y _ => hb y) (fun y _ hy => (hf y hy).1), fun y hy => ?_, fun q u hq => ?_⟩
  · obtain ⟨i, hi⟩ := List.mem_iff_getElem?.1 hy
    rw [Array.getElem?_toList, Array.getElem?_modify] at hi
    by_cases e : j = i
    · subst e
      rw [if_pos rfl, hj] at hi
      simp at hi
      subst hi
      exact ⟨k, v, by rw [(hf x hj).1, hk], (hf x hj).2, by simp [mput]⟩
    · rw [if_neg e] at hi
      obtain ⟨q, u, h1, h2, h3⟩ := h.int y (List.mem_of_getElem? (by rw [Array.getElem?_toList]; exact hi))
      refine ⟨q, u, h1, h2, ?_⟩
      unfold mput
      rw [if_neg (fun eq => e (key_apart h.st hj hi (by rw [hk, h1, eq]))), h3]
  · by_cases e : q = k
    · subst e
      refine ⟨f x, List.mem_of_getElem? (i := j) ?_, by rw [(hf x hj).1, hk]⟩
      rw [Array.getElem?_toList, Array.getElem?_modify, if_pos rfl, hj]; rfl
    · unfold mput at hq
      rw [if_neg e] at hq
      obtain ⟨y, hy, h1⟩ := h.has q u hq
      obtain ⟨i, hi⟩ := List.mem_iff_getElem?.1 hy
      have ne : j ≠ i := fun e2 => by
        subst e2
        rw [Array.getElem?_toList, hj] at hi
        cases hi
        rw [hk] at h1
        cases h1
        exact e rfl
      refine ⟨y, List.mem_of_getElem? (i := i) ?_, h1⟩
      rw [Array.getElem?_toList, Array.getElem?_modify, if_neg ne, ← Array.getElem?_toList]; exact hi
/-- m[k] = v. -/
theorem run_put (hm : P.underlying t = some (.map kt et)) (hd : P.underlying kt = some (.int .i64)) (h : MapIs w b m) (k v : Int) :
    ∃ w', (Instr.mapUpdate t (.map (some b)) (.int .i64 k) (.int .i64 v)).run P w = .ok () w' ∧ MapIs w' b (mput m k v) ∧ w.grownBy w' (some b) ∧ w'.heap.size = w.heap.size := by
  obtain ⟨es, c, h⟩ := h
  rcases h.find k with ⟨h1, h2, h3⟩ | ⟨j, x, u, h1, h2, h3, h4, h5⟩
  · refine ⟨{ w with heap := w.heap.setIfInBounds b (.map (es.push { key := .int .i64 k, val := .int .i64 v, born := c }) (c + 1)) }, ?_, h.put_new k v h3 (set_block h.heap _), set_only h.heap _, by simp⟩
    simp [Instr.mapUpdate, run_underlying hm, MapKept.run_getObj_map h.heap, run_checkKey hd (isKey_i64 k), run_findKey hd h1, MapKept.run_setObj_map _ h.heap, Result.andThen]
  · refine ⟨{ w with heap := w.heap.setIfInBounds b (.map (es.modify j fun e => { e with key := .int .i64 k, val := .int .i64 v }) c) }, ?_,
      ⟨_, _, h.put_old k v h2 h3 (f := fun e => { e with key := .int .i64 k, val := .int .i64 v }) (fun y hy => ⟨by rw [h2] at hy; cases hy; exact h3.symm, rfl⟩) (fun _ => rfl) (set_block h.heap _)⟩, set_only h.heap _, by simp⟩
    simp [Instr.mapUpdate, run_underlying hm, MapKept.run_getObj_map h.heap, run_checkKey hd (isKey_i64 k), run_findKey hd h1, h2, h3, run_keyThatStays (isKey_i64 k), MapKept.run_setObj_map _ h.heap, Result.andThen]
/-- delete(m, k). -/
theorem run_drop {ty : TypeId} (hm : P.underlying t = some (.map kt et)) (hd : P.underlying kt = some (.int .i64)) (h : MapIs w b m) (k : Int) :
    ∃ w', (Builtin.delete_ #[t, kt] ty #[.map (some b), .int .i64 k]).run P w = .ok (.tuple #[]) w' ∧ MapIs w' b (mdrop m k) ∧ w.grownBy w' (some b) ∧ w'.heap.size = w.heap.size := by
  obtain ⟨es, c, h⟩ := h
  have kc : ∀ e, (Instr.checkKey e 10000 kt (.int .i64 k)).run P w = .ok () w := fun e => run_checkKey hd (isKey_i64 k) e 9999
  rcases h.find k with ⟨h1, h2, h3⟩ | ⟨j, x, u, h1, h2, h3, h4, h5⟩
  · refine ⟨{ w with heap := w.heap.setIfInBounds b (.map es c) }, ?_, ⟨es, c, set_block h.heap _, h.st, fun x hx => ?_, fun q v hq => ?_⟩, set_only h.heap _, by simp⟩
    · simp [Builtin.delete_, run_underlying hm, MapKept.run_getObj_map h.heap, kc, run_findKey hd h1, MapKept.run_setObj_map _ h.heap, Result.andThen]
    · obtain ⟨q, v, e1, e2, e3⟩ := h.int x hx
      exact ⟨q, v, e1, e2, by unfold mdrop; rw [if_neg (fun e => h3 x hx (by rw [e1, e])), e3]⟩
    · unfold mdrop at hq
      split at hq
      · cases hq
      · exact h.has q v hq
  · refine ⟨{ w with heap := w.heap.setIfInBounds b (.map (es.eraseIdxIfInBounds j) c) }, ?_, ⟨_, c, set_block h.heap _, stamped_erase h.st _, fun y hy => ?_, fun q v hq => ?_⟩, set_only h.heap _, by simp⟩
    · simp [Builtin.delete_, run_underlying hm, MapKept.run_getObj_map h.heap, kc, run_findKey hd h1, MapKept.run_setObj_map _ h.heap, Result.andThen]
    · have jl : j < es.size := (Array.getElem?_eq_some_iff.1 h2).1
      have hy' : y ∈ es.toList.eraseIdx j := by simpa [Array.eraseIdxIfInBounds, jl] using hy
      obtain ⟨i, hi, hij⟩ := List.mem_eraseIdx_iff_getElem?.1 hy'
      rw [Array.getElem?_toList] at hij
      obtain ⟨q, v, e1, e2, e3⟩ := h.int y (List.mem_of_getElem? (i := i) (by rw [Array.getElem?_toList]; exact hij))
      exact ⟨q, v, e1, e2, by unfold mdrop; rw [if_neg (fun e => hi (key_apart h.st hij h2 (by rw [e1, h3, e]))), e3]⟩
    · unfold mdrop at hq
      split at hq
      · cases hq
      · rename_i hne
        obtain ⟨y, hy, e1⟩ := h.has q v hq
        obtain ⟨i, hi⟩ := List.mem_iff_getElem?.1 hy
        have jl : j < es.size := (Array.getElem?_eq_some_iff.1 h2).1
        refine ⟨y, ?_, e1⟩
        simp only [Array.eraseIdxIfInBounds, jl, dif_pos, Array.toList_eraseIdx]
        refine List.mem_eraseIdx_iff_getElem?.2 ⟨i, fun e => hne ?_, hi⟩
        subst e
        rw [Array.getElem?_toList, h2] at hi
        cases hi
        rw [h3] at e1
        cases e1
        rfl
/-- An entry that is there: its stamp, and no change. -/
theorem run_entry (hm : P.underlying t = some (.map kt et)) (hd : P.underlying kt = some (.int .i64)) (h : MapAt w b es c m) (k v : Int) (hk : m k = some v) :
    ∃ (j : Nat) (x : MapEntry), es[j]? = some x ∧ x.key = .int .i64 k ∧ (Instr.mapEntry t (.map (some b)) (.int .i64 k)).run P w = .ok (.tuple #[.int .i64 v, .int .i64 (x.born : Int)]) w := by
  rcases h.find k with ⟨_, h2, _⟩ | ⟨j, x, u, h1, h2, h3, h4, h5⟩
  · rw [h2] at hk; cases hk
  · rw [h5] at hk; cases hk
    refine ⟨j, x, h2, h3, ?_⟩
    have hw : ({ w with heap := w.heap.setIfInBounds b (.map (es.modify j fun e => { e with key := .int .i64 k }) c) } : World) = w := by
      have e1 : (es.modify j fun e => { e with key := .int .i64 k }) = es := by
        apply Array.ext_getElem?
        intro i
        rw [Array.getElem?_modify]
        split
        · rename_i e; subst e; rw [h2]; simp [← h3]
        · rfl
      have e2 : w.heap.setIfInBounds b (.map es c) = w.heap := by
        apply Array.ext_getElem?
        intro i
        by_cases e : i = b
        · subst e; rw [(heap_set h.heap).1, h.heap]
        · exact (heap_set h.heap).2 i e
      rw [e1, e2]
    simp [Instr.mapEntry, run_underlying hm, MapKept.run_getObj_map h.heap, run_checkKey hd (isKey_i64 k), run_findKey hd h1, h2, h3, run_keyThatStays (isKey_i64 k), MapKept.run_setObj_map _ h.heap, Result.andThen]
    exact ⟨rfl, hw⟩
theorem run_entry_store (h : MapAt w b es c m) {j : Nat} {x : MapEntry} (hj : es[j]? = some x) {k : Int} (hk : x.key = .int .i64 k) (v : Int) :
    ∃ es' w', (Instr.entryStore t (.map (some b)) (.int .i64 (x.born : Int)) (.int .i64 v)).run P w = .ok () w' ∧ MapAt w' b es' c (mput m k v) ∧ w.grownBy w' (some b) ∧ w'.heap.size = w.heap.size ∧
      w' = { w with heap := w.heap.setIfInBounds b (.map es' c) } ∧ (∀ (i : Nat) (y : MapEntry), es[i]? = some y → ∃ z, es'[i]? = some z ∧ z.key = y.key ∧ z.born = y.born) := by
  have hf : es.findIdx? (fun e => ((e.born : Int) == (x.born : Int))) = some j := by
    have hjl := (Array.getElem?_eq_some_iff.1 hj).1
    rw [Array.findIdx?_eq_some_iff_getElem]
    refine ⟨hjl, ?_, fun i hi => ?_⟩
    · rw [(Array.getElem?_eq_some_iff.1 hj).2]; simp
    · rw [Bool.not_eq_true, beq_eq_false_iff_ne]
      intro e
      have hil : i < es.size := by omega
      have := born_apart h.st (i := i) (j := j) (x := es[i]) (y := x) (by simp [hil]) hj (by omega)
      omega
  refine ⟨es.modify j fun e => { e with val := .int .i64 v }, { w with heap := w.heap.setIfInBounds b (.map (es.modify j fun e => { e with val := .int .i64 v }) c) }, ?_,
    h.put_old k v hj hk (f := fun e => { e with val := .int .i64 v }) (fun y _ => ⟨rfl, rfl⟩) (fun _ => rfl) (set_block h.heap _), set_only h.heap _, by simp, rfl, fun i y hy => ?_⟩
  · simp [Instr.entryStore, MapKept.run_getObj_map h.heap, asInt, asIntOf, hf, MapKept.run_setObj_map _ h.heap, Result.andThen]
  · rw [Array.getElem?_modify]
    split
    · rename_i e; subst e
      rw [hy]
      exact ⟨{ y with val := .int .i64 v }, rfl, rfl, rfl⟩
    · exact ⟨y, hy, rfl, rfl⟩
end
end Go.Proofs.Ytgfpogmipennaaa
