/- The law's Good: an operation such as may be. No condition of the program's own. -/
import Derived.Test.YtcmpeohooiehcaaOdv
import Derived.Test.YtcmpeohooiehcaaLt
import Derived.LoopTactic
import Derived.WalkSpells
import Derived.StillTailTactics
import Derived.Deep.CutBlock
import Derived.Deep.DeepCutAuto
namespace Go.Proofs.Ytcmpeohooiehcaa
open Go.RowKit Go.Deep
theorem heap_set {w : World} {g i : Nat} {cs : Array Value} {t : TypeId} {m : Nat × Nat} {u : Value} (h : w.heap[g]? = some (.cells cs t m)) : (w.setCell ⟨g, i, none⟩ u).heap[g]? = some (.cells (cs.setIfInBounds i u) t m) := by
  simp [World.setCell, Array.getElem?_modify, h]
theorem set_at {w w' : World} {b : Nat} (h : w.grownBy w' (some b)) (i : Nat) (u : Value) : w.grownBy (w'.setCell ⟨b, i, none⟩ u) (some b) := only_set (p := ⟨b, i, none⟩) h (.inl rfl) u
theorem lit3 {w : World} {b r : Nat} {T : TypeId} {m : Nat × Nat} (h : w.heap[b]? = some (.cells #[.string { data := #[97] }, .string { data := #[98] }, .string { data := #[120] }] T m)) (hr : r < 3) : w.cell? ⟨b, r, none⟩ = some (.string (keyP r)) := by
  rcases (show r = 0 ∨ r = 1 ∨ r = 2 by omega) with rfl | rfl | rfl <;> simp [World.cell?, h, keyP]
theorem lit4 {w : World} {b r : Nat} {T : TypeId} {m : Nat × Nat} (h : w.heap[b]? = some (.cells #[.string { data := #[] }, .string { data := #[116] }, .string { data := #[85, 32] }, .string { data := #[32, 118] }] T m)) (hr : r < 4) : w.cell? ⟨b, r, none⟩ = some (.string (textP r)) := by
  rcases (show r = 0 ∨ r = 1 ∨ r = 2 ∨ r = 3 by omega) with rfl | rfl | rfl | rfl <;> simp [World.cell?, h, textP]
theorem dot_ne {a b c a' b' c' : Int} (h : (a, b, c) ≠ (a', b', c')) {α : Type _} (x y : α) : (if a = a' then if b = b' then if c = c' then x else y else y else y) = y := by
  by_cases h1 : a = a'
  · rw [if_pos h1]
    by_cases h2 : b = b'
    · rw [if_pos h2]
      by_cases h3 : c = c'
      · exact absurd (by rw [h1, h2, h3]) h
      · rw [if_neg h3]
    · rw [if_neg h2]
  · rw [if_neg h1]
def I64 (n : Int) : Prop := -9223372036854775808 ≤ n ∧ n ≤ 9223372036854775807
/-- The cells of an operation, in a block. -/
def OpB (w : World) (b : Nat) (d e sq coll ver kind : Int) (key text : ByteArray) (n time : Int) (v : Value) : Prop :=
  w.heap[b]? = some (.cells #[.int .i64 d, .int .i64 e, .int .i64 sq, .int .i64 coll, .int .i64 ver, .int .i64 kind, .string key, .string text, .int .i64 n, .int .i64 time, v] 26 (0, 0))
theorem OpB.cells {w : World} {b : Nat} {d e sq coll ver kind : Int} {key text : ByteArray} {n time : Int} {v : Value} (h : OpB w b d e sq coll ver kind key text n time v) :
    w.cell? ⟨b, 0, none⟩ = some (.int .i64 d) ∧ w.cell? ⟨b, 1, none⟩ = some (.int .i64 e) ∧ w.cell? ⟨b, 2, none⟩ = some (.int .i64 sq) ∧ w.cell? ⟨b, 3, none⟩ = some (.int .i64 coll) ∧ w.cell? ⟨b, 4, none⟩ = some (.int .i64 ver) ∧ w.cell? ⟨b, 5, none⟩ = some (.int .i64 kind) ∧
    w.cell? ⟨b, 6, none⟩ = some (.string key) ∧ w.cell? ⟨b, 7, none⟩ = some (.string text) ∧ w.cell? ⟨b, 8, none⟩ = some (.int .i64 n) ∧ w.cell? ⟨b, 9, none⟩ = some (.int .i64 time) ∧ w.cell? ⟨b, 10, none⟩ = some v := by
  unfold OpB at h
  simp [World.cell?, h]
theorem OpB.fr {w : World} {b : Nat} {d e sq coll ver kind : Int} {key text : ByteArray} {n time : Int} {v : Value} (h : OpB w b d e sq coll ver kind key text n time v) (i : Nat) : w.frozen? ⟨b, i, none⟩ = false := by
  unfold OpB at h
  simp [World.frozen?, h]
theorem OpB.set0 {w : World} {b : Nat} {d e sq coll ver kind : Int} {key text : ByteArray} {n time : Int} {v : Value} (h : OpB w b d e sq coll ver kind key text n time v) (x : Int) : OpB (w.setCell ⟨b, 0, none⟩ (.int .i64 x)) b x e sq coll ver kind key text n time v := by
  unfold OpB at h ⊢
  have := heap_set (i := 0) (u := .int .i64 x) h
  simpa using this
theorem OpB.set1 {w : World} {b : Nat} {d e sq coll ver kind : Int} {key text : ByteArray} {n time : Int} {v : Value} (h : OpB w b d e sq coll ver kind key text n time v) (x : Int) : OpB (w.setCell ⟨b, 1, none⟩ (.int .i64 x)) b d x sq coll ver kind key text n time v := by
  unfold OpB at h ⊢
  have := heap_set (i := 1) (u := .int .i64 x) h
  simpa using this
theorem OpB.set2 {w : World} {b : Nat} {d e sq coll ver kind : Int} {key text : ByteArray} {n time : Int} {v : Value} (h : OpB w b d e sq coll ver kind key text n time v) (x : Int) : OpB (w.setCell ⟨b, 2, none⟩ (.int .i64 x)) b d e x coll ver kind key text n time v := by
  unfold OpB at h ⊢
  have := heap_set (i := 2) (u := .int .i64 x) h
  simpa using this
theorem OpB.set3 {w : World} {b : Nat} {d e sq coll ver kind : Int} {key text : ByteArray} {n time : Int} {v : Value} (h : OpB w b d e sq coll ver kind key text n time v) (x : Int) : OpB (w.setCell ⟨b, 3, none⟩ (.int .i64 x)) b d e sq x ver kind key text n time v := by
  unfold OpB at h ⊢
  have := heap_set (i := 3) (u := .int .i64 x) h
  simpa using this
theorem OpB.set4 {w : World} {b : Nat} {d e sq coll ver kind : Int} {key text : ByteArray} {n time : Int} {v : Value} (h : OpB w b d e sq coll ver kind key text n time v) (x : Int) : OpB (w.setCell ⟨b, 4, none⟩ (.int .i64 x)) b d e sq coll x kind key text n time v := by
  unfold OpB at h ⊢
  have := heap_set (i := 4) (u := .int .i64 x) h
  simpa using this
theorem OpB.set5 {w : World} {b : Nat} {d e sq coll ver kind : Int} {key text : ByteArray} {n time : Int} {v : Value} (h : OpB w b d e sq coll ver kind key text n time v) (x : Int) : OpB (w.setCell ⟨b, 5, none⟩ (.int .i64 x)) b d e sq coll ver x key text n time v := by
  unfold OpB at h ⊢
  have := heap_set (i := 5) (u := .int .i64 x) h
  simpa using this
theorem OpB.set6 {w : World} {b : Nat} {d e sq coll ver kind : Int} {key text : ByteArray} {n time : Int} {v : Value} (h : OpB w b d e sq coll ver kind key text n time v) (x : ByteArray) : OpB (w.setCell ⟨b, 6, none⟩ (.string x)) b d e sq coll ver kind x text n time v := by
  unfold OpB at h ⊢
  have := heap_set (i := 6) (u := .string x) h
  simpa using this
theorem OpB.set7 {w : World} {b : Nat} {d e sq coll ver kind : Int} {key text : ByteArray} {n time : Int} {v : Value} (h : OpB w b d e sq coll ver kind key text n time v) (x : ByteArray) : OpB (w.setCell ⟨b, 7, none⟩ (.string x)) b d e sq coll ver kind key x n time v := by
  unfold OpB at h ⊢
  have := heap_set (i := 7) (u := .string x) h
  simpa using this
theorem OpB.set8 {w : World} {b : Nat} {d e sq coll ver kind : Int} {key text : ByteArray} {n time : Int} {v : Value} (h : OpB w b d e sq coll ver kind key text n time v) (x : Int) : OpB (w.setCell ⟨b, 8, none⟩ (.int .i64 x)) b d e sq coll ver kind key text x time v := by
  unfold OpB at h ⊢
  have := heap_set (i := 8) (u := .int .i64 x) h
  simpa using this
theorem OpB.set9 {w : World} {b : Nat} {d e sq coll ver kind : Int} {key text : ByteArray} {n time : Int} {v : Value} (h : OpB w b d e sq coll ver kind key text n time v) (x : Int) : OpB (w.setCell ⟨b, 9, none⟩ (.int .i64 x)) b d e sq coll ver kind key text n x v := by
  unfold OpB at h ⊢
  have := heap_set (i := 9) (u := .int .i64 x) h
  simpa using this
theorem OpB.set10 {w : World} {b : Nat} {d e sq coll ver kind : Int} {key text : ByteArray} {n time : Int} {v : Value} (h : OpB w b d e sq coll ver kind key text n time v) (x : Value) : OpB (w.setCell ⟨b, 10, none⟩ (x)) b d e sq coll ver kind key text n time x := by
  unfold OpB at h ⊢
  have := heap_set (i := 10) (u := x) h
  simpa using this
theorem OpB.drew {w : World} {b : Nat} {d e sq coll ver kind : Int} {key text : ByteArray} {n time : Int} {v : Value} (h : OpB w b d e sq coll ver kind key text n time v) : OpB w.drew b d e sq coll ver kind key text n time v := h
theorem OpB.other {w w' : World} {b : Nat} {d e sq coll ver kind : Int} {key text : ByteArray} {n time : Int} {v : Value} {r : Option Nat} (h : OpB w b d e sq coll ver kind key text n time v) (hg : w.grownBy w' r) (hr : r ≠ some b) : OpB w' b d e sq coll ver kind key text n time v :=
  (hg.block b (Array.getElem?_eq_some_iff.1 h).1 (fun e => hr e.symm)).trans h
theorem OpB.set_cell6 {w : World} {b : Nat} {d e sq coll ver kind : Int} {key text : ByteArray} {n time : Int} {v : Value} (h : OpB w b d e sq coll ver kind key text n time v) (u : Value) : (w.setCell ⟨b, 6, none⟩ u).cell? ⟨b, 7, none⟩ = some (.string text) := by
  unfold OpB at h
  have := heap_set (i := 6) (u := u) h
  simp [World.cell?, this]
theorem own_apart {w : World} {base s n b : Nat} {v : Value} {xs : List Value} {d e sq coll ver kind : Int} {key text : ByteArray} {nn time : Int} {u : Value} (h : w.ownsRow base 23 s v n xs) (hb : OpB w b d e sq coll ver kind key text nn time u) : v.ownBlock = none ∨ v.ownBlock ≠ some b := by
  rcases h.2 with ⟨hv, _⟩ | ⟨g, cap, cur, hv, _, hg, _⟩
  · left; rw [hv]; rfl
  · right
    rw [hv]
    intro e
    have e' : g = b := by simpa [Value.ownBlock] using e
    subst e'
    unfold OpB at hb
    rw [hb] at hg
    injection hg with hg
    injection hg with _ hg _
    exact absurd hg (by decide)
theorem OpB.lt {w : World} {b : Nat} {d e sq coll ver kind : Int} {key text : ByteArray} {n time : Int} {v : Value} (h : OpB w b d e sq coll ver kind key text n time v) : b < w.heap.size := (Array.getElem?_eq_some_iff.1 h).1
def dotsF (kind : Int) (l : List Dt) : List Dt := if kind = 3 then dotsG l else []
/-- What Good answers. -/
def GoodP (w : World) (d e s coll ver kind n time : Int) (key text : ByteArray) (l : List Dt) (e' : Ending) (w' : World) : Prop := ∃ (AL : Option Addr) (cL : Nat), e' = .returned (.agg #[.int .i64 d, .int .i64 e, .int .i64 s, .int .i64 coll, .int .i64 ver, .int .i64 kind, .string key, .string text, .int .i64 n, .int .i64 time, .slice AL l.length cL]) ∧ w'.ownsRow w.heap.size 23 3 (.slice AL l.length cL) l.length (dc l) ∧ w.grownBy w' none
def GoodV (w : World) (d e sq coll ver kind n time : Int) (key text : ByteArray) (l : List Dt) : Ending → World → Prop :=
  GoodP w (d % 6) (1 + e % 3) (1 + sq % 30) (coll % 3) (1 + ver % 3) (1 + kind % 5) (nG (1 + kind % 5) n) (time % 50) (keyP (key.size % 3)) (textP (text.size % 4)) (dotsF (1 + kind % 5) l)
set_option maxRecDepth 100000 in
set_option maxHeartbeats 4000000 in
theorem good_any (d e sq coll ver kind n time : Int) (key text : ByteArray) (A : Option Addr) (ca : Nat) (l : List (Int × Int × Int)) (w : World) (hd : I64 d) (he : I64 e) (hs : I64 sq) (hc : I64 coll) (hv : I64 ver) (hk : I64 kind) (hn : I64 n) (ht : I64 time) (hky : key.size ≤ maxLen) (htx : text.size ≤ maxLen) (hA : Has w w.heap.size A (dc l)) (hdw : ∀ p ∈ l, I64 p.1 ∧ I64 p.2.1 ∧ I64 p.2.2) (hll : l.length ≤ 1099511627776) (_ : l.length ≤ ca) :
    Calls Try.prog 12 #[.agg #[.int .i64 d, .int .i64 e, .int .i64 sq, .int .i64 coll, .int .i64 ver, .int .i64 kind, .string key, .string text, .int .i64 n, .int .i64 time, .slice A l.length ca]] w (GoodV w d e sq coll ver kind n time key text l) := by
  unfold GoodV
  obtain ⟨LL, hLL⟩ : ∃ LL, dotsF (1 + kind % 5) l = LL := ⟨_, rfl⟩
  obtain ⟨nn, hnn⟩ : ∃ nn, nG (1 + kind % 5) n = nn := ⟨_, rfl⟩
  rw [hLL, hnn]
  have HLL := Lib.hid hLL
  have HNN := Lib.hid hnn
  clear hLL hnn
  have WN120 := fun W => within_any n 12 hn.1 hn.2 (by decide) (by decide) W
  have WN300 := fun W => within_any n 30 hn.1 hn.2 (by decide) (by decide) W
  have n12 := Int.emod_nonneg n (show (12 : Int) ≠ 0 by decide)
  have n12' := Int.emod_lt_of_pos n (show (0 : Int) < 12 by decide)
  have WN12 := Lib.hid WN120
  have WN30 := Lib.hid WN300
  clear WN120 WN300
  have WD0 := fun W => within_any d 6 hd.1 hd.2 (by decide) (by decide) W
  have WE0 := fun W => within_any e 3 he.1 he.2 (by decide) (by decide) W
  have WS0 := fun W => within_any sq 30 hs.1 hs.2 (by decide) (by decide) W
  have WC0 := fun W => within_any coll 3 hc.1 hc.2 (by decide) (by decide) W
  have WV0 := fun W => within_any ver 3 hv.1 hv.2 (by decide) (by decide) W
  have WK0 := fun W => within_any kind 5 hk.1 hk.2 (by decide) (by decide) W
  have WT0 := fun W => within_any time 50 ht.1 ht.2 (by decide) (by decide) W
  obtain ⟨d', hd'⟩ : ∃ d', d % 6 = d' := ⟨_, rfl⟩
  obtain ⟨e', he'⟩ : ∃ e', e % 3 = e' := ⟨_, rfl⟩
  obtain ⟨s', hs'⟩ : ∃ s', sq % 30 = s' := ⟨_, rfl⟩
  obtain ⟨c', hc'⟩ : ∃ c', coll % 3 = c' := ⟨_, rfl⟩
  obtain ⟨v', hv'⟩ : ∃ v', ver % 3 = v' := ⟨_, rfl⟩
  obtain ⟨k', hk'⟩ : ∃ k', kind % 5 = k' := ⟨_, rfl⟩
  obtain ⟨t', ht'⟩ : ∃ t', time % 50 = t' := ⟨_, rfl⟩
  rw [hd'] at WD0 ⊢
  rw [he'] at WE0 ⊢
  rw [hs'] at WS0 ⊢
  rw [hc'] at WC0 ⊢
  rw [hv'] at WV0 ⊢
  rw [hk'] at WK0 HLL HNN ⊢
  rw [ht'] at WT0 ⊢
  obtain ⟨rk, hrk1⟩ : ∃ rk : Nat, key.size % 3 = rk := ⟨_, rfl⟩
  obtain ⟨rt, hrt1⟩ : ∃ rt : Nat, text.size % 4 = rt := ⟨_, rfl⟩
  rw [hrk1, hrt1]
  have hrk : (key.size : Int) % 3 = (rk : Int) := by omega
  have rk3 : rk < 3 := by omega
  have hrt : (text.size : Int) % 4 = (rt : Int) := by omega
  have rt4 : rt < 4 := by omega
  clear hrk1 hrt1
  have RK0 := fun W => within_any (key.size : Int) 3 (by omega) (by unfold maxLen at hky; omega) (by decide) (by decide) W
  have RT0 := fun W => within_any (text.size : Int) 4 (by omega) (by unfold maxLen at htx; omega) (by decide) (by decide) W
  rw [hrk] at RK0
  rw [hrt] at RT0
  have RK := Lib.hid RK0
  have RT := Lib.hid RT0
  have rk0 : (0 : Int) ≤ (rk : Int) := by omega
  have rk1 : (rk : Int) < 3 := by omega
  have rt0 : (0 : Int) ≤ (rt : Int) := by omega
  have rt1 : (rt : Int) < 4 := by omega
  have HAA := Lib.hid hA
  have HDW := Lib.hid hdw
  clear hA hdw
  have e0 : 0 ≤ e' ∧ e' ≤ 2 := by omega
  have s0 : 0 ≤ s' ∧ s' ≤ 29 := by omega
  have v0 : 0 ≤ v' ∧ v' ≤ 2 := by omega
  have k0 : 0 ≤ k' ∧ k' ≤ 4 := by omega
  have y1 : IntKind.i64.wrap (1 + e') = 1 + e' := by rw [IntKind.wrap_i64]; omega
  have y2 : IntKind.i64.wrap (1 + s') = 1 + s' := by rw [IntKind.wrap_i64]; omega
  have y3 : IntKind.i64.wrap (1 + v') = 1 + v' := by rw [IntKind.wrap_i64]; omega
  have y4 : IntKind.i64.wrap (1 + k') = 1 + k' := by rw [IntKind.wrap_i64]; omega
  have WD := Lib.hid WD0
  have WE := Lib.hid WE0
  have WS := Lib.hid WS0
  have WC := Lib.hid WC0
  have WV := Lib.hid WV0
  have WK := Lib.hid WK0
  have WT := Lib.hid WT0
  clear hd' he' hs' hc' hv' hk' ht' WD0 WE0 WS0 WC0 WV0 WK0 WT0 RK0 RT0 hrk hrt
  obtain ⟨V, hV⟩ : ∃ V, ((w.alloc (.cells #[.int .i64 d, .int .i64 e, .int .i64 sq, .int .i64 coll, .int .i64 ver, .int .i64 kind, .string key, .string text, .int .i64 n, .int .i64 time, .slice A l.length ca] 26)).alloc (.cells #[.int .i64 0, .int .i64 0, .int .i64 0, .int .i64 0, .int .i64 0, .int .i64 0, .string { data := #[] }, .string { data := #[] }, .int .i64 0, .int .i64 0, .slice none 0 0] 26)) = V := ⟨_, rfl⟩
  have B0 : OpB V w.heap.size d e sq coll ver kind key text n time (.slice A l.length ca) := by subst hV; exact (Below.heap_alloc _ _ _ (by simp)).trans (heap_alloc_new w _)
  have BR : OpB V (w.heap.size + 1) 0 0 0 0 0 0 { data := #[] } { data := #[] } 0 0 (.slice none 0 0) := by
    subst hV
    have := heap_alloc_new (w.alloc (.cells #[.int .i64 d, .int .i64 e, .int .i64 sq, .int .i64 coll, .int .i64 ver, .int .i64 kind, .string key, .string text, .int .i64 n, .int .i64 time, .slice A l.length ca] 26)) (.cells #[.int .i64 0, .int .i64 0, .int .i64 0, .int .i64 0, .int .i64 0, .int .i64 0, .string { data := #[] }, .string { data := #[] }, .int .i64 0, .int .i64 0, .slice none 0 0] 26)
    rwa [World.size_alloc] at this
  have gV : w.grownBy V none := by subst hV; exact only_alloc (only_alloc (only_refl _ _) _) _
  obtain ⟨q0, q1, q2, q3, q4, q5, q6, q7, q8, q9, q10⟩ := B0.cells
  have S1 : Hid (V.drew.cell? ⟨w.heap.size, 0, none⟩ = some (.int .i64 d) ∧ V.drew.cell? ⟨w.heap.size, 1, none⟩ = some (.int .i64 e) ∧ V.drew.cell? ⟨w.heap.size, 2, none⟩ = some (.int .i64 sq)) := ⟨q0, q1, q2⟩
  have fr := fun i => B0.fr i
  have fr0 := fr 0
  have fr1 := fr 1
  have fr2 := fr 2
  clear fr q3 q4 q5 q6 q7 q8 q9 q10
  go_enter Try.func12, Try.ntmps12
  go_wp2_with fail
  clear hV
  refine wp_region_late [(16, fun V => V.cell? ⟨w.heap.size, 0, none⟩ = some (.int .i64 d) ∧ V.cell? ⟨w.heap.size, 1, none⟩ = some (.int .i64 e) ∧ V.cell? ⟨w.heap.size, 2, none⟩ = some (.int .i64 sq))] (by kernel_rfl) ?_
  refine wpAnyT_pure (i := 0) (oi := { dst := some 8, op := Op.fieldAddr 26 (Operand.tmp 1) 0, type := 0, pos := "law.go:27", after := #[], guard := none }) (v := ?_) rfl (by kernel_rfl) (by kernel_rfl) (by kernel_rfl) (by kernel_rfl) (fun _ _ _ h => h) (Or.inl ⟨by rfl, ?_⟩) (holds1 (fun _ => S1.out)) ?_
  rotate_left
  · (intro W; go_simp; try with_reducible rfl)
  try simp only [Act.put, List.setIfInBounds_toArray, List.set_cons_zero, List.set_cons_succ]
  refine wpAnyT_pure (i := 1) (oi := { dst := some 9, op := Op.fieldAddr 23 (Operand.tmp 8) 0, type := 0, pos := "law.go:27", after := #[{ on := 0, ground := Ground.data }], guard := none }) (v := ?_) rfl (by kernel_rfl) (by kernel_rfl) (by kernel_rfl) (by kernel_rfl) (fun _ _ _ h => h) (Or.inl ⟨by rfl, ?_⟩) (holds1 (fun _ => S1.out)) ?_
  rotate_left
  · (intro W; go_simp; try with_reducible rfl)
  try simp only [Act.put, List.setIfInBounds_toArray, List.set_cons_zero, List.set_cons_succ]
  refine wpAnyT_take 3 16 (i := 2) (oi := { dst := some 10, op := Op.load 3 (Operand.tmp 9), type := 3, pos := "law.go:27", after := #[{ on := 1, ground := Ground.data }], guard := none }) (v := ?_) (.head _) rfl (by kernel_rfl) (by kernel_rfl) (by kernel_rfl) (by kernel_rfl) (by kernel_rfl) (by kernel_rfl) (by rfl) (fun _ _ _ h => h) (by rfl) ?_ (holds1 (fun _ => S1.out)) ?_
  rotate_left
  · (intro W hSw; (try dsimp only at hSw); go_simp; try with_reducible rfl)
  try simp only [Act.put, List.setIfInBounds_toArray, List.set_cons_zero, List.set_cons_succ]
  refine wpAnyT_call 3 16 (i := 3) (oi := { dst := some 11, op := Op.call { callee := Callee.value (Operand.func 15), args := #[Operand.tmp 10, Operand.const (Value.int IntKind.i64 6)], argTypes := #[3, 3] }, type := 3, pos := "law.go:27", after := #[{ on := 2, ground := Ground.data }], guard := none }) (v := ?_) (g := 15) (args := ?_) (.head _) rfl (by kernel_rfl) (by kernel_rfl) (by kernel_rfl) (by kernel_rfl) (by kernel_rfl) (by kernel_rfl) (by rfl) (fun _ _ _ h => h) (by rfl) ?_ ?_ (holds1 (fun _ => S1.out)) ?_
  rotate_left 2
  · (intro W hSw; (try dsimp only at hSw); go_simp; with_reducible rfl)
  · (intro W hSw; (try dsimp only at hSw); exact WD.out W)
  try simp only [Act.put, List.setIfInBounds_toArray, List.set_cons_zero, List.set_cons_succ]
  refine wpAnyT_pure (i := 4) (oi := { dst := some 12, op := Op.fieldAddr 26 (Operand.tmp 1) 0, type := 0, pos := "law.go:27", after := #[], guard := none }) (v := ?_) rfl (by kernel_rfl) (by kernel_rfl) (by kernel_rfl) (by kernel_rfl) (fun _ _ _ h => h) (Or.inl ⟨by rfl, ?_⟩) (holds1 (fun _ => S1.out)) ?_
  rotate_left
  · (intro W; go_simp; try with_reducible rfl)
  try simp only [Act.put, List.setIfInBounds_toArray, List.set_cons_zero, List.set_cons_succ]
  refine wpAnyT_pure (i := 5) (oi := { dst := some 13, op := Op.fieldAddr 23 (Operand.tmp 12) 1, type := 0, pos := "law.go:27", after := #[{ on := 4, ground := Ground.data }], guard := none }) (v := ?_) rfl (by kernel_rfl) (by kernel_rfl) (by kernel_rfl) (by kernel_rfl) (fun _ _ _ h => h) (Or.inl ⟨by rfl, ?_⟩) (holds1 (fun _ => S1.out)) ?_
  rotate_left
  · (intro W; go_simp; try with_reducible rfl)
  try simp only [Act.put, List.setIfInBounds_toArray, List.set_cons_zero, List.set_cons_succ]
  refine wpAnyT_take 3 16 (i := 6) (oi := { dst := some 14, op := Op.load 3 (Operand.tmp 13), type := 3, pos := "law.go:27", after := #[{ on := 5, ground := Ground.data }], guard := none }) (v := ?_) (.head _) rfl (by kernel_rfl) (by kernel_rfl) (by kernel_rfl) (by kernel_rfl) (by kernel_rfl) (by kernel_rfl) (by rfl) (fun _ _ _ h => h) (by rfl) ?_ (holds1 (fun _ => S1.out)) ?_
  rotate_left
  · (intro W hSw; (try dsimp only at hSw); go_simp; try with_reducible rfl)
  try simp only [Act.put, List.setIfInBounds_toArray, List.set_cons_zero, List.set_cons_succ]
  refine wpAnyT_call 3 16 (i := 7) (oi := { dst := some 15, op := Op.call { callee := Callee.value (Operand.func 15), args := #[Operand.tmp 14, Operand.const (Value.int IntKind.i64 3)], argTypes := #[3, 3] }, type := 3, pos := "law.go:27", after := #[{ on := 6, ground := Ground.data }, { on := 3, ground := Ground.chain }], guard := none }) (v := ?_) (g := 15) (args := ?_) (.head _) rfl (by kernel_rfl) (by kernel_rfl) (by kernel_rfl) (by kernel_rfl) (by kernel_rfl) (by kernel_rfl) (by rfl) (fun _ _ _ h => h) (by rfl) ?_ ?_ (holds1 (fun _ => S1.out)) ?_
  rotate_left 2
  · (intro W hSw; (try dsimp only at hSw); go_simp; with_reducible rfl)
  · (intro W hSw; (try dsimp only at hSw); exact WE.out W)
  try simp only [Act.put, List.setIfInBounds_toArray, List.set_cons_zero, List.set_cons_succ]
  refine wpAnyT_pure (i := 8) (oi := { dst := some 16, op := Op.binOp BinOp.add 3 (Operand.const (Value.int IntKind.i64 1)) (Operand.tmp 15) 3, type := 3, pos := "law.go:27", after := #[{ on := 7, ground := Ground.data }], guard := none }) (v := ?_) rfl (by kernel_rfl) (by kernel_rfl) (by kernel_rfl) (by kernel_rfl) (fun _ _ _ h => h) (Or.inl ⟨by rfl, ?_⟩) (holds1 (fun _ => S1.out)) ?_
  rotate_left
  · (intro W; go_simp; try with_reducible rfl)
  try simp only [Act.put, List.setIfInBounds_toArray, List.set_cons_zero, List.set_cons_succ]
  refine wpAnyT_pure (i := 9) (oi := { dst := some 17, op := Op.fieldAddr 26 (Operand.tmp 1) 0, type := 0, pos := "law.go:27", after := #[], guard := none }) (v := ?_) rfl (by kernel_rfl) (by kernel_rfl) (by kernel_rfl) (by kernel_rfl) (fun _ _ _ h => h) (Or.inl ⟨by rfl, ?_⟩) (holds1 (fun _ => S1.out)) ?_
  rotate_left
  · (intro W; go_simp; try with_reducible rfl)
  try simp only [Act.put, List.setIfInBounds_toArray, List.set_cons_zero, List.set_cons_succ]
  refine wpAnyT_pure (i := 10) (oi := { dst := some 18, op := Op.fieldAddr 23 (Operand.tmp 17) 2, type := 0, pos := "law.go:27", after := #[{ on := 9, ground := Ground.data }], guard := none }) (v := ?_) rfl (by kernel_rfl) (by kernel_rfl) (by kernel_rfl) (by kernel_rfl) (fun _ _ _ h => h) (Or.inl ⟨by rfl, ?_⟩) (holds1 (fun _ => S1.out)) ?_
  rotate_left
  · (intro W; go_simp; try with_reducible rfl)
  try simp only [Act.put, List.setIfInBounds_toArray, List.set_cons_zero, List.set_cons_succ]
  refine wpAnyT_take 3 16 (i := 11) (oi := { dst := some 19, op := Op.load 3 (Operand.tmp 18), type := 3, pos := "law.go:27", after := #[{ on := 10, ground := Ground.data }], guard := none }) (v := ?_) (.head _) rfl (by kernel_rfl) (by kernel_rfl) (by kernel_rfl) (by kernel_rfl) (by kernel_rfl) (by kernel_rfl) (by rfl) (fun _ _ _ h => h) (by rfl) ?_ (holds1 (fun _ => S1.out)) ?_
  rotate_left
  · (intro W hSw; (try dsimp only at hSw); go_simp; try with_reducible rfl)
  try simp only [Act.put, List.setIfInBounds_toArray, List.set_cons_zero, List.set_cons_succ]
  refine wpAnyT_call 3 16 (i := 12) (oi := { dst := some 20, op := Op.call { callee := Callee.value (Operand.func 15), args := #[Operand.tmp 19, Operand.const (Value.int IntKind.i64 30)], argTypes := #[3, 3] }, type := 3, pos := "law.go:27", after := #[{ on := 11, ground := Ground.data }, { on := 7, ground := Ground.chain }], guard := none }) (v := ?_) (g := 15) (args := ?_) (.head _) rfl (by kernel_rfl) (by kernel_rfl) (by kernel_rfl) (by kernel_rfl) (by kernel_rfl) (by kernel_rfl) (by rfl) (fun _ _ _ h => h) (by rfl) ?_ ?_ (holds1 (fun _ => S1.out)) ?_
  rotate_left 2
  · (intro W hSw; (try dsimp only at hSw); go_simp; with_reducible rfl)
  · (intro W hSw; (try dsimp only at hSw); exact WS.out W)
  try simp only [Act.put, List.setIfInBounds_toArray, List.set_cons_zero, List.set_cons_succ]
  refine wpAnyT_pure (i := 13) (oi := { dst := some 21, op := Op.binOp BinOp.add 3 (Operand.const (Value.int IntKind.i64 1)) (Operand.tmp 20) 3, type := 3, pos := "law.go:27", after := #[{ on := 12, ground := Ground.data }], guard := none }) (v := ?_) rfl (by kernel_rfl) (by kernel_rfl) (by kernel_rfl) (by kernel_rfl) (fun _ _ _ h => h) (Or.inl ⟨by rfl, ?_⟩) (holds1 (fun _ => S1.out)) ?_
  rotate_left
  · (intro W; go_simp; try with_reducible rfl)
  try simp only [Act.put, List.setIfInBounds_toArray, List.set_cons_zero, List.set_cons_succ]
  refine wpAnyT_pure (i := 14) (oi := { dst := some 22, op := Op.build 23 #[(0, Operand.tmp 11), (1, Operand.tmp 16), (2, Operand.tmp 21)], type := 23, pos := "law.go:27", after := #[{ on := 3, ground := Ground.data }, { on := 8, ground := Ground.data }, { on := 13, ground := Ground.data }], guard := none }) (v := ?_) rfl (by kernel_rfl) (by kernel_rfl) (by kernel_rfl) (by kernel_rfl) (fun _ _ _ h => h) (Or.inl ⟨by rfl, ?_⟩) (holds1 (fun _ => S1.out)) ?_
  rotate_left
  · (intro W; go_simp; try with_reducible rfl)
  try simp only [Act.put, List.setIfInBounds_toArray, List.set_cons_zero, List.set_cons_succ]
  refine wpAnyT_pure (i := 15) (oi := { dst := some 23, op := Op.fieldAddr 26 (Operand.tmp 1) 0, type := 0, pos := "law.go:27", after := #[{ on := 0, ground := Ground.phase }, { on := 1, ground := Ground.phase }, { on := 2, ground := Ground.phase }, { on := 3, ground := Ground.phase }, { on := 4, ground := Ground.phase }, { on := 5, ground := Ground.phase }, { on := 6, ground := Ground.phase }, { on := 7, ground := Ground.phase }, { on := 8, ground := Ground.phase }, { on := 9, ground := Ground.phase }, { on := 10, ground := Ground.phase }, { on := 11, ground := Ground.phase }, { on := 12, ground := Ground.phase }, { on := 13, ground := Ground.phase }, { on := 14, ground := Ground.phase }], guard := none }) (v := ?_) rfl (by kernel_rfl) (by kernel_rfl) (by kernel_rfl) (by kernel_rfl) (fun _ _ _ h => h) (Or.inl ⟨by rfl, ?_⟩) (holds1 (fun _ => S1.out)) ?_
  rotate_left
  · (intro W; go_simp; try with_reducible rfl)
  try simp only [Act.put, List.setIfInBounds_toArray, List.set_cons_zero, List.set_cons_succ]
  refine wpAnyT_ready (rs := [16]) (by kernel_rfl) (by simp) (AllT.cons (o := { dst := none, op := Op.store 23 (Operand.tmp 23) (Operand.tmp 22), type := 0, pos := "law.go:27", after := #[{ on := 15, ground := Ground.data }, { on := 14, ground := Ground.data }, { on := 12, ground := Ground.chain }, { on := 0, ground := Ground.phase }, { on := 1, ground := Ground.phase }, { on := 2, ground := Ground.phase }, { on := 3, ground := Ground.phase }, { on := 4, ground := Ground.phase }, { on := 5, ground := Ground.phase }, { on := 6, ground := Ground.phase }, { on := 7, ground := Ground.phase }, { on := 8, ground := Ground.phase }, { on := 9, ground := Ground.phase }, { on := 10, ground := Ground.phase }, { on := 11, ground := Ground.phase }, { on := 12, ground := Ground.phase }, { on := 13, ground := Ground.phase }, { on := 14, ground := Ground.phase }], guard := none }) rfl (fun K hK => ?_) AllT.nil)
  go_simp
  obtain ⟨V1, hV1⟩ : ∃ V1, (((V.setCell ⟨w.heap.size, 0, none⟩ (.int .i64 d')).setCell ⟨w.heap.size, 1, none⟩ (.int .i64 (1 + e'))).setCell ⟨w.heap.size, 2, none⟩ (.int .i64 (1 + s'))).drew = V1 := ⟨_, rfl⟩
  have B1 : OpB V1 w.heap.size d' (1 + e') (1 + s') coll ver kind key text n time (.slice A l.length ca) := by subst hV1; exact (((B0.set0 _).set1 _).set2 _).drew
  have g1 : V.grownBy V1 (some w.heap.size) := by subst hV1; exact only_drew (set_at (set_at (set_at (only_refl _ _) 0 _) 1 _) 2 _)
  rw [hV1]
  clear hV1
  refine hK.out _ _ (holds1 (late_no (by kernel_rfl))) ?_
  clear hK K
  try simp only [Act.put, List.setIfInBounds_toArray, List.set_cons_zero, List.set_cons_succ]
  refine wpAnyT_done (by kernel_rfl) ?_ _
  clear S1 q0 q1 q2 fr0 fr1 fr2
  have BR1 := BR.other g1 (by intro e; injection e with e; omega)
  have gV1 := only_step gV g1 (fun k hk => by cases hk; right; omega)
  obtain ⟨q0, q1, q2, q3, q4, q5, q6, q7, q8, q9, q10⟩ := B1.cells
  have fr3 := B1.fr 3
  have fr4 := B1.fr 4
  have fr5 := B1.fr 5
  have fr9 := B1.fr 9
  have S2 : Hid (V1.drew.cell? ⟨w.heap.size, 3, none⟩ = some (.int .i64 coll) ∧ V1.drew.cell? ⟨w.heap.size, 4, none⟩ = some (.int .i64 ver) ∧ V1.drew.cell? ⟨w.heap.size, 5, none⟩ = some (.int .i64 kind) ∧ V1.drew.cell? ⟨w.heap.size, 9, none⟩ = some (.int .i64 time)) := ⟨q3, q4, q5, q9⟩
  clear q0 q1 q2 q6 q7 q8 q10
  go_wp2_with fail
  refine wp_region_late [(15, fun V => V.cell? ⟨w.heap.size, 3, none⟩ = some (.int .i64 coll) ∧ V.cell? ⟨w.heap.size, 4, none⟩ = some (.int .i64 ver) ∧ V.cell? ⟨w.heap.size, 5, none⟩ = some (.int .i64 kind) ∧ V.cell? ⟨w.heap.size, 9, none⟩ = some (.int .i64 time))] (by kernel_rfl) ?_
  refine wpAnyT_pure (i := 0) (oi := { dst := some 24, op := Op.fieldAddr 26 (Operand.tmp 1) 1, type := 0, pos := "law.go:28", after := #[], guard := none }) (v := ?_) rfl (by kernel_rfl) (by kernel_rfl) (by kernel_rfl) (by kernel_rfl) (fun _ _ _ h => h) (Or.inl ⟨by rfl, ?_⟩) (holds1 (fun _ => S2.out)) ?_
  rotate_left
  · (intro W; go_simp; try with_reducible rfl)
  try simp only [Act.put, List.setIfInBounds_toArray, List.set_cons_zero, List.set_cons_succ]
  refine wpAnyT_take 4 15 (i := 1) (oi := { dst := some 25, op := Op.load 3 (Operand.tmp 24), type := 3, pos := "law.go:28", after := #[{ on := 0, ground := Ground.data }], guard := none }) (v := ?_) (.head _) rfl (by kernel_rfl) (by kernel_rfl) (by kernel_rfl) (by kernel_rfl) (by kernel_rfl) (by kernel_rfl) (by rfl) (fun _ _ _ h => h) (by rfl) ?_ (holds1 (fun _ => S2.out)) ?_
  rotate_left
  · (intro W hSw; (try dsimp only at hSw); go_simp; try with_reducible rfl)
  try simp only [Act.put, List.setIfInBounds_toArray, List.set_cons_zero, List.set_cons_succ]
  refine wpAnyT_call 4 15 (i := 2) (oi := { dst := some 26, op := Op.call { callee := Callee.value (Operand.func 15), args := #[Operand.tmp 25, Operand.const (Value.int IntKind.i64 3)], argTypes := #[3, 3] }, type := 3, pos := "law.go:28", after := #[{ on := 1, ground := Ground.data }], guard := none }) (v := ?_) (g := 15) (args := ?_) (.head _) rfl (by kernel_rfl) (by kernel_rfl) (by kernel_rfl) (by kernel_rfl) (by kernel_rfl) (by kernel_rfl) (by rfl) (fun _ _ _ h => h) (by rfl) ?_ ?_ (holds1 (fun _ => S2.out)) ?_
  rotate_left 2
  · (intro W hSw; (try dsimp only at hSw); go_simp; with_reducible rfl)
  · (intro W hSw; (try dsimp only at hSw); exact WC.out W)
  try simp only [Act.put, List.setIfInBounds_toArray, List.set_cons_zero, List.set_cons_succ]
  refine wpAnyT_pure (i := 3) (oi := { dst := some 27, op := Op.fieldAddr 26 (Operand.tmp 1) 2, type := 0, pos := "law.go:28", after := #[], guard := none }) (v := ?_) rfl (by kernel_rfl) (by kernel_rfl) (by kernel_rfl) (by kernel_rfl) (fun _ _ _ h => h) (Or.inl ⟨by rfl, ?_⟩) (holds1 (fun _ => S2.out)) ?_
  rotate_left
  · (intro W; go_simp; try with_reducible rfl)
  try simp only [Act.put, List.setIfInBounds_toArray, List.set_cons_zero, List.set_cons_succ]
  refine wpAnyT_take 4 15 (i := 4) (oi := { dst := some 28, op := Op.load 3 (Operand.tmp 27), type := 3, pos := "law.go:28", after := #[{ on := 3, ground := Ground.data }], guard := none }) (v := ?_) (.head _) rfl (by kernel_rfl) (by kernel_rfl) (by kernel_rfl) (by kernel_rfl) (by kernel_rfl) (by kernel_rfl) (by rfl) (fun _ _ _ h => h) (by rfl) ?_ (holds1 (fun _ => S2.out)) ?_
  rotate_left
  · (intro W hSw; (try dsimp only at hSw); go_simp; try with_reducible rfl)
  try simp only [Act.put, List.setIfInBounds_toArray, List.set_cons_zero, List.set_cons_succ]
  refine wpAnyT_call 4 15 (i := 5) (oi := { dst := some 29, op := Op.call { callee := Callee.value (Operand.func 15), args := #[Operand.tmp 28, Operand.const (Value.int IntKind.i64 3)], argTypes := #[3, 3] }, type := 3, pos := "law.go:28", after := #[{ on := 4, ground := Ground.data }, { on := 2, ground := Ground.chain }], guard := none }) (v := ?_) (g := 15) (args := ?_) (.head _) rfl (by kernel_rfl) (by kernel_rfl) (by kernel_rfl) (by kernel_rfl) (by kernel_rfl) (by kernel_rfl) (by rfl) (fun _ _ _ h => h) (by rfl) ?_ ?_ (holds1 (fun _ => S2.out)) ?_
  rotate_left 2
  · (intro W hSw; (try dsimp only at hSw); go_simp; with_reducible rfl)
  · (intro W hSw; (try dsimp only at hSw); exact WV.out W)
  try simp only [Act.put, List.setIfInBounds_toArray, List.set_cons_zero, List.set_cons_succ]
  refine wpAnyT_pure (i := 6) (oi := { dst := some 30, op := Op.binOp BinOp.add 3 (Operand.const (Value.int IntKind.i64 1)) (Operand.tmp 29) 3, type := 3, pos := "law.go:28", after := #[{ on := 5, ground := Ground.data }, { on := 15, ground := Ground.gcOnly Departure.lateStores }], guard := none }) (v := ?_) rfl (by kernel_rfl) (by kernel_rfl) (by kernel_rfl) (by kernel_rfl) (fun _ _ _ h => h) (Or.inl ⟨by rfl, ?_⟩) (holds1 (fun _ => S2.out)) ?_
  rotate_left
  · (intro W; go_simp; try with_reducible rfl)
  try simp only [Act.put, List.setIfInBounds_toArray, List.set_cons_zero, List.set_cons_succ]
  refine wpAnyT_pure (i := 7) (oi := { dst := some 31, op := Op.fieldAddr 26 (Operand.tmp 1) 3, type := 0, pos := "law.go:28", after := #[], guard := none }) (v := ?_) rfl (by kernel_rfl) (by kernel_rfl) (by kernel_rfl) (by kernel_rfl) (fun _ _ _ h => h) (Or.inl ⟨by rfl, ?_⟩) (holds1 (fun _ => S2.out)) ?_
  rotate_left
  · (intro W; go_simp; try with_reducible rfl)
  try simp only [Act.put, List.setIfInBounds_toArray, List.set_cons_zero, List.set_cons_succ]
  refine wpAnyT_take 4 15 (i := 8) (oi := { dst := some 32, op := Op.load 3 (Operand.tmp 31), type := 3, pos := "law.go:28", after := #[{ on := 7, ground := Ground.data }], guard := none }) (v := ?_) (.head _) rfl (by kernel_rfl) (by kernel_rfl) (by kernel_rfl) (by kernel_rfl) (by kernel_rfl) (by kernel_rfl) (by rfl) (fun _ _ _ h => h) (by rfl) ?_ (holds1 (fun _ => S2.out)) ?_
  rotate_left
  · (intro W hSw; (try dsimp only at hSw); go_simp; try with_reducible rfl)
  try simp only [Act.put, List.setIfInBounds_toArray, List.set_cons_zero, List.set_cons_succ]
  refine wpAnyT_call 4 15 (i := 9) (oi := { dst := some 33, op := Op.call { callee := Callee.value (Operand.func 15), args := #[Operand.tmp 32, Operand.const (Value.int IntKind.i64 5)], argTypes := #[3, 3] }, type := 3, pos := "law.go:28", after := #[{ on := 8, ground := Ground.data }, { on := 5, ground := Ground.chain }], guard := none }) (v := ?_) (g := 15) (args := ?_) (.head _) rfl (by kernel_rfl) (by kernel_rfl) (by kernel_rfl) (by kernel_rfl) (by kernel_rfl) (by kernel_rfl) (by rfl) (fun _ _ _ h => h) (by rfl) ?_ ?_ (holds1 (fun _ => S2.out)) ?_
  rotate_left 2
  · (intro W hSw; (try dsimp only at hSw); go_simp; with_reducible rfl)
  · (intro W hSw; (try dsimp only at hSw); exact WK.out W)
  try simp only [Act.put, List.setIfInBounds_toArray, List.set_cons_zero, List.set_cons_succ]
  refine wpAnyT_pure (i := 10) (oi := { dst := some 34, op := Op.binOp BinOp.add 3 (Operand.const (Value.int IntKind.i64 1)) (Operand.tmp 33) 3, type := 3, pos := "law.go:28", after := #[{ on := 9, ground := Ground.data }, { on := 17, ground := Ground.gcOnly Departure.lateStores }], guard := none }) (v := ?_) rfl (by kernel_rfl) (by kernel_rfl) (by kernel_rfl) (by kernel_rfl) (fun _ _ _ h => h) (Or.inl ⟨by rfl, ?_⟩) (holds1 (fun _ => S2.out)) ?_
  rotate_left
  · (intro W; go_simp; try with_reducible rfl)
  try simp only [Act.put, List.setIfInBounds_toArray, List.set_cons_zero, List.set_cons_succ]
  refine wpAnyT_pure (i := 11) (oi := { dst := some 35, op := Op.fieldAddr 26 (Operand.tmp 1) 7, type := 0, pos := "law.go:28", after := #[], guard := none }) (v := ?_) rfl (by kernel_rfl) (by kernel_rfl) (by kernel_rfl) (by kernel_rfl) (fun _ _ _ h => h) (Or.inl ⟨by rfl, ?_⟩) (holds1 (fun _ => S2.out)) ?_
  rotate_left
  · (intro W; go_simp; try with_reducible rfl)
  try simp only [Act.put, List.setIfInBounds_toArray, List.set_cons_zero, List.set_cons_succ]
  refine wpAnyT_take 4 15 (i := 12) (oi := { dst := some 36, op := Op.load 3 (Operand.tmp 35), type := 3, pos := "law.go:28", after := #[{ on := 11, ground := Ground.data }], guard := none }) (v := ?_) (.head _) rfl (by kernel_rfl) (by kernel_rfl) (by kernel_rfl) (by kernel_rfl) (by kernel_rfl) (by kernel_rfl) (by rfl) (fun _ _ _ h => h) (by rfl) ?_ (holds1 (fun _ => S2.out)) ?_
  rotate_left
  · (intro W hSw; (try dsimp only at hSw); go_simp; try with_reducible rfl)
  try simp only [Act.put, List.setIfInBounds_toArray, List.set_cons_zero, List.set_cons_succ]
  refine wpAnyT_call 4 15 (i := 13) (oi := { dst := some 37, op := Op.call { callee := Callee.value (Operand.func 15), args := #[Operand.tmp 36, Operand.const (Value.int IntKind.i64 50)], argTypes := #[3, 3] }, type := 3, pos := "law.go:28", after := #[{ on := 12, ground := Ground.data }, { on := 9, ground := Ground.chain }], guard := none }) (v := ?_) (g := 15) (args := ?_) (.head _) rfl (by kernel_rfl) (by kernel_rfl) (by kernel_rfl) (by kernel_rfl) (by kernel_rfl) (by kernel_rfl) (by rfl) (fun _ _ _ h => h) (by rfl) ?_ ?_ (holds1 (fun _ => S2.out)) ?_
  rotate_left 2
  · (intro W hSw; (try dsimp only at hSw); go_simp; with_reducible rfl)
  · (intro W hSw; (try dsimp only at hSw); exact WT.out W)
  try simp only [Act.put, List.setIfInBounds_toArray, List.set_cons_zero, List.set_cons_succ]
  refine wpAnyT_pure (i := 14) (oi := { dst := some 38, op := Op.fieldAddr 26 (Operand.tmp 1) 1, type := 0, pos := "law.go:28", after := #[{ on := 0, ground := Ground.phase }, { on := 1, ground := Ground.phase }, { on := 2, ground := Ground.phase }, { on := 3, ground := Ground.phase }, { on := 4, ground := Ground.phase }, { on := 5, ground := Ground.textOnly Departure.lateStoresUnsure }, { on := 6, ground := Ground.textOnly Departure.lateStores }, { on := 7, ground := Ground.phase }, { on := 8, ground := Ground.phase }, { on := 9, ground := Ground.textOnly Departure.lateStoresUnsure }, { on := 10, ground := Ground.textOnly Departure.lateStores }, { on := 11, ground := Ground.phase }, { on := 12, ground := Ground.phase }, { on := 13, ground := Ground.textOnly Departure.lateStoresUnsure }], guard := none }) (v := ?_) rfl (by kernel_rfl) (by kernel_rfl) (by kernel_rfl) (by kernel_rfl) (fun _ _ _ h => h) (Or.inl ⟨by rfl, ?_⟩) (holds1 (fun _ => S2.out)) ?_
  rotate_left
  · (intro W; go_simp; try with_reducible rfl)
  try simp only [Act.put, List.setIfInBounds_toArray, List.set_cons_zero, List.set_cons_succ]
  refine wpAnyT_ready (rs := [15]) (by kernel_rfl) (by simp) (AllT.cons (o := { dst := none, op := Op.store 3 (Operand.tmp 38) (Operand.tmp 26), type := 0, pos := "law.go:28", after := #[{ on := 14, ground := Ground.data }, { on := 2, ground := Ground.data }, { on := 13, ground := Ground.chain }, { on := 0, ground := Ground.phase }, { on := 1, ground := Ground.phase }, { on := 2, ground := Ground.phase }, { on := 3, ground := Ground.phase }, { on := 4, ground := Ground.phase }, { on := 5, ground := Ground.textOnly Departure.lateStoresUnsure }, { on := 6, ground := Ground.textOnly Departure.lateStores }, { on := 7, ground := Ground.phase }, { on := 8, ground := Ground.phase }, { on := 9, ground := Ground.textOnly Departure.lateStoresUnsure }, { on := 10, ground := Ground.textOnly Departure.lateStores }, { on := 11, ground := Ground.phase }, { on := 12, ground := Ground.phase }, { on := 13, ground := Ground.textOnly Departure.lateStoresUnsure }], guard := none }) rfl (fun K hK => ?_) AllT.nil)
  go_simp
  refine hK.out _ _ (holds1 (late_no (by kernel_rfl))) ?_
  clear hK K
  try simp only [Act.put, List.setIfInBounds_toArray, List.set_cons_zero, List.set_cons_succ]
  refine wpAnyT_pure (i := 16) (oi := { dst := some 39, op := Op.fieldAddr 26 (Operand.tmp 1) 2, type := 0, pos := "law.go:28", after := #[{ on := 0, ground := Ground.phase }, { on := 1, ground := Ground.phase }, { on := 2, ground := Ground.phase }, { on := 3, ground := Ground.phase }, { on := 4, ground := Ground.phase }, { on := 5, ground := Ground.phase }, { on := 6, ground := Ground.phase }, { on := 7, ground := Ground.phase }, { on := 8, ground := Ground.phase }, { on := 9, ground := Ground.textOnly Departure.lateStoresUnsure }, { on := 10, ground := Ground.textOnly Departure.lateStores }, { on := 11, ground := Ground.phase }, { on := 12, ground := Ground.phase }, { on := 13, ground := Ground.textOnly Departure.lateStoresUnsure }, { on := 14, ground := Ground.phase }, { on := 15, ground := Ground.phase }], guard := none }) (v := ?_) rfl (by kernel_rfl) (by kernel_rfl) (by kernel_rfl) (by kernel_rfl) (fun _ _ _ h => h) (Or.inl ⟨by rfl, ?_⟩) (holds1 (late_no (by kernel_rfl))) ?_
  rotate_left
  · (intro W; go_simp; try with_reducible rfl)
  try simp only [Act.put, List.setIfInBounds_toArray, List.set_cons_zero, List.set_cons_succ]
  refine wpAnyT_ready (rs := [17]) (by kernel_rfl) (by simp) (AllT.cons (o := { dst := none, op := Op.store 3 (Operand.tmp 39) (Operand.tmp 30), type := 0, pos := "law.go:28", after := #[{ on := 16, ground := Ground.data }, { on := 6, ground := Ground.data }, { on := 15, ground := Ground.chain }, { on := 0, ground := Ground.phase }, { on := 1, ground := Ground.phase }, { on := 2, ground := Ground.phase }, { on := 3, ground := Ground.phase }, { on := 4, ground := Ground.phase }, { on := 5, ground := Ground.phase }, { on := 6, ground := Ground.phase }, { on := 7, ground := Ground.phase }, { on := 8, ground := Ground.phase }, { on := 9, ground := Ground.textOnly Departure.lateStoresUnsure }, { on := 10, ground := Ground.textOnly Departure.lateStores }, { on := 11, ground := Ground.phase }, { on := 12, ground := Ground.phase }, { on := 13, ground := Ground.textOnly Departure.lateStoresUnsure }, { on := 14, ground := Ground.phase }, { on := 15, ground := Ground.phase }], guard := none }) rfl (fun K hK => ?_) AllT.nil)
  go_simp
  refine hK.out _ _ (holds1 (late_no (by kernel_rfl))) ?_
  clear hK K
  try simp only [Act.put, List.setIfInBounds_toArray, List.set_cons_zero, List.set_cons_succ]
  refine wpAnyT_pure (i := 18) (oi := { dst := some 40, op := Op.fieldAddr 26 (Operand.tmp 1) 3, type := 0, pos := "law.go:28", after := #[{ on := 0, ground := Ground.phase }, { on := 1, ground := Ground.phase }, { on := 2, ground := Ground.phase }, { on := 3, ground := Ground.phase }, { on := 4, ground := Ground.phase }, { on := 5, ground := Ground.phase }, { on := 6, ground := Ground.phase }, { on := 7, ground := Ground.phase }, { on := 8, ground := Ground.phase }, { on := 9, ground := Ground.phase }, { on := 10, ground := Ground.phase }, { on := 11, ground := Ground.phase }, { on := 12, ground := Ground.phase }, { on := 13, ground := Ground.textOnly Departure.lateStoresUnsure }, { on := 14, ground := Ground.phase }, { on := 15, ground := Ground.phase }, { on := 16, ground := Ground.phase }, { on := 17, ground := Ground.phase }], guard := none }) (v := ?_) rfl (by kernel_rfl) (by kernel_rfl) (by kernel_rfl) (by kernel_rfl) (fun _ _ _ h => h) (Or.inl ⟨by rfl, ?_⟩) (holds1 (late_no (by kernel_rfl))) ?_
  rotate_left
  · (intro W; go_simp; try with_reducible rfl)
  try simp only [Act.put, List.setIfInBounds_toArray, List.set_cons_zero, List.set_cons_succ]
  refine wpAnyT_ready (rs := [19]) (by kernel_rfl) (by simp) (AllT.cons (o := { dst := none, op := Op.store 3 (Operand.tmp 40) (Operand.tmp 34), type := 0, pos := "law.go:28", after := #[{ on := 18, ground := Ground.data }, { on := 10, ground := Ground.data }, { on := 17, ground := Ground.chain }, { on := 0, ground := Ground.phase }, { on := 1, ground := Ground.phase }, { on := 2, ground := Ground.phase }, { on := 3, ground := Ground.phase }, { on := 4, ground := Ground.phase }, { on := 5, ground := Ground.phase }, { on := 6, ground := Ground.phase }, { on := 7, ground := Ground.phase }, { on := 8, ground := Ground.phase }, { on := 9, ground := Ground.phase }, { on := 10, ground := Ground.phase }, { on := 11, ground := Ground.phase }, { on := 12, ground := Ground.phase }, { on := 13, ground := Ground.textOnly Departure.lateStoresUnsure }, { on := 14, ground := Ground.phase }, { on := 15, ground := Ground.phase }, { on := 16, ground := Ground.phase }, { on := 17, ground := Ground.phase }], guard := none }) rfl (fun K hK => ?_) AllT.nil)
  go_simp
  refine hK.out _ _ (holds1 (late_no (by kernel_rfl))) ?_
  clear hK K
  try simp only [Act.put, List.setIfInBounds_toArray, List.set_cons_zero, List.set_cons_succ]
  refine wpAnyT_pure (i := 20) (oi := { dst := some 41, op := Op.fieldAddr 26 (Operand.tmp 1) 7, type := 0, pos := "law.go:28", after := #[{ on := 0, ground := Ground.phase }, { on := 1, ground := Ground.phase }, { on := 2, ground := Ground.phase }, { on := 3, ground := Ground.phase }, { on := 4, ground := Ground.phase }, { on := 5, ground := Ground.phase }, { on := 6, ground := Ground.phase }, { on := 7, ground := Ground.phase }, { on := 8, ground := Ground.phase }, { on := 9, ground := Ground.phase }, { on := 10, ground := Ground.phase }, { on := 11, ground := Ground.phase }, { on := 12, ground := Ground.phase }, { on := 13, ground := Ground.phase }, { on := 14, ground := Ground.phase }, { on := 15, ground := Ground.phase }, { on := 16, ground := Ground.phase }, { on := 17, ground := Ground.phase }, { on := 18, ground := Ground.phase }, { on := 19, ground := Ground.phase }], guard := none }) (v := ?_) rfl (by kernel_rfl) (by kernel_rfl) (by kernel_rfl) (by kernel_rfl) (fun _ _ _ h => h) (Or.inl ⟨by rfl, ?_⟩) (holds1 (late_no (by kernel_rfl))) ?_
  rotate_left
  · (intro W; go_simp; try with_reducible rfl)
  try simp only [Act.put, List.setIfInBounds_toArray, List.set_cons_zero, List.set_cons_succ]
  refine wpAnyT_ready (rs := [21]) (by kernel_rfl) (by simp) (AllT.cons (o := { dst := none, op := Op.store 3 (Operand.tmp 41) (Operand.tmp 37), type := 0, pos := "law.go:28", after := #[{ on := 20, ground := Ground.data }, { on := 13, ground := Ground.data }, { on := 19, ground := Ground.chain }, { on := 0, ground := Ground.phase }, { on := 1, ground := Ground.phase }, { on := 2, ground := Ground.phase }, { on := 3, ground := Ground.phase }, { on := 4, ground := Ground.phase }, { on := 5, ground := Ground.phase }, { on := 6, ground := Ground.phase }, { on := 7, ground := Ground.phase }, { on := 8, ground := Ground.phase }, { on := 9, ground := Ground.phase }, { on := 10, ground := Ground.phase }, { on := 11, ground := Ground.phase }, { on := 12, ground := Ground.phase }, { on := 13, ground := Ground.phase }, { on := 14, ground := Ground.phase }, { on := 15, ground := Ground.phase }, { on := 16, ground := Ground.phase }, { on := 17, ground := Ground.phase }, { on := 18, ground := Ground.phase }, { on := 19, ground := Ground.phase }], guard := none }) rfl (fun K hK => ?_) AllT.nil)
  go_simp
  obtain ⟨V2, hV2⟩ : ∃ V2, ((((V1.setCell ⟨w.heap.size, 3, none⟩ (.int .i64 c')).setCell ⟨w.heap.size, 4, none⟩ (.int .i64 (1 + v'))).setCell ⟨w.heap.size, 5, none⟩ (.int .i64 (1 + k'))).setCell ⟨w.heap.size, 9, none⟩ (.int .i64 t')).drew = V2 := ⟨_, rfl⟩
  have B2 : OpB V2 w.heap.size d' (1 + e') (1 + s') c' (1 + v') (1 + k') key text n t' (.slice A l.length ca) := by subst hV2; exact ((((B1.set3 _).set4 _).set5 _).set9 _).drew
  have g2 : V1.grownBy V2 (some w.heap.size) := by subst hV2; exact only_drew (set_at (set_at (set_at (set_at (only_refl _ _) 3 _) 4 _) 5 _) 9 _)
  rw [hV2]
  clear hV2
  refine hK.out _ _ (holds1 (late_no (by kernel_rfl))) ?_
  clear hK K
  try simp only [Act.put, List.setIfInBounds_toArray, List.set_cons_zero, List.set_cons_succ]
  refine wpAnyT_done (by kernel_rfl) ?_ _
  clear S2 q3 q4 q5 q9 fr3 fr4 fr5 fr9
  have BR2 := BR1.other g2 (by intro e; injection e with e; omega)
  have gV2 := only_step gV1 g2 (fun k hk => by cases hk; right; omega)
  go_upto_region 3 with fail
  go_cut [1] (fun s1 wx => s1 = .pointer (some ⟨w.heap.size, 0, none⟩) ∧ OpB wx w.heap.size d' (1 + e') (1 + s') c' (1 + v') (1 + k') (keyP rk) (textP rt) n t' (.slice A l.length ca) ∧ w.grownBy wx none ∧ OpB wx (w.heap.size + 1) 0 0 0 0 0 0 { data := #[] } { data := #[] } 0 0 (.slice none 0 0))
  case first =>
    have zV2 := BR2.lt
    obtain ⟨q0, q1, q2, q3, q4, q5, q6, q7, q8, q9, q10⟩ := B2.cells
    have SP : Hid (∀ V, V2.grownBy V none → V.cell? ⟨w.heap.size, 6, none⟩ = some (.string key) ∧ V.cell? ⟨w.heap.size, 7, none⟩ = some (.string text)) := fun V hV => by obtain ⟨_, _, _, _, _, _, h6, h7, _⟩ := (B2.other hV (by simp)).cells; exact ⟨h6, h7⟩
    have S30 := Lib.hid (SP.out V2.drew (only_drew (only_refl _ _)))
    clear q0 q1 q2 q3 q4 q5 q6 q7 q8 q9 q10
    refine wp_region_late [(15, fun V => V.cell? ⟨w.heap.size, 6, none⟩ = some (.string key)), (17, fun V => V.cell? ⟨w.heap.size, 7, none⟩ = some (.string text))] (by kernel_rfl) ?_
    refine wpAnyT_pure (i := 1) (oi := { dst := some 43, op := Op.fieldAddr 26 (Operand.tmp 1) 4, type := 0, pos := "law.go:29", after := #[], guard := none }) (v := ?_) rfl (by kernel_rfl) (by kernel_rfl) (by kernel_rfl) (by kernel_rfl) (fun _ _ _ h => h) (Or.inl ⟨by rfl, ?_⟩) (holds2 (fun _ => S30.out.1) (fun _ => S30.out.2)) ?_
    rotate_left
    · (intro W; go_simp; try with_reducible rfl)
    try simp only [Act.put, List.setIfInBounds_toArray, List.set_cons_zero, List.set_cons_succ]
    refine wpAnyT_take 4 15 (i := 2) (oi := { dst := some 44, op := Op.load 9 (Operand.tmp 43), type := 9, pos := "law.go:29", after := #[{ on := 1, ground := Ground.data }], guard := none }) (v := ?_) (.head _) rfl (by kernel_rfl) (by kernel_rfl) (by kernel_rfl) (by kernel_rfl) (by kernel_rfl) (by kernel_rfl) (by rfl) (fun _ _ _ h => h) (by rfl) ?_ (holds2 (fun _ => S30.out.1) (fun _ => S30.out.2)) ?_
    rotate_left
    · (intro W hSw; (try dsimp only at hSw); go_simp; try with_reducible rfl)
    try simp only [Act.put, List.setIfInBounds_toArray, List.set_cons_zero, List.set_cons_succ]
    refine wpAnyT_pure (i := 3) (oi := { dst := some 45, op := Op.call { callee := Callee.builtin Builtin.len, args := #[Operand.tmp 44], argTypes := #[9] }, type := 3, pos := "law.go:29", after := #[{ on := 2, ground := Ground.data }], guard := none }) (v := ?_) rfl (by kernel_rfl) (by kernel_rfl) (by kernel_rfl) (by kernel_rfl) (fun _ _ _ h => h) (Or.inl ⟨by rfl, ?_⟩) (holds2 (fun _ => S30.out.1) (fun _ => S30.out.2)) ?_
    rotate_left
    · (intro W; go_simp; try with_reducible rfl)
    try simp only [Act.put, List.setIfInBounds_toArray, List.set_cons_zero, List.set_cons_succ]
    refine wpAnyT_call 4 15 (i := 4) (oi := { dst := some 46, op := Op.call { callee := Callee.value (Operand.func 15), args := #[Operand.tmp 45, Operand.const (Value.int IntKind.i64 3)], argTypes := #[3, 3] }, type := 3, pos := "law.go:29", after := #[{ on := 3, ground := Ground.data }], guard := none }) (v := ?_) (g := 15) (args := ?_) (.head _) rfl (by kernel_rfl) (by kernel_rfl) (by kernel_rfl) (by kernel_rfl) (by kernel_rfl) (by kernel_rfl) (by rfl) (fun _ _ _ h => h) (by rfl) ?_ ?_ (holds2 (fun _ => S30.out.1) (fun _ => S30.out.2)) ?_
    rotate_left 2
    · (intro W hSw; (try dsimp only at hSw); go_simp; with_reducible rfl)
    · (intro W hSw; (try dsimp only at hSw); exact RK.out W)
    try simp only [Act.put, List.setIfInBounds_toArray, List.set_cons_zero, List.set_cons_succ]
    refine wpAnyT_pure (i := 8) (oi := { dst := some 50, op := Op.fieldAddr 26 (Operand.tmp 1) 5, type := 0, pos := "law.go:29", after := #[], guard := none }) (v := ?_) rfl (by kernel_rfl) (by kernel_rfl) (by kernel_rfl) (by kernel_rfl) (fun _ _ _ h => h) (Or.inl ⟨by rfl, ?_⟩) (holds2 (fun _ => S30.out.1) (fun _ => S30.out.2)) ?_
    rotate_left
    · (intro W; go_simp; try with_reducible rfl)
    try simp only [Act.put, List.setIfInBounds_toArray, List.set_cons_zero, List.set_cons_succ]
    refine wpAnyT_take 4 17 (i := 9) (oi := { dst := some 51, op := Op.load 9 (Operand.tmp 50), type := 9, pos := "law.go:29", after := #[{ on := 8, ground := Ground.data }], guard := none }) (v := ?_) (.tail _ (.head _)) rfl (by kernel_rfl) (by kernel_rfl) (by kernel_rfl) (by kernel_rfl) (by kernel_rfl) (by kernel_rfl) (by rfl) (fun _ _ _ h => h) (by rfl) ?_ (holds2 (fun _ => S30.out.1) (fun _ => S30.out.2)) ?_
    rotate_left
    · (intro W hSw; (try dsimp only at hSw); go_simp; try with_reducible rfl)
    try simp only [Act.put, List.setIfInBounds_toArray, List.set_cons_zero, List.set_cons_succ]
    refine wpAnyT_pure (i := 10) (oi := { dst := some 52, op := Op.call { callee := Callee.builtin Builtin.len, args := #[Operand.tmp 51], argTypes := #[9] }, type := 3, pos := "law.go:29", after := #[{ on := 9, ground := Ground.data }], guard := none }) (v := ?_) rfl (by kernel_rfl) (by kernel_rfl) (by kernel_rfl) (by kernel_rfl) (fun _ _ _ h => h) (Or.inl ⟨by rfl, ?_⟩) (holds2 (fun _ => S30.out.1) (fun _ => S30.out.2)) ?_
    rotate_left
    · (intro W; go_simp; try with_reducible rfl)
    try simp only [Act.put, List.setIfInBounds_toArray, List.set_cons_zero, List.set_cons_succ]
    refine wpAnyT_call 4 17 (i := 11) (oi := { dst := some 53, op := Op.call { callee := Callee.value (Operand.func 15), args := #[Operand.tmp 52, Operand.const (Value.int IntKind.i64 4)], argTypes := #[3, 3] }, type := 3, pos := "law.go:29", after := #[{ on := 10, ground := Ground.data }, { on := 4, ground := Ground.chain }], guard := none }) (v := ?_) (g := 15) (args := ?_) (.tail _ (.head _)) rfl (by kernel_rfl) (by kernel_rfl) (by kernel_rfl) (by kernel_rfl) (by kernel_rfl) (by kernel_rfl) (by rfl) (fun _ _ _ h => h) (by rfl) ?_ ?_ (holds2 (fun _ => S30.out.1) (fun _ => S30.out.2)) ?_
    rotate_left 2
    · (intro W hSw; (try dsimp only at hSw); go_simp; with_reducible rfl)
    · (intro W hSw; (try dsimp only at hSw); exact RT.out W)
    try simp only [Act.put, List.setIfInBounds_toArray, List.set_cons_zero, List.set_cons_succ]
    refine wpAnyT_ready (rs := [0, 7]) (by kernel_rfl) (by simp) (AllT.cons (o := { dst := some 42, op := Op.buildSlice 51 3 #[(0, Operand.const (Value.string { data := #[97] })), (1, Operand.const (Value.string { data := #[98] })), (2, Operand.const (Value.string { data := #[120] }))], type := 51, pos := "law.go:29", after := #[], guard := none }) rfl (fun K hK => ?_) (AllT.cons (o := { dst := some 49, op := Op.buildSlice 51 4 #[(0, Operand.const (Value.string { data := #[] })), (1, Operand.const (Value.string { data := #[116] })), (2, Operand.const (Value.string { data := #[85, 32] })), (3, Operand.const (Value.string { data := #[32, 118] }))], type := 51, pos := "law.go:29", after := #[{ on := 15, ground := Ground.gcOnly Departure.lateStores }], guard := none }) rfl (fun K hK => ?_) AllT.nil))
    · go_simp
      obtain ⟨U, hU⟩ : ∃ Z0, (V2.alloc (.cells #[.string { data := #[97] }, .string { data := #[98] }, .string { data := #[120] }] 9)).drew = Z0 := ⟨_, rfl⟩
      have gU0 : V2.grownBy U none := by subst hU; exact only_drew (only_alloc (only_refl _ _) _)
      have hc3 : U.heap[V2.heap.size]? = some (.cells #[.string { data := #[97] }, .string { data := #[98] }, .string { data := #[120] }] 9 (0, 0)) := by subst hU; exact heap_alloc_new V2 _
      have zU : U.heap.size = V2.heap.size + 1 := by subst hU; simp
      rw [hU]
      clear hU
      have gU := gU0
      refine hK.out _ _ (holds2 (fun _ => (SP.out U gU).1) (fun _ => (SP.out U gU).2)) ?_
      clear hK K
      try simp only [Act.put, List.setIfInBounds_toArray, List.set_cons_zero, List.set_cons_succ]
      refine wpAnyT_pure (i := 5) (oi := { dst := some 47, op := Op.indexAddr 51 (Operand.tmp 42) (Operand.tmp 46), type := 0, pos := "law.go:29", after := #[{ on := 0, ground := Ground.data }, { on := 4, ground := Ground.data }], guard := none }) (v := ?_) rfl (by kernel_rfl) (by kernel_rfl) (by kernel_rfl) (by kernel_rfl) (fun _ _ _ h => h) (Or.inl ⟨by rfl, ?_⟩) (holds2 (fun _ => (SP.out U gU).1) (fun _ => (SP.out U gU).2)) ?_
      rotate_left
      · (intro W; go_simp; try with_reducible rfl)
      try simp only [Act.put, List.setIfInBounds_toArray, List.set_cons_zero, List.set_cons_succ]
      have c3 := lit3 hc3 rk3
      refine wpAnyT_more [(15, fun V => (V.cell? ⟨w.heap.size, 6, none⟩ = some (.string key)) ∧ V.cell? ⟨V2.heap.size, rk, none⟩ = some (.string (keyP rk))), (17, fun V => V.cell? ⟨w.heap.size, 7, none⟩ = some (.string text))] (more2 (fun _ h => h.1) (fun _ h => h)) _ _ _ _ ?_
      refine wpAnyT_take 4 15 (i := 6) (oi := { dst := some 48, op := Op.load 9 (Operand.tmp 47), type := 9, pos := "law.go:29", after := #[{ on := 5, ground := Ground.data }], guard := none }) (v := ?_) (.head _) rfl (by kernel_rfl) (by kernel_rfl) (by kernel_rfl) (by kernel_rfl) (by kernel_rfl) (by kernel_rfl) (by rfl) (fun _ _ _ h => h) (by rfl) ?_ (holds2 (fun _ => (And.intro (SP.out U gU).1 c3)) (fun _ => (SP.out U gU).2)) ?_
      rotate_left
      · (intro W hSw; (try dsimp only at hSw); go_simp; try with_reducible rfl)
      try simp only [Act.put, List.setIfInBounds_toArray, List.set_cons_zero, List.set_cons_succ]
      refine wpAnyT_pure (i := 14) (oi := { dst := some 56, op := Op.fieldAddr 26 (Operand.tmp 1) 4, type := 0, pos := "law.go:29", after := #[{ on := 0, ground := Ground.phase }, { on := 1, ground := Ground.phase }, { on := 2, ground := Ground.phase }, { on := 3, ground := Ground.phase }, { on := 4, ground := Ground.phase }, { on := 5, ground := Ground.phase }, { on := 6, ground := Ground.phase }, { on := 7, ground := Ground.textOnly Departure.lateStores }, { on := 8, ground := Ground.phase }, { on := 9, ground := Ground.phase }, { on := 10, ground := Ground.textOnly Departure.lateStoresUnsure }, { on := 11, ground := Ground.textOnly Departure.lateStoresUnsure }, { on := 12, ground := Ground.textOnly Departure.lateStores }, { on := 13, ground := Ground.textOnly Departure.lateStores }], guard := none }) (v := ?_) rfl (by kernel_rfl) (by kernel_rfl) (by kernel_rfl) (by kernel_rfl) (fun _ _ _ h => h) (Or.inl ⟨by rfl, ?_⟩) (holds2 (fun _ => (And.intro (SP.out U gU).1 c3)) (fun _ => (SP.out U gU).2)) ?_
      rotate_left
      · (intro W; go_simp; try with_reducible rfl)
      try simp only [Act.put, List.setIfInBounds_toArray, List.set_cons_zero, List.set_cons_succ]
      refine wpAnyT_ready (rs := [7, 15]) (by kernel_rfl) (by simp) (AllT.cons (o := { dst := some 49, op := Op.buildSlice 51 4 #[(0, Operand.const (Value.string { data := #[] })), (1, Operand.const (Value.string { data := #[116] })), (2, Operand.const (Value.string { data := #[85, 32] })), (3, Operand.const (Value.string { data := #[32, 118] }))], type := 51, pos := "law.go:29", after := #[{ on := 15, ground := Ground.gcOnly Departure.lateStores }], guard := none }) rfl (fun K hK => ?_) (AllT.cons (o := { dst := none, op := Op.store 9 (Operand.tmp 56) (Operand.tmp 48), type := 0, pos := "law.go:29", after := #[{ on := 14, ground := Ground.data }, { on := 6, ground := Ground.data }, { on := 11, ground := Ground.chain }, { on := 0, ground := Ground.phase }, { on := 1, ground := Ground.phase }, { on := 2, ground := Ground.phase }, { on := 3, ground := Ground.phase }, { on := 4, ground := Ground.phase }, { on := 5, ground := Ground.phase }, { on := 6, ground := Ground.phase }, { on := 7, ground := Ground.textOnly Departure.lateStores }, { on := 8, ground := Ground.phase }, { on := 9, ground := Ground.phase }, { on := 10, ground := Ground.textOnly Departure.lateStoresUnsure }, { on := 11, ground := Ground.textOnly Departure.lateStoresUnsure }, { on := 12, ground := Ground.textOnly Departure.lateStores }, { on := 13, ground := Ground.textOnly Departure.lateStores }], guard := none }) rfl (fun K hK => ?_) AllT.nil))
      · go_simp
        obtain ⟨U2, hU2⟩ : ∃ Z0, (U.alloc (.cells #[.string { data := #[] }, .string { data := #[116] }, .string { data := #[85, 32] }, .string { data := #[32, 118] }] 9)) = Z0 := ⟨_, rfl⟩
        have gU20 : U.grownBy U2 none := by subst hU2; exact only_alloc (only_refl _ _) _
        have hc4 : U2.heap[V2.heap.size + 1]? = some (.cells #[.string { data := #[] }, .string { data := #[116] }, .string { data := #[85, 32] }, .string { data := #[32, 118] }] 9 (0, 0)) := by rw [← zU]; subst hU2; exact heap_alloc_new U _
        have zU2 : U2.heap.size = V2.heap.size + 2 := by subst hU2; simp; omega
        rw [hU2]
        clear hU2
        have gU2 := only_step gU gU20 (fun _ h => .inl h)
        have c32 := (World.cell?_of_block (a := ⟨V2.heap.size, rk, none⟩) (gU20.block V2.heap.size (by omega) (by simp))).trans c3
        refine hK.out _ _ (holds2 (fun _ => (And.intro (SP.out U2 gU2).1 c32)) (fun _ => (SP.out U2 gU2).2)) ?_
        clear hK K
        try simp only [Act.put, List.setIfInBounds_toArray, List.set_cons_zero, List.set_cons_succ]
        refine wpAnyT_pure (i := 12) (oi := { dst := some 54, op := Op.indexAddr 51 (Operand.tmp 49) (Operand.tmp 53), type := 0, pos := "law.go:29", after := #[{ on := 7, ground := Ground.data }, { on := 11, ground := Ground.data }, { on := 15, ground := Ground.gcOnly Departure.lateStores }], guard := none }) (v := ?_) rfl (by kernel_rfl) (by kernel_rfl) (by kernel_rfl) (by kernel_rfl) (fun _ _ _ h => h) (Or.inl ⟨by rfl, ?_⟩) (holds2 (fun _ => (And.intro (SP.out U2 gU2).1 c32)) (fun _ => (SP.out U2 gU2).2)) ?_
        rotate_left
        · (intro W; go_simp; try with_reducible rfl)
        try simp only [Act.put, List.setIfInBounds_toArray, List.set_cons_zero, List.set_cons_succ]
        have c4 := lit4 hc4 rt4
        refine wpAnyT_more [(15, fun V => (V.cell? ⟨w.heap.size, 6, none⟩ = some (.string key)) ∧ V.cell? ⟨V2.heap.size, rk, none⟩ = some (.string (keyP rk))), (17, fun V => (V.cell? ⟨w.heap.size, 7, none⟩ = some (.string text)) ∧ V.cell? ⟨V2.heap.size + 1, rt, none⟩ = some (.string (textP rt)))] (more2 (fun _ h => h) (fun _ h => h.1)) _ _ _ _ ?_
        refine wpAnyT_take 4 17 (i := 13) (oi := { dst := some 55, op := Op.load 9 (Operand.tmp 54), type := 9, pos := "law.go:29", after := #[{ on := 12, ground := Ground.data }, { on := 15, ground := Ground.gcOnly Departure.lateStores }], guard := none }) (v := ?_) (.tail _ (.head _)) rfl (by kernel_rfl) (by kernel_rfl) (by kernel_rfl) (by kernel_rfl) (by kernel_rfl) (by kernel_rfl) (by rfl) (fun _ _ _ h => h) (by rfl) ?_ (holds2 (fun _ => (And.intro (SP.out U2 gU2).1 c32)) (fun _ => (And.intro (SP.out U2 gU2).2 c4))) ?_
        rotate_left
        · (intro W hSw; (try dsimp only at hSw); go_simp; try with_reducible rfl)
        try simp only [Act.put, List.setIfInBounds_toArray, List.set_cons_zero, List.set_cons_succ]
        have B22 := B2.other gU2 (by simp)
        have p6 := B22.cells.2.2.2.2.2.2.1
        have p7 := B22.cells.2.2.2.2.2.2.2.1
        have pf6 := B22.fr 6
        have pf7 := B22.fr 7
        have K17 : ∀ u, (fun V => (V.cell? ⟨w.heap.size, 7, none⟩ = some (.string text)) ∧ V.cell? ⟨V2.heap.size + 1, rt, none⟩ = some (.string (textP rt))) (U2.setCell ⟨w.heap.size, 6, none⟩ u) := fun u => ⟨B22.set_cell6 u, (World.cell?_of_block (Below.heap_setCell _ _ _ _ (by dsimp only; omega))).trans c4⟩
        refine wpAnyT_ready (rs := [15]) (by kernel_rfl) (by simp) (AllT.cons (o := { dst := none, op := Op.store 9 (Operand.tmp 56) (Operand.tmp 48), type := 0, pos := "law.go:29", after := #[{ on := 14, ground := Ground.data }, { on := 6, ground := Ground.data }, { on := 11, ground := Ground.chain }, { on := 0, ground := Ground.phase }, { on := 1, ground := Ground.phase }, { on := 2, ground := Ground.phase }, { on := 3, ground := Ground.phase }, { on := 4, ground := Ground.phase }, { on := 5, ground := Ground.phase }, { on := 6, ground := Ground.phase }, { on := 7, ground := Ground.textOnly Departure.lateStores }, { on := 8, ground := Ground.phase }, { on := 9, ground := Ground.phase }, { on := 10, ground := Ground.textOnly Departure.lateStoresUnsure }, { on := 11, ground := Ground.textOnly Departure.lateStoresUnsure }, { on := 12, ground := Ground.textOnly Departure.lateStores }, { on := 13, ground := Ground.textOnly Departure.lateStores }], guard := none }) rfl (fun K hK => ?_) AllT.nil)
        go_simp
        refine hK.out _ _ (holds2 (late_no (by kernel_rfl)) (fun _ => (K17 _))) ?_
        clear hK K
        try simp only [Act.put, List.setIfInBounds_toArray, List.set_cons_zero, List.set_cons_succ]
        refine wpAnyT_pure (i := 16) (oi := { dst := some 57, op := Op.fieldAddr 26 (Operand.tmp 1) 5, type := 0, pos := "law.go:29", after := #[{ on := 0, ground := Ground.phase }, { on := 1, ground := Ground.phase }, { on := 2, ground := Ground.phase }, { on := 3, ground := Ground.phase }, { on := 4, ground := Ground.phase }, { on := 5, ground := Ground.phase }, { on := 6, ground := Ground.phase }, { on := 7, ground := Ground.phase }, { on := 8, ground := Ground.phase }, { on := 9, ground := Ground.phase }, { on := 10, ground := Ground.phase }, { on := 11, ground := Ground.phase }, { on := 12, ground := Ground.phase }, { on := 13, ground := Ground.phase }, { on := 14, ground := Ground.phase }, { on := 15, ground := Ground.phase }], guard := none }) (v := ?_) rfl (by kernel_rfl) (by kernel_rfl) (by kernel_rfl) (by kernel_rfl) (fun _ _ _ h => h) (Or.inl ⟨by rfl, ?_⟩) (holds2 (late_no (by kernel_rfl)) (fun _ => (K17 _))) ?_
        rotate_left
        · (intro W; go_simp; try with_reducible rfl)
        try simp only [Act.put, List.setIfInBounds_toArray, List.set_cons_zero, List.set_cons_succ]
        refine wpAnyT_ready (rs := [17]) (by kernel_rfl) (by simp) (AllT.cons (o := { dst := none, op := Op.store 9 (Operand.tmp 57) (Operand.tmp 55), type := 0, pos := "law.go:29", after := #[{ on := 16, ground := Ground.data }, { on := 13, ground := Ground.data }, { on := 15, ground := Ground.chain }, { on := 0, ground := Ground.phase }, { on := 1, ground := Ground.phase }, { on := 2, ground := Ground.phase }, { on := 3, ground := Ground.phase }, { on := 4, ground := Ground.phase }, { on := 5, ground := Ground.phase }, { on := 6, ground := Ground.phase }, { on := 7, ground := Ground.phase }, { on := 8, ground := Ground.phase }, { on := 9, ground := Ground.phase }, { on := 10, ground := Ground.phase }, { on := 11, ground := Ground.phase }, { on := 12, ground := Ground.phase }, { on := 13, ground := Ground.phase }, { on := 14, ground := Ground.phase }, { on := 15, ground := Ground.phase }], guard := none }) rfl (fun K hK => ?_) AllT.nil)
        go_simp
        refine hK.out _ _ (holds2 (late_no (by kernel_rfl)) (late_no (by kernel_rfl))) ?_
        clear hK K
        try simp only [Act.put, List.setIfInBounds_toArray, List.set_cons_zero, List.set_cons_succ]
        refine wpAnyT_done (by kernel_rfl) ?_ _
        go_wp2_with fail
        go_meet
        refine ⟨rfl, (B22.set6 _).set7 _, only_step (only_step gV2 gU2 (fun _ h => .inl h)) (set_at (set_at (only_refl _ _) 6 _) 7 _) (fun k hk => by cases hk; right; omega), (BR2.other gU2 (by simp)).other (set_at (set_at (only_refl _ _) 6 _) 7 _) (by intro e; injection e with e; omega)⟩
      · have B22 := B2.other gU (by simp)
        have p6 := B22.cells.2.2.2.2.2.2.1
        have pf6 := B22.fr 6
        go_simp
        obtain ⟨X, hX⟩ : ∃ X, U.setCell ⟨w.heap.size, 6, none⟩ (.string (keyP rk)) = X := ⟨_, rfl⟩
        have BX : OpB X w.heap.size d' (1 + e') (1 + s') c' (1 + v') (1 + k') (keyP rk) text n t' (.slice A l.length ca) := by subst hX; exact B22.set6 _
        have gX : U.grownBy X (some w.heap.size) := by subst hX; exact set_at (only_refl _ _) 6 _
        have zX : X.heap.size = V2.heap.size + 1 := by subst hX; simp [World.setCell]; exact zU
        have x7 := BX.cells.2.2.2.2.2.2.2.1
        rw [hX]
        clear hX
        refine hK.out _ _ (holds2 (late_no (by kernel_rfl)) (fun _ => x7)) ?_
        clear hK K
        try simp only [Act.put, List.setIfInBounds_toArray, List.set_cons_zero, List.set_cons_succ]
        refine wpAnyT_ready (rs := [7]) (by kernel_rfl) (by simp) (AllT.cons (o := { dst := some 49, op := Op.buildSlice 51 4 #[(0, Operand.const (Value.string { data := #[] })), (1, Operand.const (Value.string { data := #[116] })), (2, Operand.const (Value.string { data := #[85, 32] })), (3, Operand.const (Value.string { data := #[32, 118] }))], type := 51, pos := "law.go:29", after := #[{ on := 15, ground := Ground.gcOnly Departure.lateStores }], guard := none }) rfl (fun K hK => ?_) AllT.nil)
        go_simp
        obtain ⟨U2, hU2⟩ : ∃ Z0, X.alloc (.cells #[.string { data := #[] }, .string { data := #[116] }, .string { data := #[85, 32] }, .string { data := #[32, 118] }] 9) = Z0 := ⟨_, rfl⟩
        have gU2 : X.grownBy U2 none := by subst hU2; exact only_alloc (only_refl _ _) _
        have hc4 : U2.heap[V2.heap.size + 1]? = some (.cells #[.string { data := #[] }, .string { data := #[116] }, .string { data := #[85, 32] }, .string { data := #[32, 118] }] 9 (0, 0)) := by rw [← zX]; subst hU2; exact heap_alloc_new X _
        have BU := BX.other gU2 (by simp)
        have u7 := BU.cells.2.2.2.2.2.2.2.1
        have uf7 := BU.fr 7
        rw [hU2]
        clear hU2
        refine hK.out _ _ (holds2 (late_no (by kernel_rfl)) (fun _ => u7)) ?_
        clear hK K
        try simp only [Act.put, List.setIfInBounds_toArray, List.set_cons_zero, List.set_cons_succ]
        refine wpAnyT_pure (i := 12) (oi := { dst := some 54, op := Op.indexAddr 51 (Operand.tmp 49) (Operand.tmp 53), type := 0, pos := "law.go:29", after := #[{ on := 7, ground := Ground.data }, { on := 11, ground := Ground.data }, { on := 15, ground := Ground.gcOnly Departure.lateStores }], guard := none }) (v := ?_) rfl (by kernel_rfl) (by kernel_rfl) (by kernel_rfl) (by kernel_rfl) (fun _ _ _ h => h) (Or.inl ⟨by rfl, ?_⟩) (holds2 (late_no (by kernel_rfl)) (fun _ => u7)) ?_
        rotate_left
        · (intro W; go_simp; try with_reducible rfl)
        try simp only [Act.put, List.setIfInBounds_toArray, List.set_cons_zero, List.set_cons_succ]
        have c4 := lit4 hc4 rt4
        refine wpAnyT_more [(15, fun V => (V.cell? ⟨w.heap.size, 6, none⟩ = some (.string key)) ∧ V.cell? ⟨V2.heap.size, rk, none⟩ = some (.string (keyP rk))), (17, fun V => (V.cell? ⟨w.heap.size, 7, none⟩ = some (.string text)) ∧ V.cell? ⟨V2.heap.size + 1, rt, none⟩ = some (.string (textP rt)))] (more2 (fun _ h => h) (fun _ h => h.1)) _ _ _ _ ?_
        refine wpAnyT_take 4 17 (i := 13) (oi := { dst := some 55, op := Op.load 9 (Operand.tmp 54), type := 9, pos := "law.go:29", after := #[{ on := 12, ground := Ground.data }, { on := 15, ground := Ground.gcOnly Departure.lateStores }], guard := none }) (v := ?_) (.tail _ (.head _)) rfl (by kernel_rfl) (by kernel_rfl) (by kernel_rfl) (by kernel_rfl) (by kernel_rfl) (by kernel_rfl) (by rfl) (fun _ _ _ h => h) (by rfl) ?_ (holds2 (late_no (by kernel_rfl)) (fun _ => (And.intro u7 c4))) ?_
        rotate_left
        · (intro W hSw; (try dsimp only at hSw); go_simp; try with_reducible rfl)
        try simp only [Act.put, List.setIfInBounds_toArray, List.set_cons_zero, List.set_cons_succ]
        refine wpAnyT_pure (i := 16) (oi := { dst := some 57, op := Op.fieldAddr 26 (Operand.tmp 1) 5, type := 0, pos := "law.go:29", after := #[{ on := 0, ground := Ground.phase }, { on := 1, ground := Ground.phase }, { on := 2, ground := Ground.phase }, { on := 3, ground := Ground.phase }, { on := 4, ground := Ground.phase }, { on := 5, ground := Ground.phase }, { on := 6, ground := Ground.phase }, { on := 7, ground := Ground.phase }, { on := 8, ground := Ground.phase }, { on := 9, ground := Ground.phase }, { on := 10, ground := Ground.phase }, { on := 11, ground := Ground.phase }, { on := 12, ground := Ground.phase }, { on := 13, ground := Ground.phase }, { on := 14, ground := Ground.phase }, { on := 15, ground := Ground.phase }], guard := none }) (v := ?_) rfl (by kernel_rfl) (by kernel_rfl) (by kernel_rfl) (by kernel_rfl) (fun _ _ _ h => h) (Or.inl ⟨by rfl, ?_⟩) (holds2 (late_no (by kernel_rfl)) (fun _ => (And.intro u7 c4))) ?_
        rotate_left
        · (intro W; go_simp; try with_reducible rfl)
        try simp only [Act.put, List.setIfInBounds_toArray, List.set_cons_zero, List.set_cons_succ]
        refine wpAnyT_ready (rs := [17]) (by kernel_rfl) (by simp) (AllT.cons (o := { dst := none, op := Op.store 9 (Operand.tmp 57) (Operand.tmp 55), type := 0, pos := "law.go:29", after := #[{ on := 16, ground := Ground.data }, { on := 13, ground := Ground.data }, { on := 15, ground := Ground.chain }, { on := 0, ground := Ground.phase }, { on := 1, ground := Ground.phase }, { on := 2, ground := Ground.phase }, { on := 3, ground := Ground.phase }, { on := 4, ground := Ground.phase }, { on := 5, ground := Ground.phase }, { on := 6, ground := Ground.phase }, { on := 7, ground := Ground.phase }, { on := 8, ground := Ground.phase }, { on := 9, ground := Ground.phase }, { on := 10, ground := Ground.phase }, { on := 11, ground := Ground.phase }, { on := 12, ground := Ground.phase }, { on := 13, ground := Ground.phase }, { on := 14, ground := Ground.phase }, { on := 15, ground := Ground.phase }], guard := none }) rfl (fun K hK => ?_) AllT.nil)
        go_simp
        refine hK.out _ _ (holds2 (late_no (by kernel_rfl)) (late_no (by kernel_rfl))) ?_
        clear hK K
        try simp only [Act.put, List.setIfInBounds_toArray, List.set_cons_zero, List.set_cons_succ]
        refine wpAnyT_done (by kernel_rfl) ?_ _
        go_wp2_with fail
        go_meet
        refine ⟨rfl, BU.set7 _, only_step (only_step (only_step (only_step gV2 gU (fun _ h => .inl h)) gX (fun k hk => by cases hk; right; omega)) gU2 (fun _ h => .inl h)) (set_at (only_refl _ _) 7 _) (fun k hk => by cases hk; right; omega), (((BR2.other gU (by simp)).other gX (by intro e; injection e with e; omega)).other gU2 (by simp)).other (set_at (only_refl _ _) 7 _) (by intro e; injection e with e; omega)⟩
    · go_simp
      obtain ⟨U, hU⟩ : ∃ Z0, (V2.alloc (.cells #[.string { data := #[] }, .string { data := #[116] }, .string { data := #[85, 32] }, .string { data := #[32, 118] }] 9)).drew = Z0 := ⟨_, rfl⟩
      have gU0 : V2.grownBy U none := by subst hU; exact only_drew (only_alloc (only_refl _ _) _)
      have hc4 : U.heap[V2.heap.size]? = some (.cells #[.string { data := #[] }, .string { data := #[116] }, .string { data := #[85, 32] }, .string { data := #[32, 118] }] 9 (0, 0)) := by subst hU; exact heap_alloc_new V2 _
      have zU : U.heap.size = V2.heap.size + 1 := by subst hU; simp
      rw [hU]
      clear hU
      have gU := gU0
      refine hK.out _ _ (holds2 (fun _ => (SP.out U gU).1) (fun _ => (SP.out U gU).2)) ?_
      clear hK K
      try simp only [Act.put, List.setIfInBounds_toArray, List.set_cons_zero, List.set_cons_succ]
      refine wpAnyT_pure (i := 12) (oi := { dst := some 54, op := Op.indexAddr 51 (Operand.tmp 49) (Operand.tmp 53), type := 0, pos := "law.go:29", after := #[{ on := 7, ground := Ground.data }, { on := 11, ground := Ground.data }, { on := 15, ground := Ground.gcOnly Departure.lateStores }], guard := none }) (v := ?_) rfl (by kernel_rfl) (by kernel_rfl) (by kernel_rfl) (by kernel_rfl) (fun _ _ _ h => h) (Or.inl ⟨by rfl, ?_⟩) (holds2 (fun _ => (SP.out U gU).1) (fun _ => (SP.out U gU).2)) ?_
      rotate_left
      · (intro W; go_simp; try with_reducible rfl)
      try simp only [Act.put, List.setIfInBounds_toArray, List.set_cons_zero, List.set_cons_succ]
      have c4 := lit4 hc4 rt4
      refine wpAnyT_more [(15, fun V => V.cell? ⟨w.heap.size, 6, none⟩ = some (.string key)), (17, fun V => (V.cell? ⟨w.heap.size, 7, none⟩ = some (.string text)) ∧ V.cell? ⟨V2.heap.size, rt, none⟩ = some (.string (textP rt)))] (more2 (fun _ h => h) (fun _ h => h.1)) _ _ _ _ ?_
      refine wpAnyT_take 4 17 (i := 13) (oi := { dst := some 55, op := Op.load 9 (Operand.tmp 54), type := 9, pos := "law.go:29", after := #[{ on := 12, ground := Ground.data }, { on := 15, ground := Ground.gcOnly Departure.lateStores }], guard := none }) (v := ?_) (.tail _ (.head _)) rfl (by kernel_rfl) (by kernel_rfl) (by kernel_rfl) (by kernel_rfl) (by kernel_rfl) (by kernel_rfl) (by rfl) (fun _ _ _ h => h) (by rfl) ?_ (holds2 (fun _ => (SP.out U gU).1) (fun _ => (And.intro (SP.out U gU).2 c4))) ?_
      rotate_left
      · (intro W hSw; (try dsimp only at hSw); go_simp; try with_reducible rfl)
      try simp only [Act.put, List.setIfInBounds_toArray, List.set_cons_zero, List.set_cons_succ]
      refine wpAnyT_ready (rs := [0]) (by kernel_rfl) (by simp) (AllT.cons (o := { dst := some 42, op := Op.buildSlice 51 3 #[(0, Operand.const (Value.string { data := #[97] })), (1, Operand.const (Value.string { data := #[98] })), (2, Operand.const (Value.string { data := #[120] }))], type := 51, pos := "law.go:29", after := #[], guard := none }) rfl (fun K hK => ?_) AllT.nil)
      go_simp
      obtain ⟨U2, hU2⟩ : ∃ Z0, (U.alloc (.cells #[.string { data := #[97] }, .string { data := #[98] }, .string { data := #[120] }] 9)) = Z0 := ⟨_, rfl⟩
      have gU20 : U.grownBy U2 none := by subst hU2; exact only_alloc (only_refl _ _) _
      have hc3 : U2.heap[V2.heap.size + 1]? = some (.cells #[.string { data := #[97] }, .string { data := #[98] }, .string { data := #[120] }] 9 (0, 0)) := by rw [← zU]; subst hU2; exact heap_alloc_new U _
      have zU2 : U2.heap.size = V2.heap.size + 2 := by subst hU2; simp; omega
      rw [hU2]
      clear hU2
      have gU2 := only_step gU gU20 (fun _ h => .inl h)
      have c42 := (World.cell?_of_block (a := ⟨V2.heap.size, rt, none⟩) (gU20.block V2.heap.size (by omega) (by simp))).trans c4
      refine hK.out _ _ (holds2 (fun _ => (SP.out U2 gU2).1) (fun _ => (And.intro (SP.out U2 gU2).2 c42))) ?_
      clear hK K
      try simp only [Act.put, List.setIfInBounds_toArray, List.set_cons_zero, List.set_cons_succ]
      refine wpAnyT_pure (i := 5) (oi := { dst := some 47, op := Op.indexAddr 51 (Operand.tmp 42) (Operand.tmp 46), type := 0, pos := "law.go:29", after := #[{ on := 0, ground := Ground.data }, { on := 4, ground := Ground.data }], guard := none }) (v := ?_) rfl (by kernel_rfl) (by kernel_rfl) (by kernel_rfl) (by kernel_rfl) (fun _ _ _ h => h) (Or.inl ⟨by rfl, ?_⟩) (holds2 (fun _ => (SP.out U2 gU2).1) (fun _ => (And.intro (SP.out U2 gU2).2 c42))) ?_
      rotate_left
      · (intro W; go_simp; try with_reducible rfl)
      try simp only [Act.put, List.setIfInBounds_toArray, List.set_cons_zero, List.set_cons_succ]
      have c3 := lit3 hc3 rk3
      refine wpAnyT_more [(15, fun V => V.cell? ⟨w.heap.size, 6, none⟩ = some (.string key)), (17, fun V => ((V.cell? ⟨w.heap.size, 7, none⟩ = some (.string text)) ∧ V.cell? ⟨V2.heap.size, rt, none⟩ = some (.string (textP rt))) ∧ V.cell? ⟨V2.heap.size + 1, rk, none⟩ = some (.string (keyP rk)))] (more2 (fun _ h => h) (fun _ h => h.1)) _ _ _ _ ?_
      refine wpAnyT_take 4 17 (i := 6) (oi := { dst := some 48, op := Op.load 9 (Operand.tmp 47), type := 9, pos := "law.go:29", after := #[{ on := 5, ground := Ground.data }], guard := none }) (v := ?_) (.tail _ (.head _)) rfl (by kernel_rfl) (by kernel_rfl) (by kernel_rfl) (by kernel_rfl) (by kernel_rfl) (by kernel_rfl) (by rfl) (fun _ _ _ h => h) (by rfl) ?_ (holds2 (fun _ => (SP.out U2 gU2).1) (fun _ => (And.intro (And.intro (SP.out U2 gU2).2 c42) c3))) ?_
      rotate_left
      · (intro W hSw; (try dsimp only at hSw); go_simp; try with_reducible rfl)
      try simp only [Act.put, List.setIfInBounds_toArray, List.set_cons_zero, List.set_cons_succ]
      refine wpAnyT_pure (i := 14) (oi := { dst := some 56, op := Op.fieldAddr 26 (Operand.tmp 1) 4, type := 0, pos := "law.go:29", after := #[{ on := 0, ground := Ground.phase }, { on := 1, ground := Ground.phase }, { on := 2, ground := Ground.phase }, { on := 3, ground := Ground.phase }, { on := 4, ground := Ground.phase }, { on := 5, ground := Ground.phase }, { on := 6, ground := Ground.phase }, { on := 7, ground := Ground.textOnly Departure.lateStores }, { on := 8, ground := Ground.phase }, { on := 9, ground := Ground.phase }, { on := 10, ground := Ground.textOnly Departure.lateStoresUnsure }, { on := 11, ground := Ground.textOnly Departure.lateStoresUnsure }, { on := 12, ground := Ground.textOnly Departure.lateStores }, { on := 13, ground := Ground.textOnly Departure.lateStores }], guard := none }) (v := ?_) rfl (by kernel_rfl) (by kernel_rfl) (by kernel_rfl) (by kernel_rfl) (fun _ _ _ h => h) (Or.inl ⟨by rfl, ?_⟩) (holds2 (fun _ => (SP.out U2 gU2).1) (fun _ => (And.intro (And.intro (SP.out U2 gU2).2 c42) c3))) ?_
      rotate_left
      · (intro W; go_simp; try with_reducible rfl)
      try simp only [Act.put, List.setIfInBounds_toArray, List.set_cons_zero, List.set_cons_succ]
      have B22 := B2.other gU2 (by simp)
      have p6 := B22.cells.2.2.2.2.2.2.1
      have p7 := B22.cells.2.2.2.2.2.2.2.1
      have pf6 := B22.fr 6
      have pf7 := B22.fr 7
      have K17 : ∀ u, (fun V => ((V.cell? ⟨w.heap.size, 7, none⟩ = some (.string text)) ∧ V.cell? ⟨V2.heap.size, rt, none⟩ = some (.string (textP rt))) ∧ V.cell? ⟨V2.heap.size + 1, rk, none⟩ = some (.string (keyP rk))) (U2.setCell ⟨w.heap.size, 6, none⟩ u) := fun u => ⟨⟨B22.set_cell6 u, (World.cell?_of_block (Below.heap_setCell _ _ _ _ (by dsimp only; omega))).trans c42⟩, (World.cell?_of_block (Below.heap_setCell _ _ _ _ (by dsimp only; omega))).trans c3⟩
      refine wpAnyT_ready (rs := [15]) (by kernel_rfl) (by simp) (AllT.cons (o := { dst := none, op := Op.store 9 (Operand.tmp 56) (Operand.tmp 48), type := 0, pos := "law.go:29", after := #[{ on := 14, ground := Ground.data }, { on := 6, ground := Ground.data }, { on := 11, ground := Ground.chain }, { on := 0, ground := Ground.phase }, { on := 1, ground := Ground.phase }, { on := 2, ground := Ground.phase }, { on := 3, ground := Ground.phase }, { on := 4, ground := Ground.phase }, { on := 5, ground := Ground.phase }, { on := 6, ground := Ground.phase }, { on := 7, ground := Ground.textOnly Departure.lateStores }, { on := 8, ground := Ground.phase }, { on := 9, ground := Ground.phase }, { on := 10, ground := Ground.textOnly Departure.lateStoresUnsure }, { on := 11, ground := Ground.textOnly Departure.lateStoresUnsure }, { on := 12, ground := Ground.textOnly Departure.lateStores }, { on := 13, ground := Ground.textOnly Departure.lateStores }], guard := none }) rfl (fun K hK => ?_) AllT.nil)
      go_simp
      refine hK.out _ _ (holds2 (late_no (by kernel_rfl)) (fun _ => (K17 _))) ?_
      clear hK K
      try simp only [Act.put, List.setIfInBounds_toArray, List.set_cons_zero, List.set_cons_succ]
      refine wpAnyT_pure (i := 16) (oi := { dst := some 57, op := Op.fieldAddr 26 (Operand.tmp 1) 5, type := 0, pos := "law.go:29", after := #[{ on := 0, ground := Ground.phase }, { on := 1, ground := Ground.phase }, { on := 2, ground := Ground.phase }, { on := 3, ground := Ground.phase }, { on := 4, ground := Ground.phase }, { on := 5, ground := Ground.phase }, { on := 6, ground := Ground.phase }, { on := 7, ground := Ground.phase }, { on := 8, ground := Ground.phase }, { on := 9, ground := Ground.phase }, { on := 10, ground := Ground.phase }, { on := 11, ground := Ground.phase }, { on := 12, ground := Ground.phase }, { on := 13, ground := Ground.phase }, { on := 14, ground := Ground.phase }, { on := 15, ground := Ground.phase }], guard := none }) (v := ?_) rfl (by kernel_rfl) (by kernel_rfl) (by kernel_rfl) (by kernel_rfl) (fun _ _ _ h => h) (Or.inl ⟨by rfl, ?_⟩) (holds2 (late_no (by kernel_rfl)) (fun _ => (K17 _))) ?_
      rotate_left
      · (intro W; go_simp; try with_reducible rfl)
      try simp only [Act.put, List.setIfInBounds_toArray, List.set_cons_zero, List.set_cons_succ]
      refine wpAnyT_ready (rs := [17]) (by kernel_rfl) (by simp) (AllT.cons (o := { dst := none, op := Op.store 9 (Operand.tmp 57) (Operand.tmp 55), type := 0, pos := "law.go:29", after := #[{ on := 16, ground := Ground.data }, { on := 13, ground := Ground.data }, { on := 15, ground := Ground.chain }, { on := 0, ground := Ground.phase }, { on := 1, ground := Ground.phase }, { on := 2, ground := Ground.phase }, { on := 3, ground := Ground.phase }, { on := 4, ground := Ground.phase }, { on := 5, ground := Ground.phase }, { on := 6, ground := Ground.phase }, { on := 7, ground := Ground.phase }, { on := 8, ground := Ground.phase }, { on := 9, ground := Ground.phase }, { on := 10, ground := Ground.phase }, { on := 11, ground := Ground.phase }, { on := 12, ground := Ground.phase }, { on := 13, ground := Ground.phase }, { on := 14, ground := Ground.phase }, { on := 15, ground := Ground.phase }], guard := none }) rfl (fun K hK => ?_) AllT.nil)
      go_simp
      refine hK.out _ _ (holds2 (late_no (by kernel_rfl)) (late_no (by kernel_rfl))) ?_
      clear hK K
      try simp only [Act.put, List.setIfInBounds_toArray, List.set_cons_zero, List.set_cons_succ]
      refine wpAnyT_done (by kernel_rfl) ?_ _
      go_wp2_with fail
      go_meet
      refine ⟨rfl, (B22.set6 _).set7 _, only_step (only_step gV2 gU2 (fun _ h => .inl h)) (set_at (set_at (only_refl _ _) 6 _) 7 _) (fun k hk => by cases hk; right; omega), (BR2.other gU2 (by simp)).other (set_at (set_at (only_refl _ _) 6 _) 7 _) (by intro e; injection e with e; omega)⟩
  case rest =>
    obtain ⟨rfl, B3, G3, BR3⟩ := hcut
    have HB3 := Lib.hid B3
    have HBR3 := Lib.hid BR3
    have HG3 := Lib.hid G3
    clear B0 BR gV B1 BR1 g1 gV1 B2 BR2 g2 gV2 B3 BR3 G3
    go_upto_block 0 with fail
    go_cut [3] (fun s3 wx => ∃ (L : List Dt) (AL : Option Addr) (cL : Nat), s3 = .slice AL L.length cL ∧ Hid (L = LL) ∧ Hid (wx.ownsRow w.heap.size 23 3 (.slice AL L.length cL) L.length (dc L)) ∧ Hid (OpB wx w.heap.size d' (1 + e') (1 + s') c' (1 + v') (1 + k') (keyP rk) (textP rt) n t' (.slice A l.length ca)) ∧ Hid (OpB wx (w.heap.size + 1) 0 0 0 0 0 0 { data := #[] } { data := #[] } 0 0 (.slice none 0 0)) ∧ Hid (w.grownBy wx none))
    case first =>
      go_wp2_with fail
      go_loopw [3, 4] (fun s3 s4 wx => ∃ (i : Nat) (L : List Dt) (AL : Option Addr) (cL : Nat), i ≤ l.length ∧ i ≤ 8 ∧ (i = 0 ∨ 1 + k' = 3) ∧ s4 = .int .i64 i ∧ s3 = .slice AL L.length cL ∧ Hid (L = foldG (l.take i)) ∧ Hid (wx.ownsRow w.heap.size 23 3 (.slice AL L.length cL) L.length (dc L)) ∧ Hid (OpB wx w.heap.size d' (1 + e') (1 + s') c' (1 + v') (1 + k') (keyP rk) (textP rt) n t' (.slice A l.length ca)) ∧ Hid (OpB wx (w.heap.size + 1) 0 0 0 0 0 0 { data := #[] } { data := #[] } 0 0 (.slice none 0 0)) ∧ Hid (w.grownBy wx none)) (fun _ s4 _ => l.length - (intOf s4).toNat)
      case atStart => exact ⟨0, [], none, 0, Nat.zero_le _, by omega, .inl rfl, rfl, rfl, rfl, World.ownsRow_nil _ _ _ _, HB3, HBR3, HG3⟩
      case round =>
        obtain ⟨i, L, AL, cL, hi, h8, hk3, rfl, rfl, HL, HO, HB, HBR, HG⟩ := hrel
        obtain ⟨_, _, _, _, _, p5, _, _, _, _, p10⟩ := HB.out.cells
        by_cases hlt : i < l.length
        · have v1 : (i : Int) < (l.length : Int) := by omega
          have v0 : (0 : Int) ≤ (i : Int) := by omega
          by_cases h88 : i < 8
          · have v8 : (i : Int) < 8 := by omega
            by_cases hkd : 1 + k' = 3
            · have bk : (1 + k' == 3) = true := by rw [beq_iff_eq]; exact hkd
              have vs : IntKind.i64.wrap ((i : Int) + 1) = (i : Int) + 1 := by rw [IntKind.wrap_i64]; omega
              obtain ⟨wo, rfl⟩ : ∃ wo : World, wo = wr := ⟨_, rfl⟩
              obtain ⟨⟨p1, p2, p3⟩, hp⟩ : ∃ p, l[i]? = some p := ⟨_, List.getElem?_eq_getElem hlt⟩
              have hpw := HDW.out _ (List.mem_of_getElem? hp)
              obtain ⟨pb, po, rfl, hpb, x1, x2, x3⟩ := HAA.out.dot hp
              dsimp only at hpw x1 x2 x3
              have N00 := fun W => within_any p1 6 hpw.1.1 hpw.1.2 (by decide) (by decide) W
              have N10 := fun W => within_any p2 3 hpw.2.1.1 hpw.2.1.2 (by decide) (by decide) W
              have N20 := fun W => within_any p3 12 hpw.2.2.1 hpw.2.2.2 (by decide) (by decide) W
              obtain ⟨a, ha⟩ : ∃ a, p1 % 6 = a := ⟨_, rfl⟩
              obtain ⟨b0, hb0⟩ : ∃ a, p2 % 3 = a := ⟨_, rfl⟩
              obtain ⟨c0, hc0⟩ : ∃ a, p3 % 12 = a := ⟨_, rfl⟩
              rw [ha] at N00
              rw [hb0] at N10
              rw [hc0] at N20
              have N0 := Lib.hid N00
              have N1 := Lib.hid N10
              have N2 := Lib.hid N20
              obtain ⟨b1, hb1⟩ : ∃ b1, 1 + b0 = b1 := ⟨_, rfl⟩
              obtain ⟨c1, hc1⟩ : ∃ c1, 1 + c0 = c1 := ⟨_, rfl⟩
              have z1 : IntKind.i64.wrap (1 + b0) = b1 := by rw [IntKind.wrap_i64]; omega
              have z2 : IntKind.i64.wrap (1 + c0) = c1 := by rw [IntKind.wrap_i64]; omega
              have HX : Hid (foldG (l.take (i + 1)) = insD L (a, b1, c1)) := by
                show _ = _
                rw [List.take_add_one, hp, Option.toList_some, foldG_snoc, ← HL.out]
                unfold dotG
                rw [ha, hb0, hc0, hb1, hc1]
              have zo := HG.out.size
              have zB := HBR.out.lt
              have SP8 : Hid (∀ V, wo.grownBy V none → V.cell? ⟨w.heap.size, 10, none⟩ = some (.slice (some ⟨pb, po, none⟩) l.length ca) ∧ V.cell? ⟨pb, po + i * 3, none⟩ = some (.int .i64 p1) ∧ V.cell? ⟨pb, po + i * 3 + 1, none⟩ = some (.int .i64 p2) ∧ V.cell? ⟨pb, po + i * 3 + 2, none⟩ = some (.int .i64 p3)) := fun V hV => by
                have gw := only_step HG.out hV (fun _ h => .inl h)
                have o : ∀ j, V.cell? ⟨pb, j, none⟩ = w.cell? ⟨pb, j, none⟩ := fun j => World.cell?_of_block (gw.block pb hpb (by simp))
                exact ⟨(HB.out.other hV (by simp)).cells.2.2.2.2.2.2.2.2.2.2, (o _).trans x1, (o _).trans x2, (o _).trans x3⟩
              have S80 := Lib.hid (SP8.out wo.drew (only_drew (only_refl _ _)))
              clear ha hb0 hc0 hb1 hc1 N00 N10 N20 hp x1 x2 x3 hpw
              go_wp2_with fail
              refine wp_region_late [(25, fun V => V.cell? ⟨w.heap.size, 10, none⟩ = some (.slice (some ⟨pb, po, none⟩) l.length ca) ∧ V.cell? ⟨pb, po + i * 3, none⟩ = some (.int .i64 p1) ∧ V.cell? ⟨pb, po + i * 3 + 1, none⟩ = some (.int .i64 p2) ∧ V.cell? ⟨pb, po + i * 3 + 2, none⟩ = some (.int .i64 p3))] (by kernel_rfl) ?_
              refine wpAnyT_pure (i := 0) (oi := { dst := some 74, op := Op.fieldAddr 26 (Operand.tmp 1) 8, type := 0, pos := "law.go:32", after := #[], guard := none }) (v := ?_) rfl (by kernel_rfl) (by kernel_rfl) (by kernel_rfl) (by kernel_rfl) (fun _ _ _ h => h) (Or.inl ⟨by rfl, ?_⟩) (holds1 (fun _ => S80.out)) ?_
              rotate_left
              · (intro W; go_simp; try with_reducible rfl)
              try simp only [Act.put, List.setIfInBounds_toArray, List.set_cons_zero, List.set_cons_succ]
              refine wpAnyT_take 6 25 (i := 1) (oi := { dst := some 75, op := Op.load 24 (Operand.tmp 74), type := 24, pos := "law.go:32", after := #[{ on := 0, ground := Ground.data }], guard := none }) (v := ?_) (.head _) rfl (by kernel_rfl) (by kernel_rfl) (by kernel_rfl) (by kernel_rfl) (by kernel_rfl) (by kernel_rfl) (by rfl) (fun _ _ _ h => h) (by rfl) ?_ (holds1 (fun _ => S80.out)) ?_
              rotate_left
              · (intro W hSw; (try dsimp only at hSw); go_simp; try with_reducible rfl)
              try simp only [Act.put, List.setIfInBounds_toArray, List.set_cons_zero, List.set_cons_succ]
              refine wpAnyT_pure (i := 2) (oi := { dst := some 76, op := Op.move (Operand.tmp 4), type := 3, pos := "law.go:32", after := #[], guard := none }) (v := ?_) rfl (by kernel_rfl) (by kernel_rfl) (by kernel_rfl) (by kernel_rfl) (fun _ _ _ h => h) (Or.inl ⟨by rfl, ?_⟩) (holds1 (fun _ => S80.out)) ?_
              rotate_left
              · (intro W; go_simp; try with_reducible rfl)
              try simp only [Act.put, List.setIfInBounds_toArray, List.set_cons_zero, List.set_cons_succ]
              refine wpAnyT_pure (i := 3) (oi := { dst := some 77, op := Op.indexAddr 24 (Operand.tmp 75) (Operand.tmp 76), type := 0, pos := "law.go:32", after := #[{ on := 1, ground := Ground.data }, { on := 2, ground := Ground.data }], guard := none }) (v := ?_) rfl (by kernel_rfl) (by kernel_rfl) (by kernel_rfl) (by kernel_rfl) (fun _ _ _ h => h) (Or.inl ⟨by rfl, ?_⟩) (holds1 (fun _ => S80.out)) ?_
              rotate_left
              · (intro W; go_simp; try with_reducible rfl)
              try simp only [Act.put, List.setIfInBounds_toArray, List.set_cons_zero, List.set_cons_succ]
              refine wpAnyT_pure (i := 4) (oi := { dst := some 78, op := Op.fieldAddr 23 (Operand.tmp 77) 0, type := 0, pos := "law.go:32", after := #[{ on := 3, ground := Ground.data }], guard := none }) (v := ?_) rfl (by kernel_rfl) (by kernel_rfl) (by kernel_rfl) (by kernel_rfl) (fun _ _ _ h => h) (Or.inl ⟨by rfl, ?_⟩) (holds1 (fun _ => S80.out)) ?_
              rotate_left
              · (intro W; go_simp; try with_reducible rfl)
              try simp only [Act.put, List.setIfInBounds_toArray, List.set_cons_zero, List.set_cons_succ]
              refine wpAnyT_take 6 25 (i := 5) (oi := { dst := some 79, op := Op.load 3 (Operand.tmp 78), type := 3, pos := "law.go:32", after := #[{ on := 4, ground := Ground.data }], guard := none }) (v := ?_) (.head _) rfl (by kernel_rfl) (by kernel_rfl) (by kernel_rfl) (by kernel_rfl) (by kernel_rfl) (by kernel_rfl) (by rfl) (fun _ _ _ h => h) (by rfl) ?_ (holds1 (fun _ => S80.out)) ?_
              rotate_left
              · (intro W hSw; (try dsimp only at hSw); go_simp; try with_reducible rfl)
              try simp only [Act.put, List.setIfInBounds_toArray, List.set_cons_zero, List.set_cons_succ]
              refine wpAnyT_call 6 25 (i := 6) (oi := { dst := some 80, op := Op.call { callee := Callee.value (Operand.func 15), args := #[Operand.tmp 79, Operand.const (Value.int IntKind.i64 6)], argTypes := #[3, 3] }, type := 3, pos := "law.go:32", after := #[{ on := 5, ground := Ground.data }], guard := none }) (v := ?_) (g := 15) (args := ?_) (.head _) rfl (by kernel_rfl) (by kernel_rfl) (by kernel_rfl) (by kernel_rfl) (by kernel_rfl) (by kernel_rfl) (by rfl) (fun _ _ _ h => h) (by rfl) ?_ ?_ (holds1 (fun _ => S80.out)) ?_
              rotate_left 2
              · (intro W hSw; (try dsimp only at hSw); go_simp; with_reducible rfl)
              · (intro W hSw; (try dsimp only at hSw); exact N0.out W)
              try simp only [Act.put, List.setIfInBounds_toArray, List.set_cons_zero, List.set_cons_succ]
              refine wpAnyT_pure (i := 7) (oi := { dst := some 81, op := Op.fieldAddr 26 (Operand.tmp 1) 8, type := 0, pos := "law.go:32", after := #[], guard := none }) (v := ?_) rfl (by kernel_rfl) (by kernel_rfl) (by kernel_rfl) (by kernel_rfl) (fun _ _ _ h => h) (Or.inl ⟨by rfl, ?_⟩) (holds1 (fun _ => S80.out)) ?_
              rotate_left
              · (intro W; go_simp; try with_reducible rfl)
              try simp only [Act.put, List.setIfInBounds_toArray, List.set_cons_zero, List.set_cons_succ]
              refine wpAnyT_take 6 25 (i := 8) (oi := { dst := some 82, op := Op.load 24 (Operand.tmp 81), type := 24, pos := "law.go:32", after := #[{ on := 7, ground := Ground.data }], guard := none }) (v := ?_) (.head _) rfl (by kernel_rfl) (by kernel_rfl) (by kernel_rfl) (by kernel_rfl) (by kernel_rfl) (by kernel_rfl) (by rfl) (fun _ _ _ h => h) (by rfl) ?_ (holds1 (fun _ => S80.out)) ?_
              rotate_left
              · (intro W hSw; (try dsimp only at hSw); go_simp; try with_reducible rfl)
              try simp only [Act.put, List.setIfInBounds_toArray, List.set_cons_zero, List.set_cons_succ]
              refine wpAnyT_pure (i := 9) (oi := { dst := some 83, op := Op.move (Operand.tmp 4), type := 3, pos := "law.go:32", after := #[], guard := none }) (v := ?_) rfl (by kernel_rfl) (by kernel_rfl) (by kernel_rfl) (by kernel_rfl) (fun _ _ _ h => h) (Or.inl ⟨by rfl, ?_⟩) (holds1 (fun _ => S80.out)) ?_
              rotate_left
              · (intro W; go_simp; try with_reducible rfl)
              try simp only [Act.put, List.setIfInBounds_toArray, List.set_cons_zero, List.set_cons_succ]
              refine wpAnyT_pure (i := 10) (oi := { dst := some 84, op := Op.indexAddr 24 (Operand.tmp 82) (Operand.tmp 83), type := 0, pos := "law.go:32", after := #[{ on := 8, ground := Ground.data }, { on := 9, ground := Ground.data }], guard := none }) (v := ?_) rfl (by kernel_rfl) (by kernel_rfl) (by kernel_rfl) (by kernel_rfl) (fun _ _ _ h => h) (Or.inl ⟨by rfl, ?_⟩) (holds1 (fun _ => S80.out)) ?_
              rotate_left
              · (intro W; go_simp; try with_reducible rfl)
              try simp only [Act.put, List.setIfInBounds_toArray, List.set_cons_zero, List.set_cons_succ]
              refine wpAnyT_pure (i := 11) (oi := { dst := some 85, op := Op.fieldAddr 23 (Operand.tmp 84) 1, type := 0, pos := "law.go:32", after := #[{ on := 10, ground := Ground.data }], guard := none }) (v := ?_) rfl (by kernel_rfl) (by kernel_rfl) (by kernel_rfl) (by kernel_rfl) (fun _ _ _ h => h) (Or.inl ⟨by rfl, ?_⟩) (holds1 (fun _ => S80.out)) ?_
              rotate_left
              · (intro W; go_simp; try with_reducible rfl)
              try simp only [Act.put, List.setIfInBounds_toArray, List.set_cons_zero, List.set_cons_succ]
              refine wpAnyT_take 6 25 (i := 12) (oi := { dst := some 86, op := Op.load 3 (Operand.tmp 85), type := 3, pos := "law.go:32", after := #[{ on := 11, ground := Ground.data }], guard := none }) (v := ?_) (.head _) rfl (by kernel_rfl) (by kernel_rfl) (by kernel_rfl) (by kernel_rfl) (by kernel_rfl) (by kernel_rfl) (by rfl) (fun _ _ _ h => h) (by rfl) ?_ (holds1 (fun _ => S80.out)) ?_
              rotate_left
              · (intro W hSw; (try dsimp only at hSw); go_simp; try with_reducible rfl)
              try simp only [Act.put, List.setIfInBounds_toArray, List.set_cons_zero, List.set_cons_succ]
              refine wpAnyT_call 6 25 (i := 13) (oi := { dst := some 87, op := Op.call { callee := Callee.value (Operand.func 15), args := #[Operand.tmp 86, Operand.const (Value.int IntKind.i64 3)], argTypes := #[3, 3] }, type := 3, pos := "law.go:32", after := #[{ on := 12, ground := Ground.data }, { on := 6, ground := Ground.chain }], guard := none }) (v := ?_) (g := 15) (args := ?_) (.head _) rfl (by kernel_rfl) (by kernel_rfl) (by kernel_rfl) (by kernel_rfl) (by kernel_rfl) (by kernel_rfl) (by rfl) (fun _ _ _ h => h) (by rfl) ?_ ?_ (holds1 (fun _ => S80.out)) ?_
              rotate_left 2
              · (intro W hSw; (try dsimp only at hSw); go_simp; with_reducible rfl)
              · (intro W hSw; (try dsimp only at hSw); exact N1.out W)
              try simp only [Act.put, List.setIfInBounds_toArray, List.set_cons_zero, List.set_cons_succ]
              refine wpAnyT_pure (i := 14) (oi := { dst := some 88, op := Op.binOp BinOp.add 3 (Operand.const (Value.int IntKind.i64 1)) (Operand.tmp 87) 3, type := 3, pos := "law.go:32", after := #[{ on := 13, ground := Ground.data }], guard := none }) (v := ?_) rfl (by kernel_rfl) (by kernel_rfl) (by kernel_rfl) (by kernel_rfl) (fun _ _ _ h => h) (Or.inl ⟨by rfl, ?_⟩) (holds1 (fun _ => S80.out)) ?_
              rotate_left
              · (intro W; go_simp; try with_reducible rfl)
              try simp only [Act.put, List.setIfInBounds_toArray, List.set_cons_zero, List.set_cons_succ]
              refine wpAnyT_pure (i := 15) (oi := { dst := some 89, op := Op.fieldAddr 26 (Operand.tmp 1) 8, type := 0, pos := "law.go:32", after := #[], guard := none }) (v := ?_) rfl (by kernel_rfl) (by kernel_rfl) (by kernel_rfl) (by kernel_rfl) (fun _ _ _ h => h) (Or.inl ⟨by rfl, ?_⟩) (holds1 (fun _ => S80.out)) ?_
              rotate_left
              · (intro W; go_simp; try with_reducible rfl)
              try simp only [Act.put, List.setIfInBounds_toArray, List.set_cons_zero, List.set_cons_succ]
              refine wpAnyT_take 6 25 (i := 16) (oi := { dst := some 90, op := Op.load 24 (Operand.tmp 89), type := 24, pos := "law.go:32", after := #[{ on := 15, ground := Ground.data }], guard := none }) (v := ?_) (.head _) rfl (by kernel_rfl) (by kernel_rfl) (by kernel_rfl) (by kernel_rfl) (by kernel_rfl) (by kernel_rfl) (by rfl) (fun _ _ _ h => h) (by rfl) ?_ (holds1 (fun _ => S80.out)) ?_
              rotate_left
              · (intro W hSw; (try dsimp only at hSw); go_simp; try with_reducible rfl)
              try simp only [Act.put, List.setIfInBounds_toArray, List.set_cons_zero, List.set_cons_succ]
              refine wpAnyT_pure (i := 17) (oi := { dst := some 91, op := Op.move (Operand.tmp 4), type := 3, pos := "law.go:32", after := #[], guard := none }) (v := ?_) rfl (by kernel_rfl) (by kernel_rfl) (by kernel_rfl) (by kernel_rfl) (fun _ _ _ h => h) (Or.inl ⟨by rfl, ?_⟩) (holds1 (fun _ => S80.out)) ?_
              rotate_left
              · (intro W; go_simp; try with_reducible rfl)
              try simp only [Act.put, List.setIfInBounds_toArray, List.set_cons_zero, List.set_cons_succ]
              refine wpAnyT_pure (i := 18) (oi := { dst := some 92, op := Op.indexAddr 24 (Operand.tmp 90) (Operand.tmp 91), type := 0, pos := "law.go:32", after := #[{ on := 16, ground := Ground.data }, { on := 17, ground := Ground.data }], guard := none }) (v := ?_) rfl (by kernel_rfl) (by kernel_rfl) (by kernel_rfl) (by kernel_rfl) (fun _ _ _ h => h) (Or.inl ⟨by rfl, ?_⟩) (holds1 (fun _ => S80.out)) ?_
              rotate_left
              · (intro W; go_simp; try with_reducible rfl)
              try simp only [Act.put, List.setIfInBounds_toArray, List.set_cons_zero, List.set_cons_succ]
              refine wpAnyT_pure (i := 19) (oi := { dst := some 93, op := Op.fieldAddr 23 (Operand.tmp 92) 2, type := 0, pos := "law.go:32", after := #[{ on := 18, ground := Ground.data }], guard := none }) (v := ?_) rfl (by kernel_rfl) (by kernel_rfl) (by kernel_rfl) (by kernel_rfl) (fun _ _ _ h => h) (Or.inl ⟨by rfl, ?_⟩) (holds1 (fun _ => S80.out)) ?_
              rotate_left
              · (intro W; go_simp; try with_reducible rfl)
              try simp only [Act.put, List.setIfInBounds_toArray, List.set_cons_zero, List.set_cons_succ]
              refine wpAnyT_take 6 25 (i := 20) (oi := { dst := some 94, op := Op.load 3 (Operand.tmp 93), type := 3, pos := "law.go:32", after := #[{ on := 19, ground := Ground.data }], guard := none }) (v := ?_) (.head _) rfl (by kernel_rfl) (by kernel_rfl) (by kernel_rfl) (by kernel_rfl) (by kernel_rfl) (by kernel_rfl) (by rfl) (fun _ _ _ h => h) (by rfl) ?_ (holds1 (fun _ => S80.out)) ?_
              rotate_left
              · (intro W hSw; (try dsimp only at hSw); go_simp; try with_reducible rfl)
              try simp only [Act.put, List.setIfInBounds_toArray, List.set_cons_zero, List.set_cons_succ]
              refine wpAnyT_call 6 25 (i := 21) (oi := { dst := some 95, op := Op.call { callee := Callee.value (Operand.func 15), args := #[Operand.tmp 94, Operand.const (Value.int IntKind.i64 12)], argTypes := #[3, 3] }, type := 3, pos := "law.go:32", after := #[{ on := 20, ground := Ground.data }, { on := 13, ground := Ground.chain }], guard := none }) (v := ?_) (g := 15) (args := ?_) (.head _) rfl (by kernel_rfl) (by kernel_rfl) (by kernel_rfl) (by kernel_rfl) (by kernel_rfl) (by kernel_rfl) (by rfl) (fun _ _ _ h => h) (by rfl) ?_ ?_ (holds1 (fun _ => S80.out)) ?_
              rotate_left 2
              · (intro W hSw; (try dsimp only at hSw); go_simp; with_reducible rfl)
              · (intro W hSw; (try dsimp only at hSw); exact N2.out W)
              try simp only [Act.put, List.setIfInBounds_toArray, List.set_cons_zero, List.set_cons_succ]
              refine wpAnyT_pure (i := 22) (oi := { dst := some 96, op := Op.binOp BinOp.add 3 (Operand.const (Value.int IntKind.i64 1)) (Operand.tmp 95) 3, type := 3, pos := "law.go:32", after := #[{ on := 21, ground := Ground.data }], guard := none }) (v := ?_) rfl (by kernel_rfl) (by kernel_rfl) (by kernel_rfl) (by kernel_rfl) (fun _ _ _ h => h) (Or.inl ⟨by rfl, ?_⟩) (holds1 (fun _ => S80.out)) ?_
              rotate_left
              · (intro W; go_simp; try with_reducible rfl)
              try simp only [Act.put, List.setIfInBounds_toArray, List.set_cons_zero, List.set_cons_succ]
              refine wpAnyT_pure (i := 23) (oi := { dst := some 97, op := Op.build 23 #[(0, Operand.tmp 80), (1, Operand.tmp 88), (2, Operand.tmp 96)], type := 23, pos := "law.go:32", after := #[{ on := 6, ground := Ground.data }, { on := 14, ground := Ground.data }, { on := 22, ground := Ground.data }], guard := none }) (v := ?_) rfl (by kernel_rfl) (by kernel_rfl) (by kernel_rfl) (by kernel_rfl) (fun _ _ _ h => h) (Or.inl ⟨by rfl, ?_⟩) (holds1 (fun _ => S80.out)) ?_
              rotate_left
              · (intro W; go_simp; try with_reducible rfl)
              try simp only [Act.put, List.setIfInBounds_toArray, List.set_cons_zero, List.set_cons_succ]
              refine wpAnyT_ready (rs := [24]) (by kernel_rfl) (by simp) (AllT.cons (o := { dst := some 5, op := Op.alloc 23, type := 0, pos := "law.go:32", after := #[], guard := none }) rfl (fun K hK => ?_) AllT.nil)
              go_simp
              obtain ⟨D0, hD0⟩ : ∃ Z0, (wo.alloc (.cells #[.int .i64 0, .int .i64 0, .int .i64 0] 23)).drew = Z0 := ⟨_, rfl⟩
              have gD0 : wo.grownBy D0 none := by subst hD0; exact only_drew (only_alloc (only_refl _ _) _)
              have hD : D0.heap[wo.heap.size]? = some (.cells #[.int .i64 0, .int .i64 0, .int .i64 0] 23 (0, 0)) := by subst hD0; exact heap_alloc_new wo _
              rw [hD0]
              clear hD0
              have k0 : D0.cell? ⟨wo.heap.size, 0, none⟩ = some (.int .i64 0) := by simp [World.cell?, hD]
              have k1 : D0.cell? ⟨wo.heap.size, 1, none⟩ = some (.int .i64 0) := by simp [World.cell?, hD]
              have k2 : D0.cell? ⟨wo.heap.size, 2, none⟩ = some (.int .i64 0) := by simp [World.cell?, hD]
              have kf0 : D0.frozen? ⟨wo.heap.size, 0, none⟩ = false := by simp [World.frozen?, hD]
              have kf1 : D0.frozen? ⟨wo.heap.size, 1, none⟩ = false := by simp [World.frozen?, hD]
              have kf2 : D0.frozen? ⟨wo.heap.size, 2, none⟩ = false := by simp [World.frozen?, hD]
              refine hK.out _ _ (holds1 (fun _ => (SP8.out D0 gD0))) ?_
              clear hK K
              try simp only [Act.put, List.setIfInBounds_toArray, List.set_cons_zero, List.set_cons_succ]
              refine wpAnyT_ready (rs := [25]) (by kernel_rfl) (by simp) (AllT.cons (o := { dst := none, op := Op.store 23 (Operand.tmp 5) (Operand.tmp 97), type := 0, pos := "law.go:32", after := #[{ on := 24, ground := Ground.data }, { on := 23, ground := Ground.data }, { on := 21, ground := Ground.chain }, { on := 0, ground := Ground.phase }, { on := 1, ground := Ground.phase }, { on := 2, ground := Ground.phase }, { on := 3, ground := Ground.phase }, { on := 4, ground := Ground.phase }, { on := 5, ground := Ground.phase }, { on := 6, ground := Ground.phase }, { on := 7, ground := Ground.phase }, { on := 8, ground := Ground.phase }, { on := 9, ground := Ground.phase }, { on := 10, ground := Ground.phase }, { on := 11, ground := Ground.phase }, { on := 12, ground := Ground.phase }, { on := 13, ground := Ground.phase }, { on := 14, ground := Ground.phase }, { on := 15, ground := Ground.phase }, { on := 16, ground := Ground.phase }, { on := 17, ground := Ground.phase }, { on := 18, ground := Ground.phase }, { on := 19, ground := Ground.phase }, { on := 20, ground := Ground.phase }, { on := 21, ground := Ground.phase }, { on := 22, ground := Ground.phase }, { on := 23, ground := Ground.phase }, { on := 24, ground := Ground.phase }], guard := none }) rfl (fun K hK => ?_) AllT.nil)
              go_simp
              obtain ⟨D1, hD1⟩ : ∃ Z0, ((D0.setCell ⟨wo.heap.size, 0, none⟩ (.int .i64 a)).setCell ⟨wo.heap.size, 1, none⟩ (.int .i64 b1)).setCell ⟨wo.heap.size, 2, none⟩ (.int .i64 c1) = Z0 := ⟨_, rfl⟩
              have g01 : D0.grownBy D1 (some wo.heap.size) := by subst hD1; exact set_at (set_at (set_at (only_refl _ _) 0 _) 1 _) 2 _
              have hDD : D1.heap[wo.heap.size]? = some (.cells #[.int .i64 a, .int .i64 b1, .int .i64 c1] 23 (0, 0)) := by subst hD1; have h1 := heap_set (i := 0) (u := .int .i64 a) hD; have h2 := heap_set (i := 1) (u := .int .i64 b1) h1; have h3 := heap_set (i := 2) (u := .int .i64 c1) h2; simpa using h3
              rw [hD1]
              clear hD1
              refine hK.out _ _ (holds1 (late_no (by kernel_rfl))) ?_
              clear hK K
              try simp only [Act.put, List.setIfInBounds_toArray, List.set_cons_zero, List.set_cons_succ]
              refine wpAnyT_done (by kernel_rfl) ?_ _
              have gD1 : wo.grownBy D1 none := only_step gD0 g01 (fun k hk => by cases hk; exact .inr (Nat.le_refl _))
              have HDD := Lib.hid hDD
              have zD : wo.heap.size < D1.heap.size := (Array.getElem?_eq_some_iff.1 hDD).1
              have GD1 := Lib.hid (only_step HG.out gD1 (fun _ h => .inl h))
              have OL := Lib.hid (HO.out.kept gD1 (by cases (Value.slice AL L.length cL).ownBlock <;> simp))
              have VL := Lib.hid (Vw.own HO.out).1
              have hLn : L.length ≤ 8 := by have := foldG_len (l.take i); rw [← HL.out, List.length_take] at this; omega
              clear S80 SP8 N0 N1 N2 z1 z2 g01 hD hDD k0 k1 k2 kf0 kf1 kf2 gD0 p5 p10
              go_wp2_with fail
              go_loopw [6] (fun s6 wk => ∃ k : Nat, k ≤ L.length ∧ s6 = .int .i64 k ∧ Hid (∀ j y, j < k → L[j]? = some y → dless y (a, b1, c1)) ∧ Hid (D1.grownBy wk none)) (fun s6 _ => L.length - (intOf s6).toNat)
              case atStart => exact ⟨0, Nat.zero_le _, rfl, fun _ _ h => absurd h (by omega), only_refl _ _⟩
              case round =>
                obtain ⟨k, hk, rfl, HJ, GK⟩ := hrel
                have u0 : (0 : Int) ≤ (k : Int) := by omega
                have us : IntKind.i64.wrap ((k : Int) + 1) = (k : Int) + 1 := by rw [IntKind.wrap_i64]; omega
                by_cases hkl : k < L.length
                · have u1 : (k : Int) < (L.length : Int) := by omega
                  obtain ⟨⟨y1, y2, y3⟩, hy⟩ : ∃ y, L[k]? = some y := ⟨_, List.getElem?_eq_getElem hkl⟩
                  obtain ⟨g, e0, hgb, hgs, _, hgc⟩ := own_form_w OL.out (by omega)
                  subst e0
                  have q3 := dc_at L k (y1, y2, y3) hy
                  have SP : Hid (∀ V, wr.grownBy V none → (fun V => (V.cell? ⟨g, k * 3, none⟩ = some (.int .i64 y1) ∧ V.cell? ⟨g, k * 3 + 1, none⟩ = some (.int .i64 y2) ∧ V.cell? ⟨g, k * 3 + 2, none⟩ = some (.int .i64 y3)) ∧ V.cell? ⟨wo.heap.size, 0, none⟩ = some (.int .i64 a) ∧ V.cell? ⟨wo.heap.size, 1, none⟩ = some (.int .i64 b1) ∧ V.cell? ⟨wo.heap.size, 2, none⟩ = some (.int .i64 c1)) V) := fun V hV => by
                    have gg := only_step GK.out hV (fun _ h => .inl h)
                    have o : ∀ b j, b < D1.heap.size → V.cell? ⟨b, j, none⟩ = D1.cell? ⟨b, j, none⟩ := fun b j hb => World.cell?_of_block (gg.block b hb (by simp))
                    exact ⟨⟨(o _ _ hgs).trans (hgc _ _ q3.1), (o _ _ hgs).trans (hgc _ _ q3.2.1), (o _ _ hgs).trans (hgc _ _ q3.2.2)⟩, (o _ _ zD).trans (by unfold World.cell?; rw [HDD.out]; rfl), (o _ _ zD).trans (by unfold World.cell?; rw [HDD.out]; rfl), (o _ _ zD).trans (by unfold World.cell?; rw [HDD.out]; rfl)⟩
                  have S0 := Lib.hid (SP.out wr.drew (only_drew (only_refl _ _)))
                  have HY := Lib.hid hy
                  clear q3 hgc hy
                  by_cases hless : dless (y1, y2, y3) (a, b1, c1)
                  · have LS := Lib.hid fun W => less_is (y1, y2, y3) (a, b1, c1) true (iff_yes hless) W
                    go_wp2_with fail
                    refine wp_region_late [(10, fun V => (V.cell? ⟨g, k * 3, none⟩ = some (.int .i64 y1) ∧ V.cell? ⟨g, k * 3 + 1, none⟩ = some (.int .i64 y2) ∧ V.cell? ⟨g, k * 3 + 2, none⟩ = some (.int .i64 y3)) ∧ V.cell? ⟨wo.heap.size, 0, none⟩ = some (.int .i64 a) ∧ V.cell? ⟨wo.heap.size, 1, none⟩ = some (.int .i64 b1) ∧ V.cell? ⟨wo.heap.size, 2, none⟩ = some (.int .i64 c1))] (by kernel_rfl) ?_
                    refine wpAnyT_pure (i := 0) (oi := { dst := some 98, op := Op.move (Operand.tmp 6), type := 3, pos := "law.go:34", after := #[], guard := none }) (v := ?_) rfl (by kernel_rfl) (by kernel_rfl) (by kernel_rfl) (by kernel_rfl) (fun _ _ _ h => h) (Or.inl ⟨by rfl, ?_⟩) (holds1 (fun _ => S0.out)) ?_
                    rotate_left
                    · (intro W; go_simp; try with_reducible rfl)
                    try simp only [Act.put, List.setIfInBounds_toArray, List.set_cons_zero, List.set_cons_succ]
                    refine wpAnyT_pure (i := 1) (oi := { dst := some 99, op := Op.move (Operand.tmp 3), type := 24, pos := "law.go:34", after := #[], guard := none }) (v := ?_) rfl (by kernel_rfl) (by kernel_rfl) (by kernel_rfl) (by kernel_rfl) (fun _ _ _ h => h) (Or.inl ⟨by rfl, ?_⟩) (holds1 (fun _ => S0.out)) ?_
                    rotate_left
                    · (intro W; go_simp; try with_reducible rfl)
                    try simp only [Act.put, List.setIfInBounds_toArray, List.set_cons_zero, List.set_cons_succ]
                    refine wpAnyT_pure (i := 2) (oi := { dst := some 100, op := Op.call { callee := Callee.builtin Builtin.len, args := #[Operand.tmp 99], argTypes := #[24] }, type := 3, pos := "law.go:34", after := #[{ on := 1, ground := Ground.data }], guard := none }) (v := ?_) rfl (by kernel_rfl) (by kernel_rfl) (by kernel_rfl) (by kernel_rfl) (fun _ _ _ h => h) (Or.inl ⟨by rfl, ?_⟩) (holds1 (fun _ => S0.out)) ?_
                    rotate_left
                    · (intro W; go_simp; try with_reducible rfl)
                    try simp only [Act.put, List.setIfInBounds_toArray, List.set_cons_zero, List.set_cons_succ]
                    refine wpAnyT_pure (i := 3) (oi := { dst := some 101, op := Op.binOp BinOp.lss 3 (Operand.tmp 98) (Operand.tmp 100) 3, type := 4, pos := "law.go:34", after := #[{ on := 0, ground := Ground.data }, { on := 2, ground := Ground.data }], guard := none }) (v := ?_) rfl (by kernel_rfl) (by kernel_rfl) (by kernel_rfl) (by kernel_rfl) (fun _ _ _ h => h) (Or.inl ⟨by rfl, ?_⟩) (holds1 (fun _ => S0.out)) ?_
                    rotate_left
                    · (intro W; go_simp; try with_reducible rfl)
                    try simp only [Act.put, List.setIfInBounds_toArray, List.set_cons_zero, List.set_cons_succ]
                    refine wpAnyT_pure (i := 4) (oi := { dst := some 102, op := Op.move (Operand.tmp 101), type := 4, pos := "law.go:34", after := #[{ on := 3, ground := Ground.data }], guard := none }) (v := ?_) rfl (by kernel_rfl) (by kernel_rfl) (by kernel_rfl) (by kernel_rfl) (fun _ _ _ h => h) (Or.inl ⟨by rfl, ?_⟩) (holds1 (fun _ => S0.out)) ?_
                    rotate_left
                    · (intro W; go_simp; try with_reducible rfl)
                    try simp only [Act.put, List.setIfInBounds_toArray, List.set_cons_zero, List.set_cons_succ]
                    refine wpAnyT_pure (i := 5) (oi := { dst := some 103, op := Op.move (Operand.tmp 3), type := 24, pos := "law.go:34", after := #[{ on := 4, ground := Ground.guard }], guard := some (4, true) }) (v := ?_) rfl (by kernel_rfl) (by kernel_rfl) (by kernel_rfl) (by kernel_rfl) (fun _ _ _ h => h) (Or.inl ⟨by rfl, ?_⟩) (holds1 (fun _ => S0.out)) ?_
                    rotate_left
                    · (intro W; go_simp; try with_reducible rfl)
                    try simp only [Act.put, List.setIfInBounds_toArray, List.set_cons_zero, List.set_cons_succ]
                    refine wpAnyT_pure (i := 6) (oi := { dst := some 104, op := Op.move (Operand.tmp 6), type := 3, pos := "law.go:34", after := #[{ on := 4, ground := Ground.guard }], guard := some (4, true) }) (v := ?_) rfl (by kernel_rfl) (by kernel_rfl) (by kernel_rfl) (by kernel_rfl) (fun _ _ _ h => h) (Or.inl ⟨by rfl, ?_⟩) (holds1 (fun _ => S0.out)) ?_
                    rotate_left
                    · (intro W; go_simp; try with_reducible rfl)
                    try simp only [Act.put, List.setIfInBounds_toArray, List.set_cons_zero, List.set_cons_succ]
                    refine wpAnyT_pure (i := 7) (oi := { dst := some 105, op := Op.indexAddr 24 (Operand.tmp 103) (Operand.tmp 104), type := 0, pos := "law.go:34", after := #[{ on := 5, ground := Ground.data }, { on := 6, ground := Ground.data }, { on := 4, ground := Ground.guard }], guard := some (4, true) }) (v := ?_) rfl (by kernel_rfl) (by kernel_rfl) (by kernel_rfl) (by kernel_rfl) (fun _ _ _ h => h) (Or.inl ⟨by rfl, ?_⟩) (holds1 (fun _ => S0.out)) ?_
                    rotate_left
                    · (intro W; go_simp; try with_reducible rfl)
                    try simp only [Act.put, List.setIfInBounds_toArray, List.set_cons_zero, List.set_cons_succ]
                    refine wpAnyT_take 3 10 (i := 8) (oi := { dst := some 106, op := Op.load 23 (Operand.tmp 105), type := 23, pos := "law.go:34", after := #[{ on := 7, ground := Ground.data }, { on := 4, ground := Ground.guard }], guard := some (4, true) }) (v := ?_) (.head _) rfl (by kernel_rfl) (by kernel_rfl) (by kernel_rfl) (by kernel_rfl) (by kernel_rfl) (by kernel_rfl) (by rfl) (fun _ _ _ h => h) (by rfl) ?_ (holds1 (fun _ => S0.out)) ?_
                    rotate_left
                    · (intro W hSw; (try dsimp only at hSw); go_simp; try with_reducible rfl)
                    try simp only [Act.put, List.setIfInBounds_toArray, List.set_cons_zero, List.set_cons_succ]
                    refine wpAnyT_take 3 10 (i := 9) (oi := { dst := some 107, op := Op.load 23 (Operand.tmp 5), type := 23, pos := "law.go:34", after := #[{ on := 4, ground := Ground.guard }], guard := some (4, true) }) (v := ?_) (.head _) rfl (by kernel_rfl) (by kernel_rfl) (by kernel_rfl) (by kernel_rfl) (by kernel_rfl) (by kernel_rfl) (by rfl) (fun _ _ _ h => h) (by rfl) ?_ (holds1 (fun _ => S0.out)) ?_
                    rotate_left
                    · (intro W hSw; (try dsimp only at hSw); go_simp; try with_reducible rfl)
                    try simp only [Act.put, List.setIfInBounds_toArray, List.set_cons_zero, List.set_cons_succ]
                    refine wpAnyT_ready (rs := [10]) (by kernel_rfl) (by simp) (AllT.cons (o := { dst := some 108, op := Op.call { callee := Callee.value (Operand.func 22), args := #[Operand.tmp 106, Operand.tmp 107], argTypes := #[23, 23] }, type := 4, pos := "law.go:34", after := #[{ on := 8, ground := Ground.data }, { on := 9, ground := Ground.data }, { on := 4, ground := Ground.chain }, { on := 4, ground := Ground.guard }], guard := some (4, true) }) rfl (fun K hK => ?_) AllT.nil)
                    go_simp
                    go_at_call 22
                    refine (LS.out _).mono ?_
                    rintro _ wa ⟨rfl, ga⟩
                    refine hK.out _ _ (holds1 (late_no (by kernel_rfl))) ?_
                    clear hK K
                    try simp only [Act.put, List.setIfInBounds_toArray, List.set_cons_zero, List.set_cons_succ]
                    refine wpAnyT_pure (i := 11) (oi := { dst := some 109, op := Op.pick (Operand.tmp 102) (Operand.tmp 108) (Operand.const (Value.bool false)), type := 4, pos := "law.go:34", after := #[{ on := 4, ground := Ground.data }, { on := 10, ground := Ground.data }], guard := none }) (v := ?_) rfl (by kernel_rfl) (by kernel_rfl) (by kernel_rfl) (by kernel_rfl) (fun _ _ _ h => h) (Or.inl ⟨by rfl, ?_⟩) (holds1 (late_no (by kernel_rfl))) ?_
                    rotate_left
                    · (intro W; go_simp; try with_reducible rfl)
                    try simp only [Act.put, List.setIfInBounds_toArray, List.set_cons_zero, List.set_cons_succ]
                    refine wpAnyT_done (by kernel_rfl) ?_ _
                    have gka := only_step GK.out (only_step (only_drew (only_refl wr none)) ga (fun _ h => .inl h)) (fun _ h => .inl h)
                    go_wp2_with fail
                    refine ⟨⟨k + 1, by omega, by go_num, fun j y hj hy => ?_, gka⟩, by simp [intOf]; omega⟩
                    rcases Nat.lt_or_ge j k with h5 | h5
                    · exact HJ.out j y h5 hy
                    · obtain rfl : j = k := by omega
                      rw [HY.out] at hy; cases hy
                      exact hless
                  · have LS := Lib.hid fun W => less_is (y1, y2, y3) (a, b1, c1) false (iff_not hless) W
                    go_wp2_with fail
                    refine wp_region_late [(10, fun V => (V.cell? ⟨g, k * 3, none⟩ = some (.int .i64 y1) ∧ V.cell? ⟨g, k * 3 + 1, none⟩ = some (.int .i64 y2) ∧ V.cell? ⟨g, k * 3 + 2, none⟩ = some (.int .i64 y3)) ∧ V.cell? ⟨wo.heap.size, 0, none⟩ = some (.int .i64 a) ∧ V.cell? ⟨wo.heap.size, 1, none⟩ = some (.int .i64 b1) ∧ V.cell? ⟨wo.heap.size, 2, none⟩ = some (.int .i64 c1))] (by kernel_rfl) ?_
                    refine wpAnyT_pure (i := 0) (oi := { dst := some 98, op := Op.move (Operand.tmp 6), type := 3, pos := "law.go:34", after := #[], guard := none }) (v := ?_) rfl (by kernel_rfl) (by kernel_rfl) (by kernel_rfl) (by kernel_rfl) (fun _ _ _ h => h) (Or.inl ⟨by rfl, ?_⟩) (holds1 (fun _ => S0.out)) ?_
                    rotate_left
                    · (intro W; go_simp; try with_reducible rfl)
                    try simp only [Act.put, List.setIfInBounds_toArray, List.set_cons_zero, List.set_cons_succ]
                    refine wpAnyT_pure (i := 1) (oi := { dst := some 99, op := Op.move (Operand.tmp 3), type := 24, pos := "law.go:34", after := #[], guard := none }) (v := ?_) rfl (by kernel_rfl) (by kernel_rfl) (by kernel_rfl) (by kernel_rfl) (fun _ _ _ h => h) (Or.inl ⟨by rfl, ?_⟩) (holds1 (fun _ => S0.out)) ?_
                    rotate_left
                    · (intro W; go_simp; try with_reducible rfl)
                    try simp only [Act.put, List.setIfInBounds_toArray, List.set_cons_zero, List.set_cons_succ]
                    refine wpAnyT_pure (i := 2) (oi := { dst := some 100, op := Op.call { callee := Callee.builtin Builtin.len, args := #[Operand.tmp 99], argTypes := #[24] }, type := 3, pos := "law.go:34", after := #[{ on := 1, ground := Ground.data }], guard := none }) (v := ?_) rfl (by kernel_rfl) (by kernel_rfl) (by kernel_rfl) (by kernel_rfl) (fun _ _ _ h => h) (Or.inl ⟨by rfl, ?_⟩) (holds1 (fun _ => S0.out)) ?_
                    rotate_left
                    · (intro W; go_simp; try with_reducible rfl)
                    try simp only [Act.put, List.setIfInBounds_toArray, List.set_cons_zero, List.set_cons_succ]
                    refine wpAnyT_pure (i := 3) (oi := { dst := some 101, op := Op.binOp BinOp.lss 3 (Operand.tmp 98) (Operand.tmp 100) 3, type := 4, pos := "law.go:34", after := #[{ on := 0, ground := Ground.data }, { on := 2, ground := Ground.data }], guard := none }) (v := ?_) rfl (by kernel_rfl) (by kernel_rfl) (by kernel_rfl) (by kernel_rfl) (fun _ _ _ h => h) (Or.inl ⟨by rfl, ?_⟩) (holds1 (fun _ => S0.out)) ?_
                    rotate_left
                    · (intro W; go_simp; try with_reducible rfl)
                    try simp only [Act.put, List.setIfInBounds_toArray, List.set_cons_zero, List.set_cons_succ]
                    refine wpAnyT_pure (i := 4) (oi := { dst := some 102, op := Op.move (Operand.tmp 101), type := 4, pos := "law.go:34", after := #[{ on := 3, ground := Ground.data }], guard := none }) (v := ?_) rfl (by kernel_rfl) (by kernel_rfl) (by kernel_rfl) (by kernel_rfl) (fun _ _ _ h => h) (Or.inl ⟨by rfl, ?_⟩) (holds1 (fun _ => S0.out)) ?_
                    rotate_left
                    · (intro W; go_simp; try with_reducible rfl)
                    try simp only [Act.put, List.setIfInBounds_toArray, List.set_cons_zero, List.set_cons_succ]
                    refine wpAnyT_pure (i := 5) (oi := { dst := some 103, op := Op.move (Operand.tmp 3), type := 24, pos := "law.go:34", after := #[{ on := 4, ground := Ground.guard }], guard := some (4, true) }) (v := ?_) rfl (by kernel_rfl) (by kernel_rfl) (by kernel_rfl) (by kernel_rfl) (fun _ _ _ h => h) (Or.inl ⟨by rfl, ?_⟩) (holds1 (fun _ => S0.out)) ?_
                    rotate_left
                    · (intro W; go_simp; try with_reducible rfl)
                    try simp only [Act.put, List.setIfInBounds_toArray, List.set_cons_zero, List.set_cons_succ]
                    refine wpAnyT_pure (i := 6) (oi := { dst := some 104, op := Op.move (Operand.tmp 6), type := 3, pos := "law.go:34", after := #[{ on := 4, ground := Ground.guard }], guard := some (4, true) }) (v := ?_) rfl (by kernel_rfl) (by kernel_rfl) (by kernel_rfl) (by kernel_rfl) (fun _ _ _ h => h) (Or.inl ⟨by rfl, ?_⟩) (holds1 (fun _ => S0.out)) ?_
                    rotate_left
                    · (intro W; go_simp; try with_reducible rfl)
                    try simp only [Act.put, List.setIfInBounds_toArray, List.set_cons_zero, List.set_cons_succ]
                    refine wpAnyT_pure (i := 7) (oi := { dst := some 105, op := Op.indexAddr 24 (Operand.tmp 103) (Operand.tmp 104), type := 0, pos := "law.go:34", after := #[{ on := 5, ground := Ground.data }, { on := 6, ground := Ground.data }, { on := 4, ground := Ground.guard }], guard := some (4, true) }) (v := ?_) rfl (by kernel_rfl) (by kernel_rfl) (by kernel_rfl) (by kernel_rfl) (fun _ _ _ h => h) (Or.inl ⟨by rfl, ?_⟩) (holds1 (fun _ => S0.out)) ?_
                    rotate_left
                    · (intro W; go_simp; try with_reducible rfl)
                    try simp only [Act.put, List.setIfInBounds_toArray, List.set_cons_zero, List.set_cons_succ]
                    refine wpAnyT_take 3 10 (i := 8) (oi := { dst := some 106, op := Op.load 23 (Operand.tmp 105), type := 23, pos := "law.go:34", after := #[{ on := 7, ground := Ground.data }, { on := 4, ground := Ground.guard }], guard := some (4, true) }) (v := ?_) (.head _) rfl (by kernel_rfl) (by kernel_rfl) (by kernel_rfl) (by kernel_rfl) (by kernel_rfl) (by kernel_rfl) (by rfl) (fun _ _ _ h => h) (by rfl) ?_ (holds1 (fun _ => S0.out)) ?_
                    rotate_left
                    · (intro W hSw; (try dsimp only at hSw); go_simp; try with_reducible rfl)
                    try simp only [Act.put, List.setIfInBounds_toArray, List.set_cons_zero, List.set_cons_succ]
                    refine wpAnyT_take 3 10 (i := 9) (oi := { dst := some 107, op := Op.load 23 (Operand.tmp 5), type := 23, pos := "law.go:34", after := #[{ on := 4, ground := Ground.guard }], guard := some (4, true) }) (v := ?_) (.head _) rfl (by kernel_rfl) (by kernel_rfl) (by kernel_rfl) (by kernel_rfl) (by kernel_rfl) (by kernel_rfl) (by rfl) (fun _ _ _ h => h) (by rfl) ?_ (holds1 (fun _ => S0.out)) ?_
                    rotate_left
                    · (intro W hSw; (try dsimp only at hSw); go_simp; try with_reducible rfl)
                    try simp only [Act.put, List.setIfInBounds_toArray, List.set_cons_zero, List.set_cons_succ]
                    refine wpAnyT_ready (rs := [10]) (by kernel_rfl) (by simp) (AllT.cons (o := { dst := some 108, op := Op.call { callee := Callee.value (Operand.func 22), args := #[Operand.tmp 106, Operand.tmp 107], argTypes := #[23, 23] }, type := 4, pos := "law.go:34", after := #[{ on := 8, ground := Ground.data }, { on := 9, ground := Ground.data }, { on := 4, ground := Ground.chain }, { on := 4, ground := Ground.guard }], guard := some (4, true) }) rfl (fun K hK => ?_) AllT.nil)
                    go_simp
                    go_at_call 22
                    refine (LS.out _).mono ?_
                    rintro _ wa ⟨rfl, ga⟩
                    refine hK.out _ _ (holds1 (late_no (by kernel_rfl))) ?_
                    clear hK K
                    try simp only [Act.put, List.setIfInBounds_toArray, List.set_cons_zero, List.set_cons_succ]
                    refine wpAnyT_pure (i := 11) (oi := { dst := some 109, op := Op.pick (Operand.tmp 102) (Operand.tmp 108) (Operand.const (Value.bool false)), type := 4, pos := "law.go:34", after := #[{ on := 4, ground := Ground.data }, { on := 10, ground := Ground.data }], guard := none }) (v := ?_) rfl (by kernel_rfl) (by kernel_rfl) (by kernel_rfl) (by kernel_rfl) (fun _ _ _ h => h) (Or.inl ⟨by rfl, ?_⟩) (holds1 (late_no (by kernel_rfl))) ?_
                    rotate_left
                    · (intro W; go_simp; try with_reducible rfl)
                    try simp only [Act.put, List.setIfInBounds_toArray, List.set_cons_zero, List.set_cons_succ]
                    refine wpAnyT_done (by kernel_rfl) ?_ _
                    have gwa : wr.grownBy wa none := only_step (only_drew (only_refl wr none)) ga (fun _ h => .inl h)
                    have S12 := Lib.hid (SP.out wa.drew (only_drew gwa))
                    have gka := only_step GK.out gwa (fun _ h => .inl h)
                    obtain ⟨wb, hwb⟩ : ∃ wb, wa.drew = wb := ⟨_, rfl⟩
                    have gW0 : D1.grownBy wb none := by subst hwb; exact only_drew gka
                    have HWB := Lib.hid hwb
                    clear hwb
                    by_cases heq : (y1, y2, y3) = (a, b1, c1)
                    · obtain ⟨rfl, rfl, rfl⟩ : a = y1 ∧ b1 = y2 ∧ c1 = y3 := by simp only [Prod.mk.injEq] at heq; exact ⟨heq.1.symm, heq.2.1.symm, heq.2.2.symm⟩
                      go_wp2_with fail
                      refine wp_region_late [(11, fun V => (V.cell? ⟨g, k * 3, none⟩ = some (.int .i64 a) ∧ V.cell? ⟨g, k * 3 + 1, none⟩ = some (.int .i64 b1) ∧ V.cell? ⟨g, k * 3 + 2, none⟩ = some (.int .i64 c1)) ∧ V.cell? ⟨wo.heap.size, 0, none⟩ = some (.int .i64 a) ∧ V.cell? ⟨wo.heap.size, 1, none⟩ = some (.int .i64 b1) ∧ V.cell? ⟨wo.heap.size, 2, none⟩ = some (.int .i64 c1))] (by kernel_rfl) ?_
                      refine wpAnyT_pure (i := 0) (oi := { dst := some 112, op := Op.move (Operand.tmp 6), type := 3, pos := "law.go:37", after := #[], guard := none }) (v := ?_) rfl (by kernel_rfl) (by kernel_rfl) (by kernel_rfl) (by kernel_rfl) (fun _ _ _ h => h) (Or.inl ⟨by rfl, ?_⟩) (holds1 (fun _ => S12.out)) ?_
                      rotate_left
                      · (intro W; go_simp; try with_reducible rfl)
                      try simp only [Act.put, List.setIfInBounds_toArray, List.set_cons_zero, List.set_cons_succ]
                      refine wpAnyT_pure (i := 1) (oi := { dst := some 113, op := Op.move (Operand.tmp 3), type := 24, pos := "law.go:37", after := #[], guard := none }) (v := ?_) rfl (by kernel_rfl) (by kernel_rfl) (by kernel_rfl) (by kernel_rfl) (fun _ _ _ h => h) (Or.inl ⟨by rfl, ?_⟩) (holds1 (fun _ => S12.out)) ?_
                      rotate_left
                      · (intro W; go_simp; try with_reducible rfl)
                      try simp only [Act.put, List.setIfInBounds_toArray, List.set_cons_zero, List.set_cons_succ]
                      refine wpAnyT_pure (i := 2) (oi := { dst := some 114, op := Op.call { callee := Callee.builtin Builtin.len, args := #[Operand.tmp 113], argTypes := #[24] }, type := 3, pos := "law.go:37", after := #[{ on := 1, ground := Ground.data }], guard := none }) (v := ?_) rfl (by kernel_rfl) (by kernel_rfl) (by kernel_rfl) (by kernel_rfl) (fun _ _ _ h => h) (Or.inl ⟨by rfl, ?_⟩) (holds1 (fun _ => S12.out)) ?_
                      rotate_left
                      · (intro W; go_simp; try with_reducible rfl)
                      try simp only [Act.put, List.setIfInBounds_toArray, List.set_cons_zero, List.set_cons_succ]
                      refine wpAnyT_pure (i := 3) (oi := { dst := some 115, op := Op.binOp BinOp.lss 3 (Operand.tmp 112) (Operand.tmp 114) 3, type := 4, pos := "law.go:37", after := #[{ on := 0, ground := Ground.data }, { on := 2, ground := Ground.data }], guard := none }) (v := ?_) rfl (by kernel_rfl) (by kernel_rfl) (by kernel_rfl) (by kernel_rfl) (fun _ _ _ h => h) (Or.inl ⟨by rfl, ?_⟩) (holds1 (fun _ => S12.out)) ?_
                      rotate_left
                      · (intro W; go_simp; try with_reducible rfl)
                      try simp only [Act.put, List.setIfInBounds_toArray, List.set_cons_zero, List.set_cons_succ]
                      refine wpAnyT_pure (i := 4) (oi := { dst := some 116, op := Op.move (Operand.tmp 115), type := 4, pos := "law.go:37", after := #[{ on := 3, ground := Ground.data }], guard := none }) (v := ?_) rfl (by kernel_rfl) (by kernel_rfl) (by kernel_rfl) (by kernel_rfl) (fun _ _ _ h => h) (Or.inl ⟨by rfl, ?_⟩) (holds1 (fun _ => S12.out)) ?_
                      rotate_left
                      · (intro W; go_simp; try with_reducible rfl)
                      try simp only [Act.put, List.setIfInBounds_toArray, List.set_cons_zero, List.set_cons_succ]
                      refine wpAnyT_pure (i := 5) (oi := { dst := some 117, op := Op.move (Operand.tmp 3), type := 24, pos := "law.go:37", after := #[{ on := 4, ground := Ground.guard }], guard := some (4, true) }) (v := ?_) rfl (by kernel_rfl) (by kernel_rfl) (by kernel_rfl) (by kernel_rfl) (fun _ _ _ h => h) (Or.inl ⟨by rfl, ?_⟩) (holds1 (fun _ => S12.out)) ?_
                      rotate_left
                      · (intro W; go_simp; try with_reducible rfl)
                      try simp only [Act.put, List.setIfInBounds_toArray, List.set_cons_zero, List.set_cons_succ]
                      refine wpAnyT_pure (i := 6) (oi := { dst := some 118, op := Op.move (Operand.tmp 6), type := 3, pos := "law.go:37", after := #[{ on := 4, ground := Ground.guard }], guard := some (4, true) }) (v := ?_) rfl (by kernel_rfl) (by kernel_rfl) (by kernel_rfl) (by kernel_rfl) (fun _ _ _ h => h) (Or.inl ⟨by rfl, ?_⟩) (holds1 (fun _ => S12.out)) ?_
                      rotate_left
                      · (intro W; go_simp; try with_reducible rfl)
                      try simp only [Act.put, List.setIfInBounds_toArray, List.set_cons_zero, List.set_cons_succ]
                      refine wpAnyT_pure (i := 7) (oi := { dst := some 119, op := Op.indexAddr 24 (Operand.tmp 117) (Operand.tmp 118), type := 0, pos := "law.go:37", after := #[{ on := 5, ground := Ground.data }, { on := 6, ground := Ground.data }, { on := 4, ground := Ground.guard }], guard := some (4, true) }) (v := ?_) rfl (by kernel_rfl) (by kernel_rfl) (by kernel_rfl) (by kernel_rfl) (fun _ _ _ h => h) (Or.inl ⟨by rfl, ?_⟩) (holds1 (fun _ => S12.out)) ?_
                      rotate_left
                      · (intro W; go_simp; try with_reducible rfl)
                      try simp only [Act.put, List.setIfInBounds_toArray, List.set_cons_zero, List.set_cons_succ]
                      refine wpAnyT_take 4 11 (i := 8) (oi := { dst := some 120, op := Op.load 23 (Operand.tmp 119), type := 23, pos := "law.go:37", after := #[{ on := 7, ground := Ground.data }, { on := 4, ground := Ground.guard }], guard := some (4, true) }) (v := ?_) (.head _) rfl (by kernel_rfl) (by kernel_rfl) (by kernel_rfl) (by kernel_rfl) (by kernel_rfl) (by kernel_rfl) (by rfl) (fun _ _ _ h => h) (by rfl) ?_ (holds1 (fun _ => S12.out)) ?_
                      rotate_left
                      · (intro W hSw; (try dsimp only at hSw); go_simp; try with_reducible rfl)
                      try simp only [Act.put, List.setIfInBounds_toArray, List.set_cons_zero, List.set_cons_succ]
                      refine wpAnyT_take 4 11 (i := 9) (oi := { dst := some 121, op := Op.load 23 (Operand.tmp 5), type := 23, pos := "law.go:37", after := #[{ on := 4, ground := Ground.guard }], guard := some (4, true) }) (v := ?_) (.head _) rfl (by kernel_rfl) (by kernel_rfl) (by kernel_rfl) (by kernel_rfl) (by kernel_rfl) (by kernel_rfl) (by rfl) (fun _ _ _ h => h) (by rfl) ?_ (holds1 (fun _ => S12.out)) ?_
                      rotate_left
                      · (intro W hSw; (try dsimp only at hSw); go_simp; try with_reducible rfl)
                      try simp only [Act.put, List.setIfInBounds_toArray, List.set_cons_zero, List.set_cons_succ]
                      refine wpAnyT_pure (i := 10) (oi := { dst := some 122, op := Op.binOp BinOp.eql 23 (Operand.tmp 120) (Operand.tmp 121) 23, type := 4, pos := "law.go:37", after := #[{ on := 8, ground := Ground.data }, { on := 9, ground := Ground.data }, { on := 4, ground := Ground.guard }], guard := some (4, true) }) (v := ?_) rfl (by kernel_rfl) (by kernel_rfl) (by kernel_rfl) (by kernel_rfl) (fun _ _ _ h => h) (Or.inl ⟨by rfl, ?_⟩) (holds1 (fun _ => S12.out)) ?_
                      rotate_left
                      · (intro W; go_simp; try with_reducible rfl)
                      try simp only [Act.put, List.setIfInBounds_toArray, List.set_cons_zero, List.set_cons_succ]
                      refine wpAnyT_ready (rs := [11]) (by kernel_rfl) (by simp) (AllT.cons (o := { dst := some 123, op := Op.pick (Operand.tmp 116) (Operand.tmp 122) (Operand.const (Value.bool false)), type := 4, pos := "law.go:37", after := #[{ on := 4, ground := Ground.data }, { on := 10, ground := Ground.data }], guard := none }) rfl (fun K hK => ?_) AllT.nil)
                      go_simp
                      refine hK.out _ _ (holds1 (late_no (by kernel_rfl))) ?_
                      clear hK K
                      try simp only [Act.put, List.setIfInBounds_toArray, List.set_cons_zero, List.set_cons_succ]
                      refine wpAnyT_done (by kernel_rfl) ?_ _
                      go_wp2_with fail
                      rw [HWB.out]
                      have gwo := only_step gD1 gW0 (fun _ h => .inl h)
                      refine ⟨⟨i + 1, L, some ⟨g, 0, none⟩, cL, by omega, by omega, .inr hkd, by go_num, rfl, ?_, HO.out.kept gwo (by cases (Value.slice (some ⟨g, 0, none⟩) L.length cL).ownBlock <;> simp), HB.out.other gwo (by simp), HBR.out.other gwo (by simp), only_step HG.out gwo (fun _ h => .inl h)⟩, by simp [intOf]; omega⟩
                      show L = _
                      rw [HX.out, insD_same k L _ HJ.out HY.out]
                    · go_wp2_with fail
                      refine wp_region_late [(11, fun V => (V.cell? ⟨g, k * 3, none⟩ = some (.int .i64 y1) ∧ V.cell? ⟨g, k * 3 + 1, none⟩ = some (.int .i64 y2) ∧ V.cell? ⟨g, k * 3 + 2, none⟩ = some (.int .i64 y3)) ∧ V.cell? ⟨wo.heap.size, 0, none⟩ = some (.int .i64 a) ∧ V.cell? ⟨wo.heap.size, 1, none⟩ = some (.int .i64 b1) ∧ V.cell? ⟨wo.heap.size, 2, none⟩ = some (.int .i64 c1))] (by kernel_rfl) ?_
                      refine wpAnyT_pure (i := 0) (oi := { dst := some 112, op := Op.move (Operand.tmp 6), type := 3, pos := "law.go:37", after := #[], guard := none }) (v := ?_) rfl (by kernel_rfl) (by kernel_rfl) (by kernel_rfl) (by kernel_rfl) (fun _ _ _ h => h) (Or.inl ⟨by rfl, ?_⟩) (holds1 (fun _ => S12.out)) ?_
                      rotate_left
                      · (intro W; go_simp; try with_reducible rfl)
                      try simp only [Act.put, List.setIfInBounds_toArray, List.set_cons_zero, List.set_cons_succ]
                      refine wpAnyT_pure (i := 1) (oi := { dst := some 113, op := Op.move (Operand.tmp 3), type := 24, pos := "law.go:37", after := #[], guard := none }) (v := ?_) rfl (by kernel_rfl) (by kernel_rfl) (by kernel_rfl) (by kernel_rfl) (fun _ _ _ h => h) (Or.inl ⟨by rfl, ?_⟩) (holds1 (fun _ => S12.out)) ?_
                      rotate_left
                      · (intro W; go_simp; try with_reducible rfl)
                      try simp only [Act.put, List.setIfInBounds_toArray, List.set_cons_zero, List.set_cons_succ]
                      refine wpAnyT_pure (i := 2) (oi := { dst := some 114, op := Op.call { callee := Callee.builtin Builtin.len, args := #[Operand.tmp 113], argTypes := #[24] }, type := 3, pos := "law.go:37", after := #[{ on := 1, ground := Ground.data }], guard := none }) (v := ?_) rfl (by kernel_rfl) (by kernel_rfl) (by kernel_rfl) (by kernel_rfl) (fun _ _ _ h => h) (Or.inl ⟨by rfl, ?_⟩) (holds1 (fun _ => S12.out)) ?_
                      rotate_left
                      · (intro W; go_simp; try with_reducible rfl)
                      try simp only [Act.put, List.setIfInBounds_toArray, List.set_cons_zero, List.set_cons_succ]
                      refine wpAnyT_pure (i := 3) (oi := { dst := some 115, op := Op.binOp BinOp.lss 3 (Operand.tmp 112) (Operand.tmp 114) 3, type := 4, pos := "law.go:37", after := #[{ on := 0, ground := Ground.data }, { on := 2, ground := Ground.data }], guard := none }) (v := ?_) rfl (by kernel_rfl) (by kernel_rfl) (by kernel_rfl) (by kernel_rfl) (fun _ _ _ h => h) (Or.inl ⟨by rfl, ?_⟩) (holds1 (fun _ => S12.out)) ?_
                      rotate_left
                      · (intro W; go_simp; try with_reducible rfl)
                      try simp only [Act.put, List.setIfInBounds_toArray, List.set_cons_zero, List.set_cons_succ]
                      refine wpAnyT_pure (i := 4) (oi := { dst := some 116, op := Op.move (Operand.tmp 115), type := 4, pos := "law.go:37", after := #[{ on := 3, ground := Ground.data }], guard := none }) (v := ?_) rfl (by kernel_rfl) (by kernel_rfl) (by kernel_rfl) (by kernel_rfl) (fun _ _ _ h => h) (Or.inl ⟨by rfl, ?_⟩) (holds1 (fun _ => S12.out)) ?_
                      rotate_left
                      · (intro W; go_simp; try with_reducible rfl)
                      try simp only [Act.put, List.setIfInBounds_toArray, List.set_cons_zero, List.set_cons_succ]
                      refine wpAnyT_pure (i := 5) (oi := { dst := some 117, op := Op.move (Operand.tmp 3), type := 24, pos := "law.go:37", after := #[{ on := 4, ground := Ground.guard }], guard := some (4, true) }) (v := ?_) rfl (by kernel_rfl) (by kernel_rfl) (by kernel_rfl) (by kernel_rfl) (fun _ _ _ h => h) (Or.inl ⟨by rfl, ?_⟩) (holds1 (fun _ => S12.out)) ?_
                      rotate_left
                      · (intro W; go_simp; try with_reducible rfl)
                      try simp only [Act.put, List.setIfInBounds_toArray, List.set_cons_zero, List.set_cons_succ]
                      refine wpAnyT_pure (i := 6) (oi := { dst := some 118, op := Op.move (Operand.tmp 6), type := 3, pos := "law.go:37", after := #[{ on := 4, ground := Ground.guard }], guard := some (4, true) }) (v := ?_) rfl (by kernel_rfl) (by kernel_rfl) (by kernel_rfl) (by kernel_rfl) (fun _ _ _ h => h) (Or.inl ⟨by rfl, ?_⟩) (holds1 (fun _ => S12.out)) ?_
                      rotate_left
                      · (intro W; go_simp; try with_reducible rfl)
                      try simp only [Act.put, List.setIfInBounds_toArray, List.set_cons_zero, List.set_cons_succ]
                      refine wpAnyT_pure (i := 7) (oi := { dst := some 119, op := Op.indexAddr 24 (Operand.tmp 117) (Operand.tmp 118), type := 0, pos := "law.go:37", after := #[{ on := 5, ground := Ground.data }, { on := 6, ground := Ground.data }, { on := 4, ground := Ground.guard }], guard := some (4, true) }) (v := ?_) rfl (by kernel_rfl) (by kernel_rfl) (by kernel_rfl) (by kernel_rfl) (fun _ _ _ h => h) (Or.inl ⟨by rfl, ?_⟩) (holds1 (fun _ => S12.out)) ?_
                      rotate_left
                      · (intro W; go_simp; try with_reducible rfl)
                      try simp only [Act.put, List.setIfInBounds_toArray, List.set_cons_zero, List.set_cons_succ]
                      refine wpAnyT_take 4 11 (i := 8) (oi := { dst := some 120, op := Op.load 23 (Operand.tmp 119), type := 23, pos := "law.go:37", after := #[{ on := 7, ground := Ground.data }, { on := 4, ground := Ground.guard }], guard := some (4, true) }) (v := ?_) (.head _) rfl (by kernel_rfl) (by kernel_rfl) (by kernel_rfl) (by kernel_rfl) (by kernel_rfl) (by kernel_rfl) (by rfl) (fun _ _ _ h => h) (by rfl) ?_ (holds1 (fun _ => S12.out)) ?_
                      rotate_left
                      · (intro W hSw; (try dsimp only at hSw); go_simp; try with_reducible rfl)
                      try simp only [Act.put, List.setIfInBounds_toArray, List.set_cons_zero, List.set_cons_succ]
                      refine wpAnyT_take 4 11 (i := 9) (oi := { dst := some 121, op := Op.load 23 (Operand.tmp 5), type := 23, pos := "law.go:37", after := #[{ on := 4, ground := Ground.guard }], guard := some (4, true) }) (v := ?_) (.head _) rfl (by kernel_rfl) (by kernel_rfl) (by kernel_rfl) (by kernel_rfl) (by kernel_rfl) (by kernel_rfl) (by rfl) (fun _ _ _ h => h) (by rfl) ?_ (holds1 (fun _ => S12.out)) ?_
                      rotate_left
                      · (intro W hSw; (try dsimp only at hSw); go_simp; try with_reducible rfl)
                      try simp only [Act.put, List.setIfInBounds_toArray, List.set_cons_zero, List.set_cons_succ]
                      refine wpAnyT_pure (i := 10) (oi := { dst := some 122, op := Op.binOp BinOp.eql 23 (Operand.tmp 120) (Operand.tmp 121) 23, type := 4, pos := "law.go:37", after := #[{ on := 8, ground := Ground.data }, { on := 9, ground := Ground.data }, { on := 4, ground := Ground.guard }], guard := some (4, true) }) (v := ?_) rfl (by kernel_rfl) (by kernel_rfl) (by kernel_rfl) (by kernel_rfl) (fun _ _ _ h => h) (Or.inl ⟨by rfl, ?_⟩) (holds1 (fun _ => S12.out)) ?_
                      rotate_left
                      · (intro W; go_simp; rw [dot_ne heq])
                      try simp only [Act.put, List.setIfInBounds_toArray, List.set_cons_zero, List.set_cons_succ]
                      refine wpAnyT_ready (rs := [11]) (by kernel_rfl) (by simp) (AllT.cons (o := { dst := some 123, op := Op.pick (Operand.tmp 116) (Operand.tmp 122) (Operand.const (Value.bool false)), type := 4, pos := "law.go:37", after := #[{ on := 4, ground := Ground.data }, { on := 10, ground := Ground.data }], guard := none }) rfl (fun K hK => ?_) AllT.nil)
                      go_simp
                      refine hK.out _ _ (holds1 (late_no (by kernel_rfl))) ?_
                      clear hK K
                      try simp only [Act.put, List.setIfInBounds_toArray, List.set_cons_zero, List.set_cons_succ]
                      refine wpAnyT_done (by kernel_rfl) ?_ _
                      rw [HWB.out]
                      have zW : wb.heap.size = wb.heap.size := rfl
                      have gA := Lib.hid (only_step GD1.out gW0 (fun _ h => .inl h))
                      have VA := Lib.hid (VL.out.keep (only_step gD1 gW0 (fun _ h => .inl h)) (Nat.le_refl _))
                      have sh := slice_hi VA.out k hk
                      obtain ⟨A3, sl, VL3⟩ := slice_lo VA.out k hk
                      have V3 := Lib.hid VL3
                      have lit : Hid ((wb.alloc (.cells #[] 23)).ownsRow wb.heap.size 23 3 (.slice (some ⟨wb.heap.size, 0, none⟩) 0 0) 0 []) := ⟨rfl, .inr ⟨wb.heap.size, 0, #[], rfl, Nat.le_refl _, heap_alloc_new _ _, Nat.le_refl _, Nat.zero_le _, rfl, rfl⟩⟩
                      have sr1 := Lib.hid ((VA.out.keep (only_alloc (only_refl _ _) _) (by have := gD1.size; have := gW0.size; omega)).src (w := (wb.alloc (.cells #[] 23))) k cL hk)
                      have bz1 : wb.heap.size ≤ (wb.alloc (.cells #[] 23)).heap.size := (World.grownBy_alloc _ _ none).size
                      have DW : wb.heap[wo.heap.size]? = some (.cells #[.int .i64 a, .int .i64 b1, .int .i64 c1] 23 (0, 0)) := (gW0.block _ zD (by simp)).trans HDD.out
                      have zDW : wo.heap.size < wb.heap.size := (Array.getElem?_eq_some_iff.1 DW).1
                      have lim1 : w.heap.size ≤ wb.heap.size := gA.out.size
                      clear VL3
                      go_wp2_with (first | (at_builtin; refine app_e rfl _ _ 24 rfl wb.heap.size (.slice A2 (k + 1) c2') (k + 1) (dc (L.take k) ++ dc [(a, b1, c1)]) rfl o2.out (.slice A3 (L.length - k) (cL - k)) (L.length - k) (dc (L.drop k)) rfl sr3.out (by omega) gw2.out.size ?_; intro v3 w3 g3; have o3 := Lib.hid g3.own; obtain ⟨A4, c4', rfl⟩ := own_slice_w g3.own; have gw3 := Lib.hid (only_step gw2.out g3.only (fun q hq => .inr (o2.out.lt q hq).1)); clear g3) | (at_builtin; refine app_e rfl _ _ 24 rfl wb.heap.size (.slice A1 k c1') k (dc (L.take k)) rfl o1'.out (.slice (some ⟨w1.heap.size, 0, none⟩) 1 1) 1 (dc [(a, b1, c1)]) rfl (src_dot w1 (a, b1, c1)) (by omega) bz2 ?_; intro v2 w2 g2; have o2 := Lib.hid g2.own; obtain ⟨A2, c2', rfl⟩ := own_slice_w g2.own; have gw2 := Lib.hid (only_step (only_alloc gw1.out _) g2.only (fun q hq => .inr (o1.out.lt q hq).1)); clear g2; have sr3 := Lib.hid (Src.all (V3.out.keep gw2.out (by have := gD1.size; have := gW0.size; omega)) (L.length - k) (by rw [List.length_drop]))) | (at_builtin; refine app_e rfl _ _ 24 rfl wb.heap.size (.slice (some ⟨wb.heap.size, 0, none⟩) 0 0) 0 [] rfl lit.out (.slice (some ⟨g, 0, none⟩) k cL) k (dc (L.take k)) rfl sr1.out (by omega) bz1 ?_; intro v1 w1 g1; rw [Nat.zero_add, List.nil_append] at g1; have o1 := Lib.hid g1.own; obtain ⟨A1, c1', rfl⟩ := own_slice_w g1.own; have gw1 := Lib.hid (only_step (only_alloc (only_refl wb none) _) g1.only (fun q hq => by cases hq; exact .inr (Nat.le_refl _))); clear g1; have d1 := (gw1.out.block _ zDW (by simp)).trans DW; have kd0 : w1.cell? ⟨wo.heap.size, 0, none⟩ = some (.int .i64 a) := (by simp [World.cell?, d1]); have kd1 : w1.cell? ⟨wo.heap.size, 1, none⟩ = some (.int .i64 b1) := (by simp [World.cell?, d1]); have kd2 : w1.cell? ⟨wo.heap.size, 2, none⟩ = some (.int .i64 c1) := (by simp [World.cell?, d1]); have o1' := Lib.hid (o1.out.kept (World.grownBy_alloc w1 (.cells #[.int .i64 a, .int .i64 b1, .int .i64 c1] 23) none) (by cases (Value.slice A1 k c1').ownBlock <;> simp)); have bz2 : wb.heap.size ≤ (w1.alloc (.cells #[.int .i64 a, .int .i64 b1, .int .i64 c1] 23)).heap.size := Nat.le_trans gw1.out.size (World.grownBy_alloc _ _ none).size; clear d1))
                      have INS : insD L (a, b1, c1) = L.take k ++ (a, b1, c1) :: L.drop k := insD_mid k L _ _ HJ.out HY.out hless heq
                      have LI : (insD L (a, b1, c1)).length = k + 1 + (L.length - k) := by rw [INS]; simp; omega
                      have gF := Lib.hid (only_step gA.out gw3.out (fun _ h => .inl h))
                      have gwo := only_step (only_step gD1 gW0 (fun _ h => .inl h)) gw3.out (fun _ h => .inl h)
                      refine ⟨⟨i + 1, insD L (a, b1, c1), A4, c4', by omega, by omega, .inr hkd, by go_num, by rw [LI], HX.out.symm, ?_, HB.out.other gwo (by simp), HBR.out.other gwo (by simp), gF.out⟩, by simp [intOf]; omega⟩
                      show World.ownsRow _ _ _ _ _ _ _
                      rw [LI, INS]
                      have e : dc (L.take k ++ (a, b1, c1) :: L.drop k) = dc (L.take k) ++ dc [(a, b1, c1)] ++ dc (L.drop k) := by rw [dc_append, show (a, b1, c1) :: L.drop k = [(a, b1, c1)] ++ L.drop k from rfl, dc_append, List.append_assoc]
                      rw [e]
                      exact own_less o3.out lim1
                · have u1 : ¬ (k : Int) < (L.length : Int) := by omega
                  have hkL : Hid (k = L.length) := (by show _ = _; omega)
                  go_wp2_with fail
                  refine wp_region_late [] (by kernel_rfl) ?_
                  refine wpAnyT_pure (i := 0) (oi := { dst := some 98, op := Op.move (Operand.tmp 6), type := 3, pos := "law.go:34", after := #[], guard := none }) (v := ?_) rfl (by kernel_rfl) (by kernel_rfl) (by kernel_rfl) (by kernel_rfl) (fun _ _ _ h => h) (Or.inl ⟨by rfl, ?_⟩) (holds0 ) ?_
                  rotate_left
                  · (intro W; go_simp; try with_reducible rfl)
                  try simp only [Act.put, List.setIfInBounds_toArray, List.set_cons_zero, List.set_cons_succ]
                  refine wpAnyT_pure (i := 1) (oi := { dst := some 99, op := Op.move (Operand.tmp 3), type := 24, pos := "law.go:34", after := #[], guard := none }) (v := ?_) rfl (by kernel_rfl) (by kernel_rfl) (by kernel_rfl) (by kernel_rfl) (fun _ _ _ h => h) (Or.inl ⟨by rfl, ?_⟩) (holds0 ) ?_
                  rotate_left
                  · (intro W; go_simp; try with_reducible rfl)
                  try simp only [Act.put, List.setIfInBounds_toArray, List.set_cons_zero, List.set_cons_succ]
                  refine wpAnyT_pure (i := 2) (oi := { dst := some 100, op := Op.call { callee := Callee.builtin Builtin.len, args := #[Operand.tmp 99], argTypes := #[24] }, type := 3, pos := "law.go:34", after := #[{ on := 1, ground := Ground.data }], guard := none }) (v := ?_) rfl (by kernel_rfl) (by kernel_rfl) (by kernel_rfl) (by kernel_rfl) (fun _ _ _ h => h) (Or.inl ⟨by rfl, ?_⟩) (holds0 ) ?_
                  rotate_left
                  · (intro W; go_simp; try with_reducible rfl)
                  try simp only [Act.put, List.setIfInBounds_toArray, List.set_cons_zero, List.set_cons_succ]
                  refine wpAnyT_pure (i := 3) (oi := { dst := some 101, op := Op.binOp BinOp.lss 3 (Operand.tmp 98) (Operand.tmp 100) 3, type := 4, pos := "law.go:34", after := #[{ on := 0, ground := Ground.data }, { on := 2, ground := Ground.data }], guard := none }) (v := ?_) rfl (by kernel_rfl) (by kernel_rfl) (by kernel_rfl) (by kernel_rfl) (fun _ _ _ h => h) (Or.inl ⟨by rfl, ?_⟩) (holds0 ) ?_
                  rotate_left
                  · (intro W; go_simp; try with_reducible rfl)
                  try simp only [Act.put, List.setIfInBounds_toArray, List.set_cons_zero, List.set_cons_succ]
                  refine wpAnyT_pure (i := 4) (oi := { dst := some 102, op := Op.move (Operand.tmp 101), type := 4, pos := "law.go:34", after := #[{ on := 3, ground := Ground.data }], guard := none }) (v := ?_) rfl (by kernel_rfl) (by kernel_rfl) (by kernel_rfl) (by kernel_rfl) (fun _ _ _ h => h) (Or.inl ⟨by rfl, ?_⟩) (holds0 ) ?_
                  rotate_left
                  · (intro W; go_simp; try with_reducible rfl)
                  try simp only [Act.put, List.setIfInBounds_toArray, List.set_cons_zero, List.set_cons_succ]
                  refine wpAnyT_pure (i := 5) (oi := { dst := some 103, op := Op.move (Operand.tmp 3), type := 24, pos := "law.go:34", after := #[{ on := 4, ground := Ground.guard }], guard := some (4, true) }) (v := undef) rfl (by kernel_rfl) (by kernel_rfl) (by kernel_rfl) (by kernel_rfl) (fun _ _ _ h => h) (Or.inr ⟨by rfl, rfl⟩) (holds0 ) ?_
                  try simp only [Act.put, List.setIfInBounds_toArray, List.set_cons_zero, List.set_cons_succ]
                  refine wpAnyT_pure (i := 6) (oi := { dst := some 104, op := Op.move (Operand.tmp 6), type := 3, pos := "law.go:34", after := #[{ on := 4, ground := Ground.guard }], guard := some (4, true) }) (v := undef) rfl (by kernel_rfl) (by kernel_rfl) (by kernel_rfl) (by kernel_rfl) (fun _ _ _ h => h) (Or.inr ⟨by rfl, rfl⟩) (holds0 ) ?_
                  try simp only [Act.put, List.setIfInBounds_toArray, List.set_cons_zero, List.set_cons_succ]
                  refine wpAnyT_pure (i := 7) (oi := { dst := some 105, op := Op.indexAddr 24 (Operand.tmp 103) (Operand.tmp 104), type := 0, pos := "law.go:34", after := #[{ on := 5, ground := Ground.data }, { on := 6, ground := Ground.data }, { on := 4, ground := Ground.guard }], guard := some (4, true) }) (v := undef) rfl (by kernel_rfl) (by kernel_rfl) (by kernel_rfl) (by kernel_rfl) (fun _ _ _ h => h) (Or.inr ⟨by rfl, rfl⟩) (holds0 ) ?_
                  try simp only [Act.put, List.setIfInBounds_toArray, List.set_cons_zero, List.set_cons_succ]
                  refine wpAnyT_pure (i := 8) (oi := { dst := some 106, op := Op.load 23 (Operand.tmp 105), type := 23, pos := "law.go:34", after := #[{ on := 7, ground := Ground.data }, { on := 4, ground := Ground.guard }], guard := some (4, true) }) (v := undef) rfl (by kernel_rfl) (by kernel_rfl) (by kernel_rfl) (by kernel_rfl) (fun _ _ _ h => h) (Or.inr ⟨by rfl, rfl⟩) (holds0 ) ?_
                  try simp only [Act.put, List.setIfInBounds_toArray, List.set_cons_zero, List.set_cons_succ]
                  refine wpAnyT_pure (i := 9) (oi := { dst := some 107, op := Op.load 23 (Operand.tmp 5), type := 23, pos := "law.go:34", after := #[{ on := 4, ground := Ground.guard }], guard := some (4, true) }) (v := undef) rfl (by kernel_rfl) (by kernel_rfl) (by kernel_rfl) (by kernel_rfl) (fun _ _ _ h => h) (Or.inr ⟨by rfl, rfl⟩) (holds0 ) ?_
                  try simp only [Act.put, List.setIfInBounds_toArray, List.set_cons_zero, List.set_cons_succ]
                  refine wpAnyT_pure (i := 10) (oi := { dst := some 108, op := Op.call { callee := Callee.value (Operand.func 22), args := #[Operand.tmp 106, Operand.tmp 107], argTypes := #[23, 23] }, type := 4, pos := "law.go:34", after := #[{ on := 8, ground := Ground.data }, { on := 9, ground := Ground.data }, { on := 4, ground := Ground.chain }, { on := 4, ground := Ground.guard }], guard := some (4, true) }) (v := undef) rfl (by kernel_rfl) (by kernel_rfl) (by kernel_rfl) (by kernel_rfl) (fun _ _ _ h => h) (Or.inr ⟨by rfl, rfl⟩) (holds0 ) ?_
                  try simp only [Act.put, List.setIfInBounds_toArray, List.set_cons_zero, List.set_cons_succ]
                  refine wpAnyT_pure (i := 11) (oi := { dst := some 109, op := Op.pick (Operand.tmp 102) (Operand.tmp 108) (Operand.const (Value.bool false)), type := 4, pos := "law.go:34", after := #[{ on := 4, ground := Ground.data }, { on := 10, ground := Ground.data }], guard := none }) (v := ?_) rfl (by kernel_rfl) (by kernel_rfl) (by kernel_rfl) (by kernel_rfl) (fun _ _ _ h => h) (Or.inl ⟨by rfl, ?_⟩) (holds0 ) ?_
                  rotate_left
                  · (intro W; go_simp; try with_reducible rfl)
                  try simp only [Act.put, List.setIfInBounds_toArray, List.set_cons_zero, List.set_cons_succ]
                  refine wpAnyT_done (by kernel_rfl) ?_ _
                  go_wp2_with fail
                  refine wp_region_late [] (by kernel_rfl) ?_
                  refine wpAnyT_pure (i := 0) (oi := { dst := some 112, op := Op.move (Operand.tmp 6), type := 3, pos := "law.go:37", after := #[], guard := none }) (v := ?_) rfl (by kernel_rfl) (by kernel_rfl) (by kernel_rfl) (by kernel_rfl) (fun _ _ _ h => h) (Or.inl ⟨by rfl, ?_⟩) (holds0 ) ?_
                  rotate_left
                  · (intro W; go_simp; try with_reducible rfl)
                  try simp only [Act.put, List.setIfInBounds_toArray, List.set_cons_zero, List.set_cons_succ]
                  refine wpAnyT_pure (i := 1) (oi := { dst := some 113, op := Op.move (Operand.tmp 3), type := 24, pos := "law.go:37", after := #[], guard := none }) (v := ?_) rfl (by kernel_rfl) (by kernel_rfl) (by kernel_rfl) (by kernel_rfl) (fun _ _ _ h => h) (Or.inl ⟨by rfl, ?_⟩) (holds0 ) ?_
                  rotate_left
                  · (intro W; go_simp; try with_reducible rfl)
                  try simp only [Act.put, List.setIfInBounds_toArray, List.set_cons_zero, List.set_cons_succ]
                  refine wpAnyT_pure (i := 2) (oi := { dst := some 114, op := Op.call { callee := Callee.builtin Builtin.len, args := #[Operand.tmp 113], argTypes := #[24] }, type := 3, pos := "law.go:37", after := #[{ on := 1, ground := Ground.data }], guard := none }) (v := ?_) rfl (by kernel_rfl) (by kernel_rfl) (by kernel_rfl) (by kernel_rfl) (fun _ _ _ h => h) (Or.inl ⟨by rfl, ?_⟩) (holds0 ) ?_
                  rotate_left
                  · (intro W; go_simp; try with_reducible rfl)
                  try simp only [Act.put, List.setIfInBounds_toArray, List.set_cons_zero, List.set_cons_succ]
                  refine wpAnyT_pure (i := 3) (oi := { dst := some 115, op := Op.binOp BinOp.lss 3 (Operand.tmp 112) (Operand.tmp 114) 3, type := 4, pos := "law.go:37", after := #[{ on := 0, ground := Ground.data }, { on := 2, ground := Ground.data }], guard := none }) (v := ?_) rfl (by kernel_rfl) (by kernel_rfl) (by kernel_rfl) (by kernel_rfl) (fun _ _ _ h => h) (Or.inl ⟨by rfl, ?_⟩) (holds0 ) ?_
                  rotate_left
                  · (intro W; go_simp; try with_reducible rfl)
                  try simp only [Act.put, List.setIfInBounds_toArray, List.set_cons_zero, List.set_cons_succ]
                  refine wpAnyT_pure (i := 4) (oi := { dst := some 116, op := Op.move (Operand.tmp 115), type := 4, pos := "law.go:37", after := #[{ on := 3, ground := Ground.data }], guard := none }) (v := ?_) rfl (by kernel_rfl) (by kernel_rfl) (by kernel_rfl) (by kernel_rfl) (fun _ _ _ h => h) (Or.inl ⟨by rfl, ?_⟩) (holds0 ) ?_
                  rotate_left
                  · (intro W; go_simp; try with_reducible rfl)
                  try simp only [Act.put, List.setIfInBounds_toArray, List.set_cons_zero, List.set_cons_succ]
                  refine wpAnyT_pure (i := 5) (oi := { dst := some 117, op := Op.move (Operand.tmp 3), type := 24, pos := "law.go:37", after := #[{ on := 4, ground := Ground.guard }], guard := some (4, true) }) (v := undef) rfl (by kernel_rfl) (by kernel_rfl) (by kernel_rfl) (by kernel_rfl) (fun _ _ _ h => h) (Or.inr ⟨by rfl, rfl⟩) (holds0 ) ?_
                  try simp only [Act.put, List.setIfInBounds_toArray, List.set_cons_zero, List.set_cons_succ]
                  refine wpAnyT_pure (i := 6) (oi := { dst := some 118, op := Op.move (Operand.tmp 6), type := 3, pos := "law.go:37", after := #[{ on := 4, ground := Ground.guard }], guard := some (4, true) }) (v := undef) rfl (by kernel_rfl) (by kernel_rfl) (by kernel_rfl) (by kernel_rfl) (fun _ _ _ h => h) (Or.inr ⟨by rfl, rfl⟩) (holds0 ) ?_
                  try simp only [Act.put, List.setIfInBounds_toArray, List.set_cons_zero, List.set_cons_succ]
                  refine wpAnyT_pure (i := 7) (oi := { dst := some 119, op := Op.indexAddr 24 (Operand.tmp 117) (Operand.tmp 118), type := 0, pos := "law.go:37", after := #[{ on := 5, ground := Ground.data }, { on := 6, ground := Ground.data }, { on := 4, ground := Ground.guard }], guard := some (4, true) }) (v := undef) rfl (by kernel_rfl) (by kernel_rfl) (by kernel_rfl) (by kernel_rfl) (fun _ _ _ h => h) (Or.inr ⟨by rfl, rfl⟩) (holds0 ) ?_
                  try simp only [Act.put, List.setIfInBounds_toArray, List.set_cons_zero, List.set_cons_succ]
                  refine wpAnyT_pure (i := 8) (oi := { dst := some 120, op := Op.load 23 (Operand.tmp 119), type := 23, pos := "law.go:37", after := #[{ on := 7, ground := Ground.data }, { on := 4, ground := Ground.guard }], guard := some (4, true) }) (v := undef) rfl (by kernel_rfl) (by kernel_rfl) (by kernel_rfl) (by kernel_rfl) (fun _ _ _ h => h) (Or.inr ⟨by rfl, rfl⟩) (holds0 ) ?_
                  try simp only [Act.put, List.setIfInBounds_toArray, List.set_cons_zero, List.set_cons_succ]
                  refine wpAnyT_pure (i := 9) (oi := { dst := some 121, op := Op.load 23 (Operand.tmp 5), type := 23, pos := "law.go:37", after := #[{ on := 4, ground := Ground.guard }], guard := some (4, true) }) (v := undef) rfl (by kernel_rfl) (by kernel_rfl) (by kernel_rfl) (by kernel_rfl) (fun _ _ _ h => h) (Or.inr ⟨by rfl, rfl⟩) (holds0 ) ?_
                  try simp only [Act.put, List.setIfInBounds_toArray, List.set_cons_zero, List.set_cons_succ]
                  refine wpAnyT_pure (i := 10) (oi := { dst := some 122, op := Op.binOp BinOp.eql 23 (Operand.tmp 120) (Operand.tmp 121) 23, type := 4, pos := "law.go:37", after := #[{ on := 8, ground := Ground.data }, { on := 9, ground := Ground.data }, { on := 4, ground := Ground.guard }], guard := some (4, true) }) (v := undef) rfl (by kernel_rfl) (by kernel_rfl) (by kernel_rfl) (by kernel_rfl) (fun _ _ _ h => h) (Or.inr ⟨by rfl, rfl⟩) (holds0 ) ?_
                  try simp only [Act.put, List.setIfInBounds_toArray, List.set_cons_zero, List.set_cons_succ]
                  refine wpAnyT_pure (i := 11) (oi := { dst := some 123, op := Op.pick (Operand.tmp 116) (Operand.tmp 122) (Operand.const (Value.bool false)), type := 4, pos := "law.go:37", after := #[{ on := 4, ground := Ground.data }, { on := 10, ground := Ground.data }], guard := none }) (v := ?_) rfl (by kernel_rfl) (by kernel_rfl) (by kernel_rfl) (by kernel_rfl) (fun _ _ _ h => h) (Or.inl ⟨by rfl, ?_⟩) (holds0 ) ?_
                  rotate_left
                  · (intro W; go_simp; try with_reducible rfl)
                  try simp only [Act.put, List.setIfInBounds_toArray, List.set_cons_zero, List.set_cons_succ]
                  refine wpAnyT_done (by kernel_rfl) ?_ _
                  obtain ⟨wb, hwb⟩ : ∃ wb, wr.drew.drew = wb := ⟨_, rfl⟩
                  have gW0 : D1.grownBy wb none := by subst hwb; exact only_drew (only_drew GK.out)
                  rw [hwb]
                  clear hwb
                  have zW : wb.heap.size = wb.heap.size := rfl
                  have gA := Lib.hid (only_step GD1.out gW0 (fun _ h => .inl h))
                  have VA := Lib.hid (VL.out.keep (only_step gD1 gW0 (fun _ h => .inl h)) (Nat.le_refl _))
                  have sh := slice_hi VA.out k hk
                  obtain ⟨A3, sl, VL3⟩ := slice_lo VA.out k hk
                  have V3 := Lib.hid VL3
                  have lit : Hid ((wb.alloc (.cells #[] 23)).ownsRow wb.heap.size 23 3 (.slice (some ⟨wb.heap.size, 0, none⟩) 0 0) 0 []) := ⟨rfl, .inr ⟨wb.heap.size, 0, #[], rfl, Nat.le_refl _, heap_alloc_new _ _, Nat.le_refl _, Nat.zero_le _, rfl, rfl⟩⟩
                  have sr1 := Lib.hid ((VA.out.keep (only_alloc (only_refl _ _) _) (by have := gD1.size; have := gW0.size; omega)).src (w := (wb.alloc (.cells #[] 23))) k cL hk)
                  have bz1 : wb.heap.size ≤ (wb.alloc (.cells #[] 23)).heap.size := (World.grownBy_alloc _ _ none).size
                  have DW : wb.heap[wo.heap.size]? = some (.cells #[.int .i64 a, .int .i64 b1, .int .i64 c1] 23 (0, 0)) := (gW0.block _ zD (by simp)).trans HDD.out
                  have zDW : wo.heap.size < wb.heap.size := (Array.getElem?_eq_some_iff.1 DW).1
                  have lim1 : w.heap.size ≤ wb.heap.size := gA.out.size
                  clear VL3
                  go_wp2_with (first | (at_builtin; refine app_e rfl _ _ 24 rfl wb.heap.size (.slice A2 (k + 1) c2') (k + 1) (dc (L.take k) ++ dc [(a, b1, c1)]) rfl o2.out (.slice A3 (L.length - k) (cL - k)) (L.length - k) (dc (L.drop k)) rfl sr3.out (by omega) gw2.out.size ?_; intro v3 w3 g3; have o3 := Lib.hid g3.own; obtain ⟨A4, c4', rfl⟩ := own_slice_w g3.own; have gw3 := Lib.hid (only_step gw2.out g3.only (fun q hq => .inr (o2.out.lt q hq).1)); clear g3) | (at_builtin; refine app_e rfl _ _ 24 rfl wb.heap.size (.slice A1 k c1') k (dc (L.take k)) rfl o1'.out (.slice (some ⟨w1.heap.size, 0, none⟩) 1 1) 1 (dc [(a, b1, c1)]) rfl (src_dot w1 (a, b1, c1)) (by omega) bz2 ?_; intro v2 w2 g2; have o2 := Lib.hid g2.own; obtain ⟨A2, c2', rfl⟩ := own_slice_w g2.own; have gw2 := Lib.hid (only_step (only_alloc gw1.out _) g2.only (fun q hq => .inr (o1.out.lt q hq).1)); clear g2; have sr3 := Lib.hid (Src.all (V3.out.keep gw2.out (by have := gD1.size; have := gW0.size; omega)) (L.length - k) (by rw [List.length_drop]))) | (at_builtin; refine app_e rfl _ _ 24 rfl wb.heap.size (.slice (some ⟨wb.heap.size, 0, none⟩) 0 0) 0 [] rfl lit.out (.slice AL k cL) k (dc (L.take k)) rfl sr1.out (by omega) bz1 ?_; intro v1 w1 g1; rw [Nat.zero_add, List.nil_append] at g1; have o1 := Lib.hid g1.own; obtain ⟨A1, c1', rfl⟩ := own_slice_w g1.own; have gw1 := Lib.hid (only_step (only_alloc (only_refl wb none) _) g1.only (fun q hq => by cases hq; exact .inr (Nat.le_refl _))); clear g1; have d1 := (gw1.out.block _ zDW (by simp)).trans DW; have kd0 : w1.cell? ⟨wo.heap.size, 0, none⟩ = some (.int .i64 a) := (by simp [World.cell?, d1]); have kd1 : w1.cell? ⟨wo.heap.size, 1, none⟩ = some (.int .i64 b1) := (by simp [World.cell?, d1]); have kd2 : w1.cell? ⟨wo.heap.size, 2, none⟩ = some (.int .i64 c1) := (by simp [World.cell?, d1]); have o1' := Lib.hid (o1.out.kept (World.grownBy_alloc w1 (.cells #[.int .i64 a, .int .i64 b1, .int .i64 c1] 23) none) (by cases (Value.slice A1 k c1').ownBlock <;> simp)); have bz2 : wb.heap.size ≤ (w1.alloc (.cells #[.int .i64 a, .int .i64 b1, .int .i64 c1] 23)).heap.size := Nat.le_trans gw1.out.size (World.grownBy_alloc _ _ none).size; clear d1))
                  have INS : insD L (a, b1, c1) = L.take k ++ (a, b1, c1) :: L.drop k := (by have e := hkL.out; rw [insD_end L _ (fun y hy => by obtain ⟨j, hj, e2⟩ := List.getElem_of_mem hy; exact HJ.out j y (by omega) (by rw [List.getElem?_eq_getElem hj, e2])), e, List.take_length, List.drop_length])
                  have LI : (insD L (a, b1, c1)).length = k + 1 + (L.length - k) := by rw [INS]; simp; omega
                  have gF := Lib.hid (only_step gA.out gw3.out (fun _ h => .inl h))
                  have gwo := only_step (only_step gD1 gW0 (fun _ h => .inl h)) gw3.out (fun _ h => .inl h)
                  refine ⟨⟨i + 1, insD L (a, b1, c1), A4, c4', by omega, by omega, .inr hkd, by go_num, by rw [LI], HX.out.symm, ?_, HB.out.other gwo (by simp), HBR.out.other gwo (by simp), gF.out⟩, by simp [intOf]; omega⟩
                  show World.ownsRow _ _ _ _ _ _ _
                  rw [LI, INS]
                  have e : dc (L.take k ++ (a, b1, c1) :: L.drop k) = dc (L.take k) ++ dc [(a, b1, c1)] ++ dc (L.drop k) := by rw [dc_append, show (a, b1, c1) :: L.drop k = [(a, b1, c1)] ++ L.drop k from rfl, dc_append, List.append_assoc]
                  rw [e]
                  exact own_less o3.out lim1

            · have bk : (1 + k' == 3) = false := by rw [beq_eq_false_iff_ne]; exact hkd
              obtain rfl : i = 0 := by omega
              go_wp2_with fail
              go_meet
              exact ⟨L, AL, cL, rfl, by show L = _; rw [← HLL.out, dotsF, if_neg hkd, HL.out]; rfl, HO, HB, HBR, HG⟩
          · have v8 : ¬ (i : Int) < 8 := by omega
            obtain rfl : i = 8 := by omega
            go_wp2_with fail
            go_meet
            exact ⟨L, AL, cL, rfl, by show L = _; rw [← HLL.out, dotsF, if_pos (by omega), HL.out]; rfl, HO, HB, HBR, HG⟩
        · have v1 : ¬ (i : Int) < (l.length : Int) := by omega
          obtain rfl : i = l.length := by omega
          go_wp2_with fail
          go_meet
          refine ⟨L, AL, cL, rfl, ?_, HO, HB, HBR, HG⟩
          show L = _
          rw [← HLL.out, dotsF, HL.out, List.take_length]
          by_cases hkd : 1 + k' = 3
          · rw [if_pos hkd]; unfold dotsG; rw [List.take_of_length_le h8]
          · rw [if_neg hkd, List.eq_nil_of_length_eq_zero (show l.length = 0 by omega)]; rfl
    case rest =>
      obtain ⟨L, AL, cL, rfl, HL, HO, HB, HBR, HG⟩ := hcut
      obtain ⟨_, _, _, _, _, q5, _, _, q8, _, q10⟩ := HB.out.cells
      have f10 := HB.out.fr 10
      have f8 := HB.out.fr 8
      by_cases h4 : 1 + k' = 4
      · have b4 : (1 + k' == 4) = true := by rw [beq_iff_eq]; exact h4
        obtain ⟨nm, hnm⟩ : ∃ nm, n % 12 = nm := ⟨_, rfl⟩
        have HNM := Lib.hid hnm
        rw [hnm] at WN12 n12 n12'
        have zz : IntKind.i64.wrap (nm - 6) = nm - 6 := by rw [IntKind.wrap_i64]; omega
        clear hnm
        by_cases hz : nm - 6 = 0
        · have bz : (nm - 6 == 0) = true := by rw [beq_iff_eq]; exact hz
          go_upto_region 24 with (go_at_call 15; refine (WN12.out _).mono ?_; rintro _ _ ⟨rfl, rfl⟩)
          obtain ⟨E, hE⟩ : ∃ Z0, ((wc.setCell ⟨w.heap.size, 10, none⟩ (.slice AL L.length cL)).setCell ⟨w.heap.size, 8, none⟩ (.int .i64 0)).setCell ⟨w.heap.size, 8, none⟩ (.int .i64 6) = Z0 := ⟨_, rfl⟩
          have BE : OpB E w.heap.size d' (1 + e') (1 + s') c' (1 + v') (1 + k') (keyP rk) (textP rt) 6 t' (.slice AL L.length cL) := by subst hE; exact ((HB.out.set10 _).set8 _).set8 _
          have gE : wc.grownBy E (some w.heap.size) := by subst hE; exact set_at (set_at (set_at (only_refl _ _) 10 _) 8 _) 8 _
          have BRE := HBR.out.other gE (by intro e; injection e with e; omega)
          rw [hE]
          clear hE q10 q8 q5 f10 f8
          have H4 := Lib.hid h4
          clear b4 h4
          obtain ⟨c0, c1, c2, c3, c4, c5, c6, c7, c8, c9, c10⟩ := BE.cells
          obtain ⟨r0, r1, r2, r3, r4, r5, r6, r7, r8, r9, r10⟩ := BRE.cells
          have rf0 := BRE.fr 0
          have rf1 := BRE.fr 1
          have rf2 := BRE.fr 2
          have rf3 := BRE.fr 3
          have rf4 := BRE.fr 4
          have rf5 := BRE.fr 5
          have rf6 := BRE.fr 6
          have rf7 := BRE.fr 7
          have rf8 := BRE.fr 8
          have rf9 := BRE.fr 9
          have rf10 := BRE.fr 10
          go_wp2_with fail
          obtain ⟨F, hF⟩ : ∃ Z0, (((((((((((E.setCell ⟨w.heap.size + 1, 0, none⟩ (.int .i64 d')).setCell ⟨w.heap.size + 1, 1, none⟩ (.int .i64 (1 + e'))).setCell ⟨w.heap.size + 1, 2, none⟩ (.int .i64 (1 + s'))).setCell ⟨w.heap.size + 1, 3, none⟩ (.int .i64 c')).setCell ⟨w.heap.size + 1, 4, none⟩ (.int .i64 (1 + v'))).setCell ⟨w.heap.size + 1, 5, none⟩ (.int .i64 (1 + k'))).setCell ⟨w.heap.size + 1, 6, none⟩ (.string (keyP rk))).setCell ⟨w.heap.size + 1, 7, none⟩ (.string (textP rt))).setCell ⟨w.heap.size + 1, 8, none⟩ (.int .i64 6)).setCell ⟨w.heap.size + 1, 9, none⟩ (.int .i64 t')).setCell ⟨w.heap.size + 1, 10, none⟩ (.slice AL L.length cL)) = Z0 := ⟨_, rfl⟩
          rw [hF]
          have BF : OpB F (w.heap.size + 1) d' (1 + e') (1 + s') c' (1 + v') (1 + k') (keyP rk) (textP rt) 6 t' (.slice AL L.length cL) := by subst hF; exact (((((((((((BRE.set0 _).set1 _).set2 _).set3 _).set4 _).set5 _).set6 _).set7 _).set8 _).set9 _).set10 _)
          have gF : E.grownBy F (some (w.heap.size + 1)) := by subst hF; exact (set_at (set_at (set_at (set_at (set_at (set_at (set_at (set_at (set_at (set_at (set_at (only_refl _ _) 0 _) 1 _) 2 _) 3 _) 4 _) 5 _) 6 _) 7 _) 8 _) 9 _) 10 _)
          clear hF
          have zc := HG.out.size
          have gWE := only_step HG.out gE (fun k hk => by cases hk; exact .inr (Nat.le_refl _))
          have gWF := only_step gWE gF (fun k hk => by cases hk; exact .inr (by omega))
          have en : nn = 6 := by rw [← HNN.out]; unfold nG; rw [if_pos H4.out, HNM.out, if_pos hz]
          have eL : LL = L := HL.out.symm
          refine bodyPost_ret (v := .agg #[.int .i64 d', .int .i64 (1 + e'), .int .i64 (1 + s'), .int .i64 c', .int .i64 (1 + v'), .int .i64 (1 + k'), .string (keyP rk), .string (textP rt), .int .i64 6, .int .i64 t', .slice AL L.length cL]) ?_ rfl ?_
          · exact results_cell_row (P := Try.prog) (p := 2) (ty := 26) rfl _ _ (w.heap.size + 1) 26 #[.int .i64 d', .int .i64 (1 + e'), .int .i64 (1 + s'), .int .i64 c', .int .i64 (1 + v'), .int .i64 (1 + k'), .string (keyP rk), .string (textP rt), .int .i64 6, .int .i64 t', .slice AL L.length cL] (0, 0) _ rfl BF Try.underlying26 rfl rfl
          · rw [en, eL]
            refine ⟨AL, cL, rfl, ?_, gWF⟩
            exact (HO.out.kept gE (own_apart HO.out HB.out)).kept gF (own_apart (HO.out.kept gE (own_apart HO.out HB.out)) BRE)
        · have bz : (nm - 6 == 0) = false := by rw [beq_eq_false_iff_ne]; exact hz
          go_upto_region 24 with (go_at_call 15; refine (WN12.out _).mono ?_; rintro _ _ ⟨rfl, rfl⟩)
          obtain ⟨E, hE⟩ : ∃ Z0, (wc.setCell ⟨w.heap.size, 10, none⟩ (.slice AL L.length cL)).setCell ⟨w.heap.size, 8, none⟩ (.int .i64 (nm - 6)) = Z0 := ⟨_, rfl⟩
          have BE : OpB E w.heap.size d' (1 + e') (1 + s') c' (1 + v') (1 + k') (keyP rk) (textP rt) (nm - 6) t' (.slice AL L.length cL) := by subst hE; exact (HB.out.set10 _).set8 _
          have gE : wc.grownBy E (some w.heap.size) := by subst hE; exact set_at (set_at (only_refl _ _) 10 _) 8 _
          have BRE := HBR.out.other gE (by intro e; injection e with e; omega)
          rw [hE]
          clear hE q10 q8 q5 f10 f8
          have H4 := Lib.hid h4
          clear b4 h4
          obtain ⟨c0, c1, c2, c3, c4, c5, c6, c7, c8, c9, c10⟩ := BE.cells
          obtain ⟨r0, r1, r2, r3, r4, r5, r6, r7, r8, r9, r10⟩ := BRE.cells
          have rf0 := BRE.fr 0
          have rf1 := BRE.fr 1
          have rf2 := BRE.fr 2
          have rf3 := BRE.fr 3
          have rf4 := BRE.fr 4
          have rf5 := BRE.fr 5
          have rf6 := BRE.fr 6
          have rf7 := BRE.fr 7
          have rf8 := BRE.fr 8
          have rf9 := BRE.fr 9
          have rf10 := BRE.fr 10
          go_wp2_with fail
          obtain ⟨F, hF⟩ : ∃ Z0, (((((((((((E.setCell ⟨w.heap.size + 1, 0, none⟩ (.int .i64 d')).setCell ⟨w.heap.size + 1, 1, none⟩ (.int .i64 (1 + e'))).setCell ⟨w.heap.size + 1, 2, none⟩ (.int .i64 (1 + s'))).setCell ⟨w.heap.size + 1, 3, none⟩ (.int .i64 c')).setCell ⟨w.heap.size + 1, 4, none⟩ (.int .i64 (1 + v'))).setCell ⟨w.heap.size + 1, 5, none⟩ (.int .i64 (1 + k'))).setCell ⟨w.heap.size + 1, 6, none⟩ (.string (keyP rk))).setCell ⟨w.heap.size + 1, 7, none⟩ (.string (textP rt))).setCell ⟨w.heap.size + 1, 8, none⟩ (.int .i64 (nm - 6))).setCell ⟨w.heap.size + 1, 9, none⟩ (.int .i64 t')).setCell ⟨w.heap.size + 1, 10, none⟩ (.slice AL L.length cL)) = Z0 := ⟨_, rfl⟩
          rw [hF]
          have BF : OpB F (w.heap.size + 1) d' (1 + e') (1 + s') c' (1 + v') (1 + k') (keyP rk) (textP rt) (nm - 6) t' (.slice AL L.length cL) := by subst hF; exact (((((((((((BRE.set0 _).set1 _).set2 _).set3 _).set4 _).set5 _).set6 _).set7 _).set8 _).set9 _).set10 _)
          have gF : E.grownBy F (some (w.heap.size + 1)) := by subst hF; exact (set_at (set_at (set_at (set_at (set_at (set_at (set_at (set_at (set_at (set_at (set_at (only_refl _ _) 0 _) 1 _) 2 _) 3 _) 4 _) 5 _) 6 _) 7 _) 8 _) 9 _) 10 _)
          clear hF
          have zc := HG.out.size
          have gWE := only_step HG.out gE (fun k hk => by cases hk; exact .inr (Nat.le_refl _))
          have gWF := only_step gWE gF (fun k hk => by cases hk; exact .inr (by omega))
          have en : nn = (nm - 6) := by rw [← HNN.out]; unfold nG; rw [if_pos H4.out, HNM.out, if_neg hz]
          have eL : LL = L := HL.out.symm
          refine bodyPost_ret (v := .agg #[.int .i64 d', .int .i64 (1 + e'), .int .i64 (1 + s'), .int .i64 c', .int .i64 (1 + v'), .int .i64 (1 + k'), .string (keyP rk), .string (textP rt), .int .i64 (nm - 6), .int .i64 t', .slice AL L.length cL]) ?_ rfl ?_
          · exact results_cell_row (P := Try.prog) (p := 2) (ty := 26) rfl _ _ (w.heap.size + 1) 26 #[.int .i64 d', .int .i64 (1 + e'), .int .i64 (1 + s'), .int .i64 c', .int .i64 (1 + v'), .int .i64 (1 + k'), .string (keyP rk), .string (textP rt), .int .i64 (nm - 6), .int .i64 t', .slice AL L.length cL] (0, 0) _ rfl BF Try.underlying26 rfl rfl
          · rw [en, eL]
            refine ⟨AL, cL, rfl, ?_, gWF⟩
            exact (HO.out.kept gE (own_apart HO.out HB.out)).kept gF (own_apart (HO.out.kept gE (own_apart HO.out HB.out)) BRE)
      · have b4 : (1 + k' == 4) = false := by rw [beq_eq_false_iff_ne]; exact h4
        by_cases h5 : 1 + k' = 5
        · have b5 : (1 + k' == 5) = true := by rw [beq_iff_eq]; exact h5
          go_upto_region 24 with (go_at_call 15; refine (WN30.out _).mono ?_; rintro _ _ ⟨rfl, rfl⟩)
          obtain ⟨E, hE⟩ : ∃ Z0, (wc.setCell ⟨w.heap.size, 10, none⟩ (.slice AL L.length cL)).setCell ⟨w.heap.size, 8, none⟩ (.int .i64 (n % 30)) = Z0 := ⟨_, rfl⟩
          have BE : OpB E w.heap.size d' (1 + e') (1 + s') c' (1 + v') (1 + k') (keyP rk) (textP rt) (n % 30) t' (.slice AL L.length cL) := by subst hE; exact (HB.out.set10 _).set8 _
          have gE : wc.grownBy E (some w.heap.size) := by subst hE; exact set_at (set_at (only_refl _ _) 10 _) 8 _
          have BRE := HBR.out.other gE (by intro e; injection e with e; omega)
          rw [hE]
          clear hE q10 q8 q5 f10 f8
          have H5 := Lib.hid h5
          clear b5 h5
          obtain ⟨c0, c1, c2, c3, c4, c5, c6, c7, c8, c9, c10⟩ := BE.cells
          obtain ⟨r0, r1, r2, r3, r4, r5, r6, r7, r8, r9, r10⟩ := BRE.cells
          have rf0 := BRE.fr 0
          have rf1 := BRE.fr 1
          have rf2 := BRE.fr 2
          have rf3 := BRE.fr 3
          have rf4 := BRE.fr 4
          have rf5 := BRE.fr 5
          have rf6 := BRE.fr 6
          have rf7 := BRE.fr 7
          have rf8 := BRE.fr 8
          have rf9 := BRE.fr 9
          have rf10 := BRE.fr 10
          go_wp2_with fail
          obtain ⟨F, hF⟩ : ∃ Z0, (((((((((((E.setCell ⟨w.heap.size + 1, 0, none⟩ (.int .i64 d')).setCell ⟨w.heap.size + 1, 1, none⟩ (.int .i64 (1 + e'))).setCell ⟨w.heap.size + 1, 2, none⟩ (.int .i64 (1 + s'))).setCell ⟨w.heap.size + 1, 3, none⟩ (.int .i64 c')).setCell ⟨w.heap.size + 1, 4, none⟩ (.int .i64 (1 + v'))).setCell ⟨w.heap.size + 1, 5, none⟩ (.int .i64 (1 + k'))).setCell ⟨w.heap.size + 1, 6, none⟩ (.string (keyP rk))).setCell ⟨w.heap.size + 1, 7, none⟩ (.string (textP rt))).setCell ⟨w.heap.size + 1, 8, none⟩ (.int .i64 (n % 30))).setCell ⟨w.heap.size + 1, 9, none⟩ (.int .i64 t')).setCell ⟨w.heap.size + 1, 10, none⟩ (.slice AL L.length cL)) = Z0 := ⟨_, rfl⟩
          rw [hF]
          have BF : OpB F (w.heap.size + 1) d' (1 + e') (1 + s') c' (1 + v') (1 + k') (keyP rk) (textP rt) (n % 30) t' (.slice AL L.length cL) := by subst hF; exact (((((((((((BRE.set0 _).set1 _).set2 _).set3 _).set4 _).set5 _).set6 _).set7 _).set8 _).set9 _).set10 _)
          have gF : E.grownBy F (some (w.heap.size + 1)) := by subst hF; exact (set_at (set_at (set_at (set_at (set_at (set_at (set_at (set_at (set_at (set_at (set_at (only_refl _ _) 0 _) 1 _) 2 _) 3 _) 4 _) 5 _) 6 _) 7 _) 8 _) 9 _) 10 _)
          clear hF
          have zc := HG.out.size
          have gWE := only_step HG.out gE (fun k hk => by cases hk; exact .inr (Nat.le_refl _))
          have gWF := only_step gWE gF (fun k hk => by cases hk; exact .inr (by omega))
          have en : nn = (n % 30) := by rw [← HNN.out]; unfold nG; rw [if_neg h4, if_pos H5.out]
          have eL : LL = L := HL.out.symm
          refine bodyPost_ret (v := .agg #[.int .i64 d', .int .i64 (1 + e'), .int .i64 (1 + s'), .int .i64 c', .int .i64 (1 + v'), .int .i64 (1 + k'), .string (keyP rk), .string (textP rt), .int .i64 (n % 30), .int .i64 t', .slice AL L.length cL]) ?_ rfl ?_
          · exact results_cell_row (P := Try.prog) (p := 2) (ty := 26) rfl _ _ (w.heap.size + 1) 26 #[.int .i64 d', .int .i64 (1 + e'), .int .i64 (1 + s'), .int .i64 c', .int .i64 (1 + v'), .int .i64 (1 + k'), .string (keyP rk), .string (textP rt), .int .i64 (n % 30), .int .i64 t', .slice AL L.length cL] (0, 0) _ rfl BF Try.underlying26 rfl rfl
          · rw [en, eL]
            refine ⟨AL, cL, rfl, ?_, gWF⟩
            exact (HO.out.kept gE (own_apart HO.out HB.out)).kept gF (own_apart (HO.out.kept gE (own_apart HO.out HB.out)) BRE)
        · have b5 : (1 + k' == 5) = false := by rw [beq_eq_false_iff_ne]; exact h5
          go_upto_region 24 with fail
          obtain ⟨E, hE⟩ : ∃ Z0, wc.setCell ⟨w.heap.size, 10, none⟩ (.slice AL L.length cL) = Z0 := ⟨_, rfl⟩
          have BE : OpB E w.heap.size d' (1 + e') (1 + s') c' (1 + v') (1 + k') (keyP rk) (textP rt) n t' (.slice AL L.length cL) := by subst hE; exact HB.out.set10 _
          have gE : wc.grownBy E (some w.heap.size) := by subst hE; exact set_at (only_refl _ _) 10 _
          have BRE := HBR.out.other gE (by intro e; injection e with e; omega)
          rw [hE]
          clear hE q10 q8 q5 f10 f8
          obtain ⟨c0, c1, c2, c3, c4, c5, c6, c7, c8, c9, c10⟩ := BE.cells
          obtain ⟨r0, r1, r2, r3, r4, r5, r6, r7, r8, r9, r10⟩ := BRE.cells
          have rf0 := BRE.fr 0
          have rf1 := BRE.fr 1
          have rf2 := BRE.fr 2
          have rf3 := BRE.fr 3
          have rf4 := BRE.fr 4
          have rf5 := BRE.fr 5
          have rf6 := BRE.fr 6
          have rf7 := BRE.fr 7
          have rf8 := BRE.fr 8
          have rf9 := BRE.fr 9
          have rf10 := BRE.fr 10
          go_wp2_with fail
          obtain ⟨F, hF⟩ : ∃ Z0, (((((((((((E.setCell ⟨w.heap.size + 1, 0, none⟩ (.int .i64 d')).setCell ⟨w.heap.size + 1, 1, none⟩ (.int .i64 (1 + e'))).setCell ⟨w.heap.size + 1, 2, none⟩ (.int .i64 (1 + s'))).setCell ⟨w.heap.size + 1, 3, none⟩ (.int .i64 c')).setCell ⟨w.heap.size + 1, 4, none⟩ (.int .i64 (1 + v'))).setCell ⟨w.heap.size + 1, 5, none⟩ (.int .i64 (1 + k'))).setCell ⟨w.heap.size + 1, 6, none⟩ (.string (keyP rk))).setCell ⟨w.heap.size + 1, 7, none⟩ (.string (textP rt))).setCell ⟨w.heap.size + 1, 8, none⟩ (.int .i64 n)).setCell ⟨w.heap.size + 1, 9, none⟩ (.int .i64 t')).setCell ⟨w.heap.size + 1, 10, none⟩ (.slice AL L.length cL)) = Z0 := ⟨_, rfl⟩
          rw [hF]
          have BF : OpB F (w.heap.size + 1) d' (1 + e') (1 + s') c' (1 + v') (1 + k') (keyP rk) (textP rt) n t' (.slice AL L.length cL) := by subst hF; exact (((((((((((BRE.set0 _).set1 _).set2 _).set3 _).set4 _).set5 _).set6 _).set7 _).set8 _).set9 _).set10 _)
          have gF : E.grownBy F (some (w.heap.size + 1)) := by subst hF; exact (set_at (set_at (set_at (set_at (set_at (set_at (set_at (set_at (set_at (set_at (set_at (only_refl _ _) 0 _) 1 _) 2 _) 3 _) 4 _) 5 _) 6 _) 7 _) 8 _) 9 _) 10 _)
          clear hF
          have zc := HG.out.size
          have gWE := only_step HG.out gE (fun k hk => by cases hk; exact .inr (Nat.le_refl _))
          have gWF := only_step gWE gF (fun k hk => by cases hk; exact .inr (by omega))
          have en : nn = n := by rw [← HNN.out]; unfold nG; rw [if_neg h4, if_neg h5]
          have eL : LL = L := HL.out.symm
          refine bodyPost_ret (v := .agg #[.int .i64 d', .int .i64 (1 + e'), .int .i64 (1 + s'), .int .i64 c', .int .i64 (1 + v'), .int .i64 (1 + k'), .string (keyP rk), .string (textP rt), .int .i64 n, .int .i64 t', .slice AL L.length cL]) ?_ rfl ?_
          · exact results_cell_row (P := Try.prog) (p := 2) (ty := 26) rfl _ _ (w.heap.size + 1) 26 #[.int .i64 d', .int .i64 (1 + e'), .int .i64 (1 + s'), .int .i64 c', .int .i64 (1 + v'), .int .i64 (1 + k'), .string (keyP rk), .string (textP rt), .int .i64 n, .int .i64 t', .slice AL L.length cL] (0, 0) _ rfl BF Try.underlying26 rfl rfl
          · rw [en, eL]
            refine ⟨AL, cL, rfl, ?_, gWF⟩
            exact (HO.out.kept gE (own_apart HO.out HB.out)).kept gF (own_apart (HO.out.kept gE (own_apart HO.out HB.out)) BRE)
end Go.Proofs.Ytcmpeohooiehcaa
