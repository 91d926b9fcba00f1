/- The reference's Same. No condition of the program's own. -/
import Derived.Test.YtcmpeohooiehcaaSmr
import Derived.Test.YtcmpeohooiehcaaSn
namespace Go.Proofs.Ytcmpeohooiehcaa
open Go.RowKit Go.Deep Go.ChangeShapes
set_option maxRecDepth 100000 in
set_option maxHeartbeats 4000000 in
theorem rsame_any (d e s coll ver kind n time : Int) (key text : ByteArray) (A : Option Addr) (c : Nat) (l : List Dt) (d' e' s' coll' ver' kind' n' time' : Int) (key' text' : ByteArray) (B : Option Addr) (cb : Nat) (m : List Dt) (r : Bool) (hr : r = true ↔ (d = d' ∧ e = e' ∧ s = s' ∧ coll = coll' ∧ ver = ver' ∧ kind = kind' ∧ key = key' ∧ text = text' ∧ n = n' ∧ time = time' ∧ l = m)) (w : World) (hA : Has w w.heap.size A (dc l)) (hB : Has w w.heap.size B (dc m)) (hl : l.length ≤ 1099511627776) :
    Calls Try.prog 19 #[.agg #[.int .i64 d, .int .i64 e, .int .i64 s, .int .i64 coll, .int .i64 ver, .int .i64 kind, .string key, .string text, .int .i64 n, .int .i64 time, .slice A l.length c], .agg #[.int .i64 d', .int .i64 e', .int .i64 s', .int .i64 coll', .int .i64 ver', .int .i64 kind', .string key', .string text', .int .i64 n', .int .i64 time', .slice B m.length cb]] w fun e' w' => e' = .returned (.bool r) ∧ w.grownBy w' none := by
  have HA := Lib.hid hA
  have HB := Lib.hid hB
  have HR := Lib.hid hr
  have HL := Lib.hid hl
  clear hA hB hr hl
  obtain ⟨w2, hw2⟩ : ∃ Z, (w.alloc (.cells #[.int .i64 d, .int .i64 e, .int .i64 s, .int .i64 coll, .int .i64 ver, .int .i64 kind, .string key, .string text, .int .i64 n, .int .i64 time, .slice A l.length c] 26)).alloc (.cells #[.int .i64 d', .int .i64 e', .int .i64 s', .int .i64 coll', .int .i64 ver', .int .i64 kind', .string key', .string text', .int .i64 n', .int .i64 time', .slice B m.length cb] 26) = Z := ⟨_, rfl⟩
  have B1 : OpB w2 w.heap.size d e s coll ver kind key text n time (.slice A l.length c) := by subst hw2; exact (Below.heap_alloc _ _ _ (by simp)).trans (heap_alloc_new w _)
  have B2 : OpB w2 (w.heap.size + 1) d' e' s' coll' ver' kind' key' text' n' time' (.slice B m.length cb) := by
    subst hw2
    have := heap_alloc_new (w.alloc (.cells #[.int .i64 d, .int .i64 e, .int .i64 s, .int .i64 coll, .int .i64 ver, .int .i64 kind, .string key, .string text, .int .i64 n, .int .i64 time, .slice A l.length c] 26)) (.cells #[.int .i64 d', .int .i64 e', .int .i64 s', .int .i64 coll', .int .i64 ver', .int .i64 kind', .string key', .string text', .int .i64 n', .int .i64 time', .slice B m.length cb] 26)
    rwa [World.size_alloc] at this
  have G : Hid (w.grownBy w2 none) := by subst hw2; exact only_alloc (only_alloc (only_refl _ _) _) _
  obtain ⟨c0, c1, c2, c3, c4, c5, c6, c7, c8, c9, c10⟩ := B1.cells
  obtain ⟨d0, d1, d2, d3, d4, d5, d6, d7, d8, d9, d10⟩ := B2.cells
  clear B1 B2
  go_enter Try.func19, Try.ntmps19
  go_upto_region 1 with fail
  clear hw2
  by_cases h : d = d'
  rotate_left
  · obtain rfl : r = false := by
      cases hq : r with
      | false => rfl
      | true =>
        have := HR.out.1 hq
        obtain ⟨q0, q1, q2, q3, q4, q5, q6, q7, q8, q9, q10⟩ := this
        exact absurd q0 h
    clear HR
    go_wp2_with fail
    go_ret
    exact ⟨rfl, G.out⟩
  subst h
  by_cases h : e = e'
  rotate_left
  · obtain rfl : r = false := by
      cases hq : r with
      | false => rfl
      | true =>
        have := HR.out.1 hq
        obtain ⟨q0, q1, q2, q3, q4, q5, q6, q7, q8, q9, q10⟩ := this
        exact absurd q1 h
    clear HR
    go_wp2_with fail
    go_ret
    exact ⟨rfl, G.out⟩
  subst h
  by_cases h : s = s'
  rotate_left
  · obtain rfl : r = false := by
      cases hq : r with
      | false => rfl
      | true =>
        have := HR.out.1 hq
        obtain ⟨q0, q1, q2, q3, q4, q5, q6, q7, q8, q9, q10⟩ := this
        exact absurd q2 h
    clear HR
    go_wp2_with fail
    go_ret
    exact ⟨rfl, G.out⟩
  subst h
  by_cases h : coll = coll'
  rotate_left
  · obtain rfl : r = false := by
      cases hq : r with
      | false => rfl
      | true =>
        have := HR.out.1 hq
        obtain ⟨q0, q1, q2, q3, q4, q5, q6, q7, q8, q9, q10⟩ := this
        exact absurd q3 h
    clear HR
    go_wp2_with fail
    go_ret
    exact ⟨rfl, G.out⟩
  subst h
  by_cases h : ver = ver'
  rotate_left
  · obtain rfl : r = false := by
      cases hq : r with
      | false => rfl
      | true =>
        have := HR.out.1 hq
        obtain ⟨q0, q1, q2, q3, q4, q5, q6, q7, q8, q9, q10⟩ := this
        exact absurd q4 h
    clear HR
    go_wp2_with fail
    go_ret
    exact ⟨rfl, G.out⟩
  subst h
  by_cases h : kind = kind'
  rotate_left
  · obtain rfl : r = false := by
      cases hq : r with
      | false => rfl
      | true =>
        have := HR.out.1 hq
        obtain ⟨q0, q1, q2, q3, q4, q5, q6, q7, q8, q9, q10⟩ := this
        exact absurd q5 h
    clear HR
    go_wp2_with fail
    go_ret
    exact ⟨rfl, G.out⟩
  subst h
  by_cases h : key = key'
  rotate_left
  · obtain rfl : r = false := by
      cases hq : r with
      | false => rfl
      | true =>
        have := HR.out.1 hq
        obtain ⟨q0, q1, q2, q3, q4, q5, q6, q7, q8, q9, q10⟩ := this
        exact absurd q6 h
    clear HR
    have hb : (key.toList == key'.toList) = false := str_ne h
    go_wp2_with fail
    go_ret
    exact ⟨rfl, G.out⟩
  subst h
  by_cases h : text = text'
  rotate_left
  · obtain rfl : r = false := by
      cases hq : r with
      | false => rfl
      | true =>
        have := HR.out.1 hq
        obtain ⟨q0, q1, q2, q3, q4, q5, q6, q7, q8, q9, q10⟩ := this
        exact absurd q7 h
    clear HR
    have hb : (text.toList == text'.toList) = false := str_ne h
    go_wp2_with fail
    go_ret
    exact ⟨rfl, G.out⟩
  subst h
  by_cases h : n = n'
  rotate_left
  · obtain rfl : r = false := by
      cases hq : r with
      | false => rfl
      | true =>
        have := HR.out.1 hq
        obtain ⟨q0, q1, q2, q3, q4, q5, q6, q7, q8, q9, q10⟩ := this
        exact absurd q8 h
    clear HR
    go_wp2_with fail
    go_ret
    exact ⟨rfl, G.out⟩
  subst h
  by_cases h : time = time'
  rotate_left
  · obtain rfl : r = false := by
      cases hq : r with
      | false => rfl
      | true =>
        have := HR.out.1 hq
        obtain ⟨q0, q1, q2, q3, q4, q5, q6, q7, q8, q9, q10⟩ := this
        exact absurd q9 h
    clear HR
    go_wp2_with fail
    go_ret
    exact ⟨rfl, G.out⟩
  subst h
  have hd : r = decide (l = m) := by
    rw [Bool.eq_iff_iff, HR.out, decide_eq_true_eq]
    exact ⟨fun h => h.2.2.2.2.2.2.2.2.2.2, fun h => ⟨rfl, rfl, rfl, rfl, rfl, rfl, rfl, rfl, rfl, rfl, h⟩⟩
  clear HR
  go_wp2_with (go_at_call 37; go_must (refine (requal_any A B c cb l m _ (HA.out.up G.out) (HB.out.up G.out) HL.out).mono ?_; rintro _ w3 ⟨rfl, g3⟩))
  go_ret
  exact ⟨by rw [hd]; rfl, only_step G.out g3 (fun _ h => .inl h)⟩
end Go.Proofs.Ytcmpeohooiehcaa
