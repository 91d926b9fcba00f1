/- The law OpsBytes, all inputs. No condition. -/
import Derived.Test.YtcmpeohooiehcaaOb
namespace Go.Proofs.Ytcmpeohooiehcaa
open Go.RowKit Go.Deep Go.ChangeShapes
set_option maxRecDepth 100000 in
set_option maxHeartbeats 2000000 in
theorem ob_many (va0 vb0 : OpV) (A0 B0 C : Option Addr) (ca0 cb0 cc : Nat) (fr : List Int) (w : World) (hfew : fewP va0.key va0.text va0.l = false) :
    Calls Try.prog 4 #[.agg #[.int .i64 va0.d, .int .i64 va0.e, .int .i64 va0.s, .int .i64 va0.coll, .int .i64 va0.ver, .int .i64 va0.kind, .string va0.key, .string va0.text, .int .i64 va0.n, .int .i64 va0.time, .slice A0 va0.l.length ca0], .agg #[.int .i64 vb0.d, .int .i64 vb0.e, .int .i64 vb0.s, .int .i64 vb0.coll, .int .i64 vb0.ver, .int .i64 vb0.kind, .string vb0.key, .string vb0.text, .int .i64 vb0.n, .int .i64 vb0.time, .slice B0 vb0.l.length cb0], .slice C fr.length cc] w fun e' w' => e' = .returned (.bool true) ∧ w.grownBy w' none := by
  obtain ⟨w1, hw1⟩ : ∃ Z, (w.alloc (.cells #[.int .i64 va0.d, .int .i64 va0.e, .int .i64 va0.s, .int .i64 va0.coll, .int .i64 va0.ver, .int .i64 va0.kind, .string va0.key, .string va0.text, .int .i64 va0.n, .int .i64 va0.time, .slice A0 va0.l.length ca0] 26)).alloc (.cells #[.int .i64 vb0.d, .int .i64 vb0.e, .int .i64 vb0.s, .int .i64 vb0.coll, .int .i64 vb0.ver, .int .i64 vb0.kind, .string vb0.key, .string vb0.text, .int .i64 vb0.n, .int .i64 vb0.time, .slice B0 vb0.l.length cb0] 26) = Z := ⟨_, rfl⟩
  have P1 : OpB w1 w.heap.size va0.d va0.e va0.s va0.coll va0.ver va0.kind va0.key va0.text va0.n va0.time (.slice A0 va0.l.length ca0) := by subst hw1; exact (Below.heap_alloc _ _ _ (by simp)).trans (heap_alloc_new w _)
  have P2 : OpB w1 (w.heap.size + 1) vb0.d vb0.e vb0.s vb0.coll vb0.ver vb0.kind vb0.key vb0.text vb0.n vb0.time (.slice B0 vb0.l.length cb0) := by
    subst hw1
    have := heap_alloc_new (w.alloc (.cells #[.int .i64 va0.d, .int .i64 va0.e, .int .i64 va0.s, .int .i64 va0.coll, .int .i64 va0.ver, .int .i64 va0.kind, .string va0.key, .string va0.text, .int .i64 va0.n, .int .i64 va0.time, .slice A0 va0.l.length ca0] 26)) (.cells #[.int .i64 vb0.d, .int .i64 vb0.e, .int .i64 vb0.s, .int .i64 vb0.coll, .int .i64 vb0.ver, .int .i64 vb0.kind, .string vb0.key, .string vb0.text, .int .i64 vb0.n, .int .i64 vb0.time, .slice B0 vb0.l.length cb0] 26)
    rwa [World.size_alloc] at this
  have g1 : w.grownBy w1 none := by subst hw1; exact only_alloc (only_alloc (only_refl _ _) _) _
  go_enter Try.func4, Try.ntmps4
  go_wp2_with fail
  clear hw1
  refine (known_any _).mono ?_
  rintro _ w2 ⟨rfl, gk⟩
  have G2 : w.grownBy w2 none := only_step g1 gk (fun _ h => .inl h)
  have Q21 := P1.other gk (by simp)
  have Q22 := P2.other gk (by simp)
  clear P1 P2 gk g1
  obtain ⟨c0, c1, c2, c3, c4, c5, c6, c7, c8, c9, c10⟩ := Q21.cells
  go_wp2_with fail
  refine (few_any va0.d va0.e va0.s va0.coll va0.ver va0.kind va0.n va0.time va0.key va0.text A0 ca0 va0.l _).mono ?_
  rintro _ w3 ⟨rfl, g3⟩
  rw [hfew]
  have G3 := only_step G2 g3 (fun _ h => .inl h)
  clear c0 c1 c2 c3 c4 c5 c6 c7 c8 c9 c10 Q21 Q22
  go_wp2_with fail
  go_ret
  exact ⟨rfl, G3⟩
set_option maxRecDepth 100000 in
set_option maxHeartbeats 2000000 in
theorem ob_many2 (va0 vb0 : OpV) (A0 B0 C : Option Addr) (ca0 cb0 cc : Nat) (fr : List Int) (w : World) (hfew : fewP va0.key va0.text va0.l = true) (hfew2 : fewP vb0.key vb0.text vb0.l = false) :
    Calls Try.prog 4 #[.agg #[.int .i64 va0.d, .int .i64 va0.e, .int .i64 va0.s, .int .i64 va0.coll, .int .i64 va0.ver, .int .i64 va0.kind, .string va0.key, .string va0.text, .int .i64 va0.n, .int .i64 va0.time, .slice A0 va0.l.length ca0], .agg #[.int .i64 vb0.d, .int .i64 vb0.e, .int .i64 vb0.s, .int .i64 vb0.coll, .int .i64 vb0.ver, .int .i64 vb0.kind, .string vb0.key, .string vb0.text, .int .i64 vb0.n, .int .i64 vb0.time, .slice B0 vb0.l.length cb0], .slice C fr.length cc] w fun e' w' => e' = .returned (.bool true) ∧ w.grownBy w' none := by
  obtain ⟨w1, hw1⟩ : ∃ Z, (w.alloc (.cells #[.int .i64 va0.d, .int .i64 va0.e, .int .i64 va0.s, .int .i64 va0.coll, .int .i64 va0.ver, .int .i64 va0.kind, .string va0.key, .string va0.text, .int .i64 va0.n, .int .i64 va0.time, .slice A0 va0.l.length ca0] 26)).alloc (.cells #[.int .i64 vb0.d, .int .i64 vb0.e, .int .i64 vb0.s, .int .i64 vb0.coll, .int .i64 vb0.ver, .int .i64 vb0.kind, .string vb0.key, .string vb0.text, .int .i64 vb0.n, .int .i64 vb0.time, .slice B0 vb0.l.length cb0] 26) = Z := ⟨_, rfl⟩
  have P1 : OpB w1 w.heap.size va0.d va0.e va0.s va0.coll va0.ver va0.kind va0.key va0.text va0.n va0.time (.slice A0 va0.l.length ca0) := by subst hw1; exact (Below.heap_alloc _ _ _ (by simp)).trans (heap_alloc_new w _)
  have P2 : OpB w1 (w.heap.size + 1) vb0.d vb0.e vb0.s vb0.coll vb0.ver vb0.kind vb0.key vb0.text vb0.n vb0.time (.slice B0 vb0.l.length cb0) := by
    subst hw1
    have := heap_alloc_new (w.alloc (.cells #[.int .i64 va0.d, .int .i64 va0.e, .int .i64 va0.s, .int .i64 va0.coll, .int .i64 va0.ver, .int .i64 va0.kind, .string va0.key, .string va0.text, .int .i64 va0.n, .int .i64 va0.time, .slice A0 va0.l.length ca0] 26)) (.cells #[.int .i64 vb0.d, .int .i64 vb0.e, .int .i64 vb0.s, .int .i64 vb0.coll, .int .i64 vb0.ver, .int .i64 vb0.kind, .string vb0.key, .string vb0.text, .int .i64 vb0.n, .int .i64 vb0.time, .slice B0 vb0.l.length cb0] 26)
    rwa [World.size_alloc] at this
  have g1 : w.grownBy w1 none := by subst hw1; exact only_alloc (only_alloc (only_refl _ _) _) _
  go_enter Try.func4, Try.ntmps4
  go_wp2_with fail
  clear hw1
  refine (known_any _).mono ?_
  rintro _ w2 ⟨rfl, gk⟩
  have G2 : w.grownBy w2 none := only_step g1 gk (fun _ h => .inl h)
  have Q21 := P1.other gk (by simp)
  have Q22 := P2.other gk (by simp)
  clear P1 P2 gk g1
  obtain ⟨c0, c1, c2, c3, c4, c5, c6, c7, c8, c9, c10⟩ := Q21.cells
  go_wp2_with fail
  refine (few_any va0.d va0.e va0.s va0.coll va0.ver va0.kind va0.n va0.time va0.key va0.text A0 ca0 va0.l _).mono ?_
  rintro _ w3 ⟨rfl, g3⟩
  rw [hfew]
  have G3 := only_step G2 g3 (fun _ h => .inl h)
  have Q32 := Q22.other g3 (by simp)
  clear c0 c1 c2 c3 c4 c5 c6 c7 c8 c9 c10 Q21 Q22 G2 g3
  obtain ⟨c0, c1, c2, c3, c4, c5, c6, c7, c8, c9, c10⟩ := Q32.cells
  go_wp2_with fail
  refine (few_any vb0.d vb0.e vb0.s vb0.coll vb0.ver vb0.kind vb0.n vb0.time vb0.key vb0.text B0 cb0 vb0.l _).mono ?_
  rintro _ w4 ⟨rfl, g4⟩
  rw [hfew2]
  have G4 := only_step G3 g4 (fun _ h => .inl h)
  clear c0 c1 c2 c3 c4 c5 c6 c7 c8 c9 c10
  clear hfew hfew2
  go_wp2_with fail
  go_ret
  exact ⟨rfl, G4⟩
set_option maxRecDepth 100000 in
set_option maxHeartbeats 2000000 in
theorem ob_long (va0 vb0 : OpV) (A0 B0 C : Option Addr) (ca0 cb0 cc : Nat) (fr : List Int) (w : World) (hfew : fewP va0.key va0.text va0.l = true) (hfew2 : fewP vb0.key vb0.text vb0.l = true) (hfr : 100 < fr.length) :
    Calls Try.prog 4 #[.agg #[.int .i64 va0.d, .int .i64 va0.e, .int .i64 va0.s, .int .i64 va0.coll, .int .i64 va0.ver, .int .i64 va0.kind, .string va0.key, .string va0.text, .int .i64 va0.n, .int .i64 va0.time, .slice A0 va0.l.length ca0], .agg #[.int .i64 vb0.d, .int .i64 vb0.e, .int .i64 vb0.s, .int .i64 vb0.coll, .int .i64 vb0.ver, .int .i64 vb0.kind, .string vb0.key, .string vb0.text, .int .i64 vb0.n, .int .i64 vb0.time, .slice B0 vb0.l.length cb0], .slice C fr.length cc] w fun e' w' => e' = .returned (.bool true) ∧ w.grownBy w' none := by
  have n100 : (100 : Int) < (fr.length : Int) := by omega
  obtain ⟨w1, hw1⟩ : ∃ Z, (w.alloc (.cells #[.int .i64 va0.d, .int .i64 va0.e, .int .i64 va0.s, .int .i64 va0.coll, .int .i64 va0.ver, .int .i64 va0.kind, .string va0.key, .string va0.text, .int .i64 va0.n, .int .i64 va0.time, .slice A0 va0.l.length ca0] 26)).alloc (.cells #[.int .i64 vb0.d, .int .i64 vb0.e, .int .i64 vb0.s, .int .i64 vb0.coll, .int .i64 vb0.ver, .int .i64 vb0.kind, .string vb0.key, .string vb0.text, .int .i64 vb0.n, .int .i64 vb0.time, .slice B0 vb0.l.length cb0] 26) = Z := ⟨_, rfl⟩
  have P1 : OpB w1 w.heap.size va0.d va0.e va0.s va0.coll va0.ver va0.kind va0.key va0.text va0.n va0.time (.slice A0 va0.l.length ca0) := by subst hw1; exact (Below.heap_alloc _ _ _ (by simp)).trans (heap_alloc_new w _)
  have P2 : OpB w1 (w.heap.size + 1) vb0.d vb0.e vb0.s vb0.coll vb0.ver vb0.kind vb0.key vb0.text vb0.n vb0.time (.slice B0 vb0.l.length cb0) := by
    subst hw1
    have := heap_alloc_new (w.alloc (.cells #[.int .i64 va0.d, .int .i64 va0.e, .int .i64 va0.s, .int .i64 va0.coll, .int .i64 va0.ver, .int .i64 va0.kind, .string va0.key, .string va0.text, .int .i64 va0.n, .int .i64 va0.time, .slice A0 va0.l.length ca0] 26)) (.cells #[.int .i64 vb0.d, .int .i64 vb0.e, .int .i64 vb0.s, .int .i64 vb0.coll, .int .i64 vb0.ver, .int .i64 vb0.kind, .string vb0.key, .string vb0.text, .int .i64 vb0.n, .int .i64 vb0.time, .slice B0 vb0.l.length cb0] 26)
    rwa [World.size_alloc] at this
  have g1 : w.grownBy w1 none := by subst hw1; exact only_alloc (only_alloc (only_refl _ _) _) _
  go_enter Try.func4, Try.ntmps4
  go_wp2_with fail
  clear hw1
  refine (known_any _).mono ?_
  rintro _ w2 ⟨rfl, gk⟩
  have G2 : w.grownBy w2 none := only_step g1 gk (fun _ h => .inl h)
  have Q21 := P1.other gk (by simp)
  have Q22 := P2.other gk (by simp)
  clear P1 P2 gk g1
  obtain ⟨c0, c1, c2, c3, c4, c5, c6, c7, c8, c9, c10⟩ := Q21.cells
  go_wp2_with fail
  refine (few_any va0.d va0.e va0.s va0.coll va0.ver va0.kind va0.n va0.time va0.key va0.text A0 ca0 va0.l _).mono ?_
  rintro _ w3 ⟨rfl, g3⟩
  rw [hfew]
  have G3 := only_step G2 g3 (fun _ h => .inl h)
  have Q32 := Q22.other g3 (by simp)
  clear c0 c1 c2 c3 c4 c5 c6 c7 c8 c9 c10 Q21 Q22 G2 g3
  obtain ⟨c0, c1, c2, c3, c4, c5, c6, c7, c8, c9, c10⟩ := Q32.cells
  go_wp2_with fail
  refine (few_any vb0.d vb0.e vb0.s vb0.coll vb0.ver vb0.kind vb0.n vb0.time vb0.key vb0.text B0 cb0 vb0.l _).mono ?_
  rintro _ w4 ⟨rfl, g4⟩
  rw [hfew2]
  have G4 := only_step G3 g4 (fun _ h => .inl h)
  clear c0 c1 c2 c3 c4 c5 c6 c7 c8 c9 c10
  clear hfew hfew2 hfr
  go_wp2_with fail
  go_ret
  exact ⟨rfl, G4⟩
theorem few_fw (d e s coll ver kind n time : Int) (key text : ByteArray) (l : List Dt) (h : I64 d ∧ I64 e ∧ I64 s ∧ I64 coll ∧ I64 ver ∧ I64 kind ∧ I64 n ∧ I64 time) (hd : ∀ p ∈ l, I64 p.1 ∧ I64 p.2.1 ∧ I64 p.2.2) (hf : fewP key text l = true) : Fw ⟨d, e, s, coll, ver, kind, n, time, key, text, l⟩ := by
  have hf' : key.size ≤ 60 ∧ text.size ≤ 60 ∧ l.length ≤ 12 := by
    unfold fewP at hf
    simpa using hf
  refine ⟨⟨⟨h.1, h.2.1, h.2.2.1⟩, fun m hm => ?_, h.2.2.2.2.2.2.1, by dsimp only; omega, by dsimp only; omega, hd, by dsimp only; omega⟩, hf'.1, hf'.2.1, hf'.2.2⟩
  simp only [List.mem_cons, List.not_mem_nil, or_false] at hm
  rcases hm with rfl | rfl | rfl | rfl
  · exact h.2.2.2.1
  · exact h.2.2.2.2.1
  · exact h.2.2.2.2.2.1
  · exact h.2.2.2.2.2.2.2
theorem opsBytes_walk (d0 e0 s0 coll0 ver0 kind0 n0 time0 : Int) (key0 text0 : ByteArray) (A0 : Option Addr) (c0 : Nat) (l0 : List Dt) (d1 e1 s1 coll1 ver1 kind1 n1 time1 : Int) (key1 text1 : ByteArray) (A1 : Option Addr) (c1 : Nat) (l1 : List Dt) (C : Option Addr) (cc : Nat) (fr : List Int) (w : World) (hi0 : I64 d0 ∧ I64 e0 ∧ I64 s0 ∧ I64 coll0 ∧ I64 ver0 ∧ I64 kind0 ∧ I64 n0 ∧ I64 time0) (hA0 : Has w w.heap.size A0 (dc l0)) (hd0 : ∀ p ∈ l0, I64 p.1 ∧ I64 p.2.1 ∧ I64 p.2.2) (hc0 : l0.length ≤ c0) (hi1 : I64 d1 ∧ I64 e1 ∧ I64 s1 ∧ I64 coll1 ∧ I64 ver1 ∧ I64 kind1 ∧ I64 n1 ∧ I64 time1) (hA1 : Has w w.heap.size A1 (dc l1)) (hd1 : ∀ p ∈ l1, I64 p.1 ∧ I64 p.2.1 ∧ I64 p.2.2) (hc1 : l1.length ≤ c1) (hC : Has w w.heap.size C (bs fr)) (hcc : fr.length ≤ cc) :
    Calls Try.prog 4 #[.agg #[.int .i64 d0, .int .i64 e0, .int .i64 s0, .int .i64 coll0, .int .i64 ver0, .int .i64 kind0, .string key0, .string text0, .int .i64 n0, .int .i64 time0, .slice A0 l0.length c0], .agg #[.int .i64 d1, .int .i64 e1, .int .i64 s1, .int .i64 coll1, .int .i64 ver1, .int .i64 kind1, .string key1, .string text1, .int .i64 n1, .int .i64 time1, .slice A1 l1.length c1], .slice C fr.length cc] w fun e' w' => e' = .returned (.bool true) ∧ w.grownBy w' none := by
  cases h0 : fewP key0 text0 l0 with
  | false => exact ob_many ⟨d0, e0, s0, coll0, ver0, kind0, n0, time0, key0, text0, l0⟩ ⟨d1, e1, s1, coll1, ver1, kind1, n1, time1, key1, text1, l1⟩ A0 A1 C c0 c1 cc fr w h0
  | true =>
    cases h1 : fewP key1 text1 l1 with
    | false => exact ob_many2 ⟨d0, e0, s0, coll0, ver0, kind0, n0, time0, key0, text0, l0⟩ ⟨d1, e1, s1, coll1, ver1, kind1, n1, time1, key1, text1, l1⟩ A0 A1 C c0 c1 cc fr w h0 h1
    | true =>
      by_cases hf : 100 < fr.length
      · exact ob_long ⟨d0, e0, s0, coll0, ver0, kind0, n0, time0, key0, text0, l0⟩ ⟨d1, e1, s1, coll1, ver1, kind1, n1, time1, key1, text1, l1⟩ A0 A1 C c0 c1 cc fr w h0 h1 hf
      · exact ob_loop ⟨d0, e0, s0, coll0, ver0, kind0, n0, time0, key0, text0, l0⟩ ⟨d1, e1, s1, coll1, ver1, kind1, n1, time1, key1, text1, l1⟩ A0 A1 C c0 c1 cc fr w hA0 hA1 hC hcc (few_fw _ _ _ _ _ _ _ _ _ _ _ hi0 hd0 h0) (few_fw _ _ _ _ _ _ _ _ _ _ _ hi1 hd1 h1) (by omega) hc0 hc1 h0 h1
end Go.Proofs.Ytcmpeohooiehcaa
