/- plain.DotOrder, by cmp's Compare and Or. No condition of the program's own. -/
import Derived.Test.YtcmpeohooiehcaaOwi
import Derived.Deep.RegionHeld3
namespace Go.Proofs.Ytcmpeohooiehcaa
open Go.RowKit Go.Deep

def cmpP (a b : Int) : Int := if a < b then -1 else if b < a then 1 else 0
theorem nan_no (a : Int) (w : World) : Calls Try.prog 77 #[.int .i64 a] w fun e w' => e = .returned (.bool false) ∧ w = w' := by
  have h : (a != a) = false := by simp
  go_enter Try.func77, Try.ntmps77
  go_wp2_with fail
  go_ret
  exact ⟨rfl, rfl⟩
theorem cmp_any (a b : Int) (w : World) : Calls Try.prog 70 #[.int .i64 a, .int .i64 b] w fun e w' => e = .returned (.int .i64 (cmpP a b)) ∧ w = w' := by
  unfold cmpP
  by_cases h1 : a < b
  · rw [if_pos h1]
    go_enter Try.func70, Try.ntmps70
    go_wp2_with fail
    refine (nan_no a _).mono ?_
    rintro _ w1 ⟨rfl, rfl⟩
    go_wp2_with fail
    refine (nan_no b _).mono ?_
    rintro _ w1 ⟨rfl, rfl⟩
    go_wp2_with fail
    go_ret
    exact ⟨rfl, rfl⟩
  · rw [if_neg h1]
    by_cases h2 : b < a
    · rw [if_pos h2]
      go_enter Try.func70, Try.ntmps70
      go_wp2_with fail
      refine (nan_no a _).mono ?_
      rintro _ w1 ⟨rfl, rfl⟩
      go_wp2_with fail
      refine (nan_no b _).mono ?_
      rintro _ w1 ⟨rfl, rfl⟩
      go_wp2_with fail
      go_ret
      exact ⟨rfl, rfl⟩
    · rw [if_neg h2]
      go_enter Try.func70, Try.ntmps70
      go_wp2_with fail
      refine (nan_no a _).mono ?_
      rintro _ w1 ⟨rfl, rfl⟩
      go_wp2_with fail
      refine (nan_no b _).mono ?_
      rintro _ w1 ⟨rfl, rfl⟩
      go_wp2_with fail
      go_ret
      exact ⟨rfl, rfl⟩

def orP (x y z : Int) : Int := if x ≠ 0 then x else if y ≠ 0 then y else z
theorem or_any (B c : Nat) (x y z : Int) (w : World) (h0 : w.cell? ⟨B, 0, none⟩ = some (.int .i64 x)) (h1 : w.cell? ⟨B, 1, none⟩ = some (.int .i64 y)) (h2 : w.cell? ⟨B, 2, none⟩ = some (.int .i64 z)) :
    Calls Try.prog 69 #[.slice (some ⟨B, 0, none⟩) 3 c] w fun e w' => e = .returned (.int .i64 (orP x y z)) ∧ w = w' := by
  unfold orP
  go_enter Try.func69, Try.ntmps69
  go_wp2_with fail
  go_loopw [8] (fun si wr => ∃ i : Nat, i ≤ 3 ∧ si = .int .i64 i ∧ (1 ≤ i → x = 0) ∧ (2 ≤ i → y = 0) ∧ (3 ≤ i → z = 0) ∧ wr = w) (fun si _ => 3 - (intOf si).toNat)
  case atStart => exact ⟨0, by omega, rfl, by omega, by omega, by omega, rfl⟩
  case round =>
    obtain ⟨i, hi, rfl, hx, hy, hz, rfl⟩ := hrel
    rcases (show i = 0 ∨ i = 1 ∨ i = 2 ∨ i = 3 by omega) with rfl | rfl | rfl | rfl
    · clear hx hy hz
      by_cases e : x = 0
      · have t1 : (x != 0) = false := by simp [e]
        subst e
        go_wp2_with fail
        refine ⟨⟨1, by omega, by go_num, by simp, by omega, by omega, ?_⟩, ?_⟩
        · first | trivial | rfl
        · simp [intOf]
      · have t1 : (x != 0) = true := by simp [e]
        go_wp2_with fail
        go_ret
        exact ⟨by simp, rfl⟩
    · obtain rfl := hx (by omega)
      clear hx hy hz
      by_cases e : y = 0
      · have t1 : (y != 0) = false := by simp [e]
        subst e
        go_wp2_with fail
        refine ⟨⟨2, by omega, by go_num, by simp, by simp, by omega, ?_⟩, ?_⟩
        · first | trivial | rfl
        · simp [intOf]
      · have t1 : (y != 0) = true := by simp [e]
        go_wp2_with fail
        go_ret
        exact ⟨by simp, rfl⟩
    · obtain rfl := hx (by omega)
      obtain rfl := hy (by omega)
      clear hx hy hz
      by_cases e : z = 0
      · have t1 : (z != 0) = false := by simp [e]
        subst e
        go_wp2_with fail
        refine ⟨⟨3, by omega, by go_num, by simp, by simp, by simp, ?_⟩, ?_⟩
        · first | trivial | rfl
        · simp [intOf]
      · have t1 : (z != 0) = true := by simp [e]
        go_wp2_with fail
        go_ret
        exact ⟨by simp, rfl⟩
    · obtain rfl := hx (by omega)
      obtain rfl := hy (by omega)
      obtain rfl := hz (by omega)
      clear hx hy hz
      go_wp2_with fail
      go_ret
      exact ⟨by simp, rfl⟩

theorem cell_new (w : World) (arr : Array Value) (T : TypeId) (j : Nat) (v : Value) (h : arr[j]? = some v) : (w.alloc (.cells arr T)).cell? ⟨w.heap.size, j, none⟩ = some v := by
  unfold World.cell?; rw [heap_alloc_new]; exact h
theorem cell_newd (w : World) (arr : Array Value) (T : TypeId) (j : Nat) (v : Value) (h : arr[j]? = some v) : (w.alloc (.cells arr T)).drew.cell? ⟨w.heap.size, j, none⟩ = some v := cell_new w arr T j v h
def S6 (w : World) (B : Nat) (x1 x2 x3 y1 y2 y3 : Int) (V : World) : Prop :=
  V.cell? ⟨B, 0, none⟩ = some (.int .i64 x1) ∧ V.cell? ⟨B, 1, none⟩ = some (.int .i64 x2) ∧ V.cell? ⟨B, 2, none⟩ = some (.int .i64 x3) ∧
  V.cell? ⟨B + 1, 0, none⟩ = some (.int .i64 y1) ∧ V.cell? ⟨B + 1, 1, none⟩ = some (.int .i64 y2) ∧ V.cell? ⟨B + 1, 2, none⟩ = some (.int .i64 y3) ∧ w.grownBy V none ∧ B + 1 < V.heap.size
theorem S6.alloc {w V : World} {B : Nat} {x1 x2 x3 y1 y2 y3 : Int} (h : S6 w B x1 x2 x3 y1 y2 y3 V) (o : Obj) : S6 w B x1 x2 x3 y1 y2 y3 (V.alloc o) := by
  obtain ⟨h1, h2, h3, h4, h5, h6, h7, h8⟩ := h
  exact ⟨(World.cell?_alloc_lt _ _ _ (by simp; omega)).trans h1, (World.cell?_alloc_lt _ _ _ (by simp; omega)).trans h2, (World.cell?_alloc_lt _ _ _ (by simp; omega)).trans h3,
    (World.cell?_alloc_lt _ _ _ (by simp; omega)).trans h4, (World.cell?_alloc_lt _ _ _ (by simp; omega)).trans h5, (World.cell?_alloc_lt _ _ _ (by simp; omega)).trans h6, only_alloc h7 o,
    by show _ < (V.heap.push o).size; rw [Array.size_push]; omega⟩
theorem S6.drew {w V : World} {B : Nat} {x1 x2 x3 y1 y2 y3 : Int} (h : S6 w B x1 x2 x3 y1 y2 y3 V) : S6 w B x1 x2 x3 y1 y2 y3 V.drew := by
  obtain ⟨h1, h2, h3, h4, h5, h6, h7, h8⟩ := h
  exact ⟨h1, h2, h3, h4, h5, h6, only_drew h7, h8⟩
def ordP (x y : Int × Int × Int) : Int := orP (cmpP x.1 y.1) (cmpP x.2.1 y.2.1) (cmpP x.2.2 y.2.2)
set_option maxRecDepth 100000 in
theorem dord_any (x y : Int × Int × Int) (w : World) :
    Calls Try.prog 60 #[.agg #[.int .i64 x.1, .int .i64 x.2.1, .int .i64 x.2.2], .agg #[.int .i64 y.1, .int .i64 y.2.1, .int .i64 y.2.2]] w fun e w' => e = .returned (.int .i64 (ordP x y)) ∧ w.grownBy w' none := by
  obtain ⟨x1, x2, x3⟩ := x
  obtain ⟨y1, y2, y3⟩ := y
  show Calls Try.prog _ #[.agg #[.int .i64 x1, .int .i64 x2, .int .i64 x3], .agg #[.int .i64 y1, .int .i64 y2, .int .i64 y3]] w _
  go_enter Try.func60, Try.ntmps60
  go_wp2_with fail
  have s0 : S6 w w.heap.size x1 x2 x3 y1 y2 y3 ((w.alloc (.cells #[.int .i64 x1, .int .i64 x2, .int .i64 x3] 23)).alloc (.cells #[.int .i64 y1, .int .i64 y2, .int .i64 y3] 23)) := by
    have hs : (w.alloc (.cells #[.int .i64 x1, .int .i64 x2, .int .i64 x3] 23)).heap.size = w.heap.size + 1 := by show (w.heap.push _).size = _; rw [Array.size_push]
    have o : ∀ j v, (#[Value.int .i64 x1, .int .i64 x2, .int .i64 x3])[j]? = some v → ((w.alloc (.cells #[.int .i64 x1, .int .i64 x2, .int .i64 x3] 23)).alloc (.cells #[.int .i64 y1, .int .i64 y2, .int .i64 y3] 23)).cell? ⟨w.heap.size, j, none⟩ = some v := fun j v h => (World.cell?_alloc_lt _ _ _ (by rw [hs]; simp)).trans (cell_new w _ _ j v h)
    have n : ∀ j v, (#[Value.int .i64 y1, .int .i64 y2, .int .i64 y3])[j]? = some v → ((w.alloc (.cells #[.int .i64 x1, .int .i64 x2, .int .i64 x3] 23)).alloc (.cells #[.int .i64 y1, .int .i64 y2, .int .i64 y3] 23)).cell? ⟨w.heap.size + 1, j, none⟩ = some v := fun j v h => by
      rw [← hs]; exact cell_new _ _ _ j v h
    exact ⟨o 0 _ rfl, o 1 _ rfl, o 2 _ rfl, n 0 _ rfl, n 1 _ rfl, n 2 _ rfl, only_alloc (World.grownBy_alloc _ _ none) _, by show _ < (Array.push _ _).size; rw [Array.size_push, hs]; omega⟩
  have s1 : S6 w w.heap.size x1 x2 x3 y1 y2 y3 (((w.alloc (.cells #[.int .i64 x1, .int .i64 x2, .int .i64 x3] 23)).alloc (.cells #[.int .i64 y1, .int .i64 y2, .int .i64 y3] 23)).drew) := S6.drew s0
  have hs2 : ((w.alloc (.cells #[.int .i64 x1, .int .i64 x2, .int .i64 x3] 23)).alloc (.cells #[.int .i64 y1, .int .i64 y2, .int .i64 y3] 23)).heap.size = w.heap.size + 1 + 1 := by show (Array.push (Array.push _ _) _).size = _; rw [Array.size_push, Array.size_push]
  have ORX : Hid (Calls Try.prog 69 #[.slice (some ⟨w.heap.size + 1 + 1, 0, none⟩) 3 3] (((w.alloc (.cells #[.int .i64 x1, .int .i64 x2, .int .i64 x3] 23)).alloc (.cells #[.int .i64 y1, .int .i64 y2, .int .i64 y3] 23)).alloc (.cells #[.int .i64 (cmpP x1 y1), .int .i64 (cmpP x2 y2), .int .i64 (cmpP x3 y3)] 3)).drew fun e w' => e = .returned (.int .i64 (ordP (x1, x2, x3) (y1, y2, y3))) ∧ (((w.alloc (.cells #[.int .i64 x1, .int .i64 x2, .int .i64 x3] 23)).alloc (.cells #[.int .i64 y1, .int .i64 y2, .int .i64 y3] 23)).alloc (.cells #[.int .i64 (cmpP x1 y1), .int .i64 (cmpP x2 y2), .int .i64 (cmpP x3 y3)] 3)).drew = w') := by
    rw [← hs2]
    exact or_any _ 3 _ _ _ _ (cell_newd _ _ _ _ _ rfl) (cell_newd _ _ _ _ _ rfl) (cell_newd _ _ _ _ _ rfl)
  clear hs2
  go_region_held3 (fun V => V.cell? ⟨w.heap.size, 0, none⟩ = some (.int .i64 x1) ∧ V.cell? ⟨w.heap.size, 1, none⟩ = some (.int .i64 x2) ∧ V.cell? ⟨w.heap.size, 2, none⟩ = some (.int .i64 x3) ∧
      V.cell? ⟨w.heap.size + 1, 0, none⟩ = some (.int .i64 y1) ∧ V.cell? ⟨w.heap.size + 1, 1, none⟩ = some (.int .i64 y2) ∧ V.cell? ⟨w.heap.size + 1, 2, none⟩ = some (.int .i64 y3) ∧ w.grownBy V none ∧ w.heap.size + 1 < V.heap.size)
    (first | exact s1 | exact S6.drew (S6.alloc s0 _)) ((first
    | (go_at_call 70; refine (cmp_any _ _ _).mono ?_; rintro e wa ⟨rfl, rfl⟩)
    | (go_at_call 69; refine ORX.out.mono ?_; rintro e wb ⟨rfl, rfl⟩)))
  go_wp2_with fail
  go_ret
  exact ⟨rfl, (S6.drew (S6.alloc s0 _)).2.2.2.2.2.2.1⟩
def dless (x y : Int × Int × Int) : Prop := x.1 < y.1 ∨ x.1 = y.1 ∧ (x.2.1 < y.2.1 ∨ x.2.1 = y.2.1 ∧ x.2.2 < y.2.2)
theorem ord_less (x y : Int × Int × Int) : 0 ≤ ordP x y ↔ ¬ dless x y := by
  unfold ordP orP cmpP dless
  repeat' split
  all_goals omega
end Go.Proofs.Ytcmpeohooiehcaa
