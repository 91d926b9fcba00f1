/- vector.order, by cmp's Compare and Or; rows of entries as cells. No condition of the program's own. -/
import Derived.Test.YtlanldjpafkckaaVp
import Derived.Test.YtlanldjpafkckaaWide
import Derived.WalkKit
import Derived.Lib.Hide
import Derived.Deep.RegionHeld3
import Derived.Deep.QuietTactic
import Derived.BigQuiet
namespace Go.Proofs.Ytlanldjpafkckaa
open Go.RowKit Go.Deep

def cmpP (a b : Int) : Int := if a < b then -1 else if b < a then 1 else 0
theorem nan_no (a : Int) (w : World) : Calls Try.prog 36 #[.int .i64 a] w fun e w' => e = .returned (.bool false) ∧ w = w' := by
  have h : (a != a) = false := by simp
  go_enter Try.func36, Try.ntmps36
  go_wp2_with fail
  go_ret
  exact ⟨rfl, rfl⟩
theorem cmp_any (a b : Int) (w : World) : Calls Try.prog 34 #[.int .i64 a, .int .i64 b] w fun e w' => e = .returned (.int .i64 (cmpP a b)) ∧ w = w' := by
  unfold cmpP
  by_cases h1 : a < b
  · rw [if_pos h1]
    go_enter Try.func34, Try.ntmps34
    go_wp2_with fail
    refine (nan_no a _).mono ?_
    rintro _ w1 ⟨rfl, rfl⟩
    go_wp2_with fail
    refine (nan_no b _).mono ?_
    rintro _ w1 ⟨rfl, rfl⟩
    go_wp2_with fail
    go_ret
    exact ⟨rfl, rfl⟩
  · rw [if_neg h1]
    by_cases h2 : b < a
    · rw [if_pos h2]
      go_enter Try.func34, Try.ntmps34
      go_wp2_with fail
      refine (nan_no a _).mono ?_
      rintro _ w1 ⟨rfl, rfl⟩
      go_wp2_with fail
      refine (nan_no b _).mono ?_
      rintro _ w1 ⟨rfl, rfl⟩
      go_wp2_with fail
      go_ret
      exact ⟨rfl, rfl⟩
    · rw [if_neg h2]
      go_enter Try.func34, Try.ntmps34
      go_wp2_with fail
      refine (nan_no a _).mono ?_
      rintro _ w1 ⟨rfl, rfl⟩
      go_wp2_with fail
      refine (nan_no b _).mono ?_
      rintro _ w1 ⟨rfl, rfl⟩
      go_wp2_with fail
      go_ret
      exact ⟨rfl, rfl⟩


def or2 (x y : Int) : Int := if x ≠ 0 then x else y
set_option maxHeartbeats 1000000 in
theorem or2_any (B c : Nat) (x y : Int) (w : World) (h0 : w.cell? ⟨B, 0, none⟩ = some (.int .i64 x)) (h1 : w.cell? ⟨B, 1, none⟩ = some (.int .i64 y)) :
    Calls Try.prog 33 #[.slice (some ⟨B, 0, none⟩) 2 c] w fun e w' => e = .returned (.int .i64 (or2 x y)) ∧ w = w' := by
  unfold or2
  go_enter Try.func33, Try.ntmps33
  go_wp2_with fail
  go_loopw [8] (fun si wr => ∃ i : Nat, i ≤ 2 ∧ si = .int .i64 i ∧ (1 ≤ i → x = 0) ∧ (2 ≤ i → y = 0) ∧ wr = w) (fun si _ => 2 - (intOf si).toNat)
  case atStart => exact ⟨0, by omega, rfl, by omega, by omega, rfl⟩
  case round =>
    obtain ⟨i, hi, rfl, hx, hy, rfl⟩ := hrel
    rcases (show i = 0 ∨ i = 1 ∨ i = 2 by omega) with rfl | rfl | rfl
    · clear hx hy
      by_cases e : x = 0
      · have t1 : (x != 0) = false := by simp [e]
        subst e
        go_wp2_with fail
        refine ⟨⟨1, by omega, by go_num, by simp, by omega, ?_⟩, ?_⟩
        · first | trivial | rfl
        · simp [intOf]
      · have t1 : (x != 0) = true := by simp [e]
        go_wp2_with fail
        go_ret
        exact ⟨by simp, rfl⟩
    · obtain rfl := hx (by omega)
      clear hx hy
      by_cases e : y = 0
      · have t1 : (y != 0) = false := by simp [e]
        subst e
        go_wp2_with fail
        refine ⟨⟨2, by omega, by go_num, by simp, by simp, ?_⟩, ?_⟩
        · first | trivial | rfl
        · simp [intOf]
      · have t1 : (y != 0) = true := by simp [e]
        go_wp2_with fail
        go_ret
        exact ⟨by simp, rfl⟩
    · obtain rfl := hx (by omega)
      obtain rfl := hy (by omega)
      clear hx hy
      go_wp2_with fail
      go_ret
      exact ⟨by simp, rfl⟩

theorem cell_new (w : World) (arr : Array Value) (T : TypeId) (j : Nat) (v : Value) (h : arr[j]? = some v) : (w.alloc (.cells arr T)).cell? ⟨w.heap.size, j, none⟩ = some v := by
  unfold World.cell?; rw [heap_alloc_new]; exact h
theorem cell_newd (w : World) (arr : Array Value) (T : TypeId) (j : Nat) (v : Value) (h : arr[j]? = some v) : (w.alloc (.cells arr T)).drew.cell? ⟨w.heap.size, j, none⟩ = some v := cell_new w arr T j v h
def S6 (w : World) (B : Nat) (x1 x2 x3 y1 y2 y3 : Int) (V : World) : Prop :=
  V.cell? ⟨B, 0, none⟩ = some (.int .i64 x1) ∧ V.cell? ⟨B, 1, none⟩ = some (.int .i64 x2) ∧ V.cell? ⟨B, 2, none⟩ = some (.int .i64 x3) ∧
  V.cell? ⟨B + 1, 0, none⟩ = some (.int .i64 y1) ∧ V.cell? ⟨B + 1, 1, none⟩ = some (.int .i64 y2) ∧ V.cell? ⟨B + 1, 2, none⟩ = some (.int .i64 y3) ∧ w.grownBy V none ∧ B + 1 < V.heap.size
theorem S6.alloc {w V : World} {B : Nat} {x1 x2 x3 y1 y2 y3 : Int} (h : S6 w B x1 x2 x3 y1 y2 y3 V) (o : Obj) : S6 w B x1 x2 x3 y1 y2 y3 (V.alloc o) := by
  obtain ⟨h1, h2, h3, h4, h5, h6, h7, h8⟩ := h
  exact ⟨(World.cell?_alloc_lt _ _ _ (by simp; omega)).trans h1, (World.cell?_alloc_lt _ _ _ (by simp; omega)).trans h2, (World.cell?_alloc_lt _ _ _ (by simp; omega)).trans h3,
    (World.cell?_alloc_lt _ _ _ (by simp; omega)).trans h4, (World.cell?_alloc_lt _ _ _ (by simp; omega)).trans h5, (World.cell?_alloc_lt _ _ _ (by simp; omega)).trans h6, only_alloc h7 o,
    by show _ < (V.heap.push o).size; rw [Array.size_push]; omega⟩
theorem S6.drew {w V : World} {B : Nat} {x1 x2 x3 y1 y2 y3 : Int} (h : S6 w B x1 x2 x3 y1 y2 y3 V) : S6 w B x1 x2 x3 y1 y2 y3 V.drew := by
  obtain ⟨h1, h2, h3, h4, h5, h6, h7, h8⟩ := h
  exact ⟨h1, h2, h3, h4, h5, h6, only_drew h7, h8⟩

def ordP (x y : Int × Int × Int) : Int := or2 (cmpP x.1 y.1) (cmpP x.2.1 y.2.1)
set_option maxRecDepth 100000 in
theorem ord_any (x y : Int × Int × Int) (w : World) :
    Calls Try.prog 27 #[.agg #[.int .i64 x.1, .int .i64 x.2.1, .int .i64 x.2.2], .agg #[.int .i64 y.1, .int .i64 y.2.1, .int .i64 y.2.2]] w fun e w' => e = .returned (.int .i64 (ordP x y)) ∧ w.grownBy w' none := by
  obtain ⟨x1, x2, x3⟩ := x
  obtain ⟨y1, y2, y3⟩ := y
  show Calls Try.prog _ #[.agg #[.int .i64 x1, .int .i64 x2, .int .i64 x3], .agg #[.int .i64 y1, .int .i64 y2, .int .i64 y3]] w _
  go_enter Try.func27, Try.ntmps27
  go_wp2_with fail
  have s0 : S6 w w.heap.size x1 x2 x3 y1 y2 y3 ((w.alloc (.cells #[.int .i64 x1, .int .i64 x2, .int .i64 x3] 40)).alloc (.cells #[.int .i64 y1, .int .i64 y2, .int .i64 y3] 40)) := by
    have hs : (w.alloc (.cells #[.int .i64 x1, .int .i64 x2, .int .i64 x3] 40)).heap.size = w.heap.size + 1 := by show (w.heap.push _).size = _; rw [Array.size_push]
    have o : ∀ j v, (#[Value.int .i64 x1, .int .i64 x2, .int .i64 x3])[j]? = some v → ((w.alloc (.cells #[.int .i64 x1, .int .i64 x2, .int .i64 x3] 40)).alloc (.cells #[.int .i64 y1, .int .i64 y2, .int .i64 y3] 40)).cell? ⟨w.heap.size, j, none⟩ = some v := fun j v h => (World.cell?_alloc_lt _ _ _ (by rw [hs]; simp)).trans (cell_new w _ _ j v h)
    have n : ∀ j v, (#[Value.int .i64 y1, .int .i64 y2, .int .i64 y3])[j]? = some v → ((w.alloc (.cells #[.int .i64 x1, .int .i64 x2, .int .i64 x3] 40)).alloc (.cells #[.int .i64 y1, .int .i64 y2, .int .i64 y3] 40)).cell? ⟨w.heap.size + 1, j, none⟩ = some v := fun j v h => by
      rw [← hs]; exact cell_new _ _ _ j v h
    exact ⟨o 0 _ rfl, o 1 _ rfl, o 2 _ rfl, n 0 _ rfl, n 1 _ rfl, n 2 _ rfl, only_alloc (World.grownBy_alloc _ _ none) _, by show _ < (Array.push _ _).size; rw [Array.size_push, hs]; omega⟩
  have s1 := S6.drew s0
  have hs2 : ((w.alloc (.cells #[.int .i64 x1, .int .i64 x2, .int .i64 x3] 40)).alloc (.cells #[.int .i64 y1, .int .i64 y2, .int .i64 y3] 40)).heap.size = w.heap.size + 1 + 1 := by show (Array.push (Array.push _ _) _).size = _; rw [Array.size_push, Array.size_push]
  have ORX : Hid (Calls Try.prog 33 #[.slice (some ⟨w.heap.size + 1 + 1, 0, none⟩) 2 2] (((w.alloc (.cells #[.int .i64 x1, .int .i64 x2, .int .i64 x3] 40)).alloc (.cells #[.int .i64 y1, .int .i64 y2, .int .i64 y3] 40)).alloc (.cells #[.int .i64 (cmpP x1 y1), .int .i64 (cmpP x2 y2)] 3)).drew fun e w' => e = .returned (.int .i64 (ordP (x1, x2, x3) (y1, y2, y3))) ∧ (((w.alloc (.cells #[.int .i64 x1, .int .i64 x2, .int .i64 x3] 40)).alloc (.cells #[.int .i64 y1, .int .i64 y2, .int .i64 y3] 40)).alloc (.cells #[.int .i64 (cmpP x1 y1), .int .i64 (cmpP x2 y2)] 3)).drew = w') := by
    rw [← hs2]
    exact or2_any _ 2 _ _ _ (cell_newd _ _ _ _ _ rfl) (cell_newd _ _ _ _ _ rfl)
  clear hs2
  go_region_held3 (fun V => V.cell? ⟨w.heap.size, 0, none⟩ = some (.int .i64 x1) ∧ V.cell? ⟨w.heap.size, 1, none⟩ = some (.int .i64 x2) ∧ V.cell? ⟨w.heap.size, 2, none⟩ = some (.int .i64 x3) ∧
      V.cell? ⟨w.heap.size + 1, 0, none⟩ = some (.int .i64 y1) ∧ V.cell? ⟨w.heap.size + 1, 1, none⟩ = some (.int .i64 y2) ∧ V.cell? ⟨w.heap.size + 1, 2, none⟩ = some (.int .i64 y3) ∧ w.grownBy V none ∧ w.heap.size + 1 < V.heap.size)
    (first | exact s1 | exact S6.drew (S6.alloc s0 _)) ((first
    | (go_at_call 34; refine (cmp_any _ _ _).mono ?_; rintro e wa ⟨rfl, rfl⟩)
    | (go_at_call 33; refine ORX.out.mono ?_; rintro e wb ⟨rfl, rfl⟩)))
  go_wp2_with fail
  go_ret
  exact ⟨rfl, (S6.drew (S6.alloc s0 _)).2.2.2.2.2.2.1⟩
theorem ord_neg (x y : Int × Int × Int) : ordP x y < 0 ↔ klt x y := by
  unfold ordP or2 cmpP klt
  repeat' split
  all_goals omega
theorem ord_zero (x y : Int × Int × Int) : ordP x y = 0 ↔ same2 x y := by
  unfold ordP or2 cmpP same2
  repeat' split
  all_goals omega
def dc (l : List (Int × Int × Int)) : List Value := l.flatMap fun p => [.int .i64 p.1, .int .i64 p.2.1, .int .i64 p.2.2]
theorem dc_len (l : List (Int × Int × Int)) : (dc l).length = l.length * 3 := by
  induction l with
  | nil => rfl
  | cons p r ih => show (_ :: _ :: _ :: dc r).length = _; simp only [List.length_cons, ih]; omega
theorem dc_append (l m : List (Int × Int × Int)) : dc (l ++ m) = dc l ++ dc m := by simp [dc]
theorem dc_one (l : List (Int × Int × Int)) : ∀ u ∈ dc l, u.oneCell' = true := fun u hu => by
  obtain ⟨p, _, hp⟩ := List.mem_flatMap.1 hu
  simp at hp
  rcases hp with rfl | rfl | rfl <;> rfl
theorem Try.info_entry : (Try.prog.info? 40).map (fun i => (i.zero, i.size, i.bytes)) = some (some (.agg #[.int .i64 0, .int .i64 0, .int .i64 0]), 3, 24) := by kernel_rfl
theorem dc_at (l : List (Int × Int × Int)) : ∀ (i : Nat) (x : Int × Int × Int), l[i]? = some x → (dc l)[i * 3]? = some (.int .i64 x.1) ∧ (dc l)[i * 3 + 1]? = some (.int .i64 x.2.1) ∧ (dc l)[i * 3 + 2]? = some (.int .i64 x.2.2) := by
  induction l with
  | nil => intro i x h; simp at h
  | cons p r ih =>
    intro i x h
    have e : dc (p :: r) = .int .i64 p.1 :: .int .i64 p.2.1 :: .int .i64 p.2.2 :: dc r := rfl
    cases i with
    | zero => simp at h; subst h; exact ⟨rfl, rfl, rfl⟩
    | succ k =>
      have := ih k x (by simpa using h)
      rw [e, show (k + 1) * 3 = k * 3 + 1 + 1 + 1 by omega, show k * 3 + 1 + 1 + 1 + 2 = k * 3 + 2 + 1 + 1 + 1 by omega]
      simpa using this
/-- Where a row of dots stands. -/
theorem Has.dot {w : World} {lim : Nat} {A : Option Addr} {l : List (Int × Int × Int)} (h : Has w lim A (dc l)) {i : Nat} {x : Int × Int × Int} (hx : l[i]? = some x) :
    ∃ b off, A = some ⟨b, off, none⟩ ∧ b < lim ∧ w.cell? ⟨b, off + i * 3, none⟩ = some (.int .i64 x.1) ∧ w.cell? ⟨b, off + i * 3 + 1, none⟩ = some (.int .i64 x.2.1) ∧ w.cell? ⟨b, off + i * 3 + 2, none⟩ = some (.int .i64 x.2.2) := by
  have h2 := dc_at l i x hx
  rcases h with h0 | ⟨b, off, hA, hb, hc⟩
  · rw [h0] at h2; simp at h2
  · exact ⟨b, off, hA, hb, hc _ _ h2.1, by rw [Nat.add_assoc]; exact hc _ _ h2.2.1, by rw [Nat.add_assoc]; exact hc _ _ h2.2.2⟩

theorem own_slice_w {w : World} {base e s n : Nat} {v : Value} {xs : List Value} (h : w.ownsRow base e s v n xs) : ∃ A c, v = .slice A n c := by
  rcases h.2 with ⟨hv, h0⟩ | ⟨g, cap, _, hv, _⟩
  · exact ⟨none, 0, by rw [hv, h0]⟩
  · exact ⟨_, cap, hv⟩
theorem own_form_w {w : World} {base e s n c : Nat} {A : Option Addr} {xs : List Value} (h : w.ownsRow base e s (.slice A n c) n xs) (hn : 0 < n) : ∃ g, A = some ⟨g, 0, none⟩ ∧ base ≤ g ∧ g < w.heap.size ∧ n ≤ c ∧ ∀ j u, xs[j]? = some u → w.cell? ⟨g, j, none⟩ = some u := by
  have hc := fun g => h.cells (g := g)
  rcases h.2 with ⟨_, h0⟩ | ⟨g, cap, cur, hv, hb, hg, h1, h2, _⟩
  · omega
  · injection hv with e1 e2 e3
    refine ⟨g, e1, hb, (Array.getElem?_eq_some_iff.1 hg).1, by omega, fun j u hu => ?_⟩
    have := hc g (by rw [e1]; rfl) j u hu
    rw [Addr.add_lit, Nat.zero_add] at this
    exact this
theorem cut_later {G T : Prop} (main : (Unit → T) → G) (pf : T) : G := main fun _ => pf
theorem own_ne {w : World} {B e s n : Nat} {v : Value} {xs : List Value} (h : w.ownsRow (B + 1) e s v n xs) : v.ownBlock ≠ some B := by
  rcases h.2 with ⟨hv, _⟩ | ⟨g, cap, cur, hv, hg, h2⟩
  · rw [hv]; simp [Value.ownBlock]
  · rw [hv]; simp [Value.ownBlock]; omega
theorem own_ge {w : World} {B e s n : Nat} {v : Value} {xs : List Value} (h : w.ownsRow B e s v n xs) : ∀ k, v.ownBlock = some k → B ≤ k := fun k hk => by
  rcases h.2 with ⟨hv, _⟩ | ⟨g, cap, cur, hv, hg, h2⟩
  · rw [hv] at hk; simp [Value.ownBlock] at hk
  · rw [hv] at hk; simp [Value.ownBlock] at hk; omega
theorem Has.own_w {w : World} {base e s n c : Nat} {A : Option Addr} {xs : List Value} (h : w.ownsRow base e s (.slice A n c) n xs) : Has w w.heap.size A xs := by
  by_cases h0 : 0 < n
  · obtain ⟨g, e, _, hg, _, hc⟩ := own_form_w h h0
    exact .inr ⟨g, 0, e, hg, fun j u hu => by rw [Nat.zero_add]; exact hc j u hu⟩
  · refine .inl (List.eq_nil_of_length_eq_zero ?_)
    rw [h.1, show n = 0 by omega, Nat.zero_mul]
theorem own_less {w : World} {base base' e s n : Nat} {v : Value} {xs : List Value} (h : w.ownsRow base e s v n xs) (hb : base' ≤ base) : w.ownsRow base' e s v n xs := by
  rcases h.2 with hv | ⟨g, cap, cur, hv, hg, h2⟩
  · exact ⟨h.1, .inl hv⟩
  · exact ⟨h.1, .inr ⟨g, cap, cur, hv, by omega, h2⟩⟩
end Go.Proofs.Ytlanldjpafkckaa
