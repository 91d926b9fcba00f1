/- Contracts of package code's writing half: fresh, fold, slices.Reverse at bytes, appendInt, Int, Text: what each hands back, in the words of XMem and XEnc. Conditions: the lengths stay below 2^40. -/
import Derived.Test.YtcmpeohooiehcaaApp
import Derived.Test.YtcmpeohooiehcaaEnc
import Derived.RegionTactic
import Derived.ChangeAlike
import Derived.BigRegion
namespace Go.Proofs.Ytcmpeohooiehcaa
open Go.RowKit

theorem fresh_any (A : Option Addr) (c : Nat) (xs : List Value) (w : World) (h : Has w w.heap.size A xs) (h1 : ∀ u ∈ xs, u.oneCell' = true) (hn : xs.length ≤ 1099511627776) :
    Calls Try.prog 50 #[.slice A xs.length c] w (Out w w.heap.size (.slice none 0 0) xs) := by
  go_enter Try.func50, Try.ntmps50
  go_wp2_with (at_builtin; refine app_bytes rfl _ _ 35 rfl w.heap.size (.slice none 0 0) [] rfl (World.ownsRow_nil _ _ _ _) (.slice A xs.length c) xs rfl (h.src Try.underlying35 c h1) (by simp only [List.length_nil]; omega) (Nat.le_refl _) ?_; intro v1 w1 g1)
  go_ret
  exact ⟨v1, rfl, g1⟩

theorem fold_any (n : Int) (h1 : -9223372036854775808 ≤ n) (h2 : n ≤ 9223372036854775807) (w : World) :
    Calls Try.prog 78 #[.int .i64 n] w fun e w' => e = .returned (.int .u64 (zig n)) ∧ w = w' := by
  go_enter Try.func78, Try.ntmps78
  go_wp2
  go_ret
  exact ⟨by rw [← fold_val n h1 h2]; rfl, rfl⟩

/-- The first k and the last k elements turned round. -/
def swp (xs : List Int) (k : Nat) : List Int := (List.range xs.length).map fun t => if t < k ∨ xs.length - 1 - k < t then xs[xs.length - 1 - t]?.getD 0 else xs[t]?.getD 0
theorem swp_len (xs : List Int) (k : Nat) : (swp xs k).length = xs.length := by simp [swp]
theorem swp_at (xs : List Int) (k t : Nat) (h : t < xs.length) : (swp xs k)[t]? = some (if t < k ∨ xs.length - 1 - k < t then xs[xs.length - 1 - t]?.getD 0 else xs[t]?.getD 0) := by
  simp [swp, h]
theorem swp_zero (xs : List Int) : swp xs 0 = xs := by
  apply List.ext_getElem?
  intro i
  by_cases h : i < xs.length
  · rw [swp_at xs 0 i h, if_neg (by omega)]; simp [h]
  · rw [List.getElem?_eq_none (by rw [swp_len]; omega), List.getElem?_eq_none (by omega)]
theorem swp_end (xs : List Int) (k : Nat) (h : xs.length ≤ 2 * k + 1) : swp xs k = xs.reverse := by
  apply List.ext_getElem?
  intro i
  by_cases h1 : i < xs.length
  · rw [swp_at xs k i h1, List.getElem?_reverse h1]
    split
    · rw [List.getElem?_eq_getElem (by omega)]; rfl
    · have : xs.length - 1 - i = i := by omega
      rw [this, List.getElem?_eq_getElem h1]; rfl
  · rw [List.getElem?_eq_none (by rw [swp_len]; omega), List.getElem?_eq_none (by simp; omega)]
theorem swp_step (xs : List Int) (k : Nat) (h : k < xs.length - 1 - k) (x y : Int) (hx : (swp xs k)[k]? = some x) (hy : (swp xs k)[xs.length - 1 - k]? = some y) :
    ((swp xs k).set k y).set (xs.length - 1 - k) x = swp xs (k + 1) := by
  rw [swp_at xs k k (by omega), if_neg (by omega)] at hx
  rw [swp_at xs k _ (by omega), if_neg (by omega)] at hy
  injection hx with hx
  injection hy with hy
  subst hx hy
  apply List.ext_getElem?
  intro i
  simp only [List.getElem?_set, List.length_set, swp_len]
  by_cases h1 : i < xs.length
  · rw [swp_at xs (k + 1) i h1, swp_at xs k i h1]
    by_cases e1 : xs.length - 1 - k = i
    · rw [if_pos e1, if_pos (by omega), if_pos (by omega), show xs.length - 1 - i = k by omega]
    · rw [if_neg e1]
      by_cases e2 : k = i
      · rw [if_pos e2, if_pos (by omega), if_pos (by omega), e2]
      · rw [if_neg e2]
        by_cases e3 : i < k ∨ xs.length - 1 - k < i
        · rw [if_pos e3, if_pos (by omega)]
        · rw [if_neg e3, if_neg (by omega)]
  · rw [if_neg (by omega), if_neg (by omega), List.getElem?_eq_none (by rw [swp_len]; omega), List.getElem?_eq_none (by rw [swp_len]; omega)]

set_option maxHeartbeats 1000000 in
theorem reverse_any (base g cap : Nat) (xs : List Int) (w : World) (hown : w.ownsRow base 5 1 (.slice (some ⟨g, 0, none⟩) xs.length cap) xs.length (bs xs)) (hn : xs.length ≤ 1099511627776) :
    Calls Try.prog 79 #[.slice (some ⟨g, 0, none⟩) xs.length cap] w fun e w' => e = .returned (.tuple #[]) ∧ w'.ownsRow base 5 1 (.slice (some ⟨g, 0, none⟩) xs.length cap) xs.length (bs xs.reverse) ∧ w.grownBy w' (some g) := by
  have hs0 := Lib.hid (swp_zero xs)
  have he := fun (k : Nat) (h : xs.length ≤ 2 * k + 1) => Lib.hid (swp_end xs k h)
  go_enter Try.func79, Try.ntmps79
  go_wp2
  go_loopw [2, 3] (fun i j wr => ∃ k : Nat, k ≤ xs.length ∧ i = .int .i64 k ∧ j = .int .i64 ((xs.length : Int) - 1 - k) ∧ wr.ownsRow base 5 1 (.slice (some ⟨g, 0, none⟩) xs.length cap) xs.length (bs (swp xs k)) ∧ w.grownBy wr (some g))
    (fun i _ _ => xs.length - (intOf i).toNat)
  case atStart => exact ⟨0, Nat.zero_le _, rfl, by simp, by rw [hs0.out]; exact hown, only_refl _ _⟩
  case round =>
    obtain ⟨k, hk, rfl, rfl, ho, hg⟩ := hrel
    by_cases hlt : k < xs.length - 1 - k
    · obtain ⟨x, hx⟩ : ∃ x, (swp xs k)[k]? = some x := ⟨_, List.getElem?_eq_getElem (by rw [swp_len]; omega)⟩
      obtain ⟨y, hy⟩ : ∃ y, (swp xs k)[xs.length - 1 - k]? = some y := ⟨_, List.getElem?_eq_getElem (by rw [swp_len]; omega)⟩
      have cx : wr.cell? ⟨g, k, none⟩ = some (.int .u8 x) := by rw [ho.cellAt k (by omega)]; simp [bs, hx]
      have cy : wr.cell? ⟨g, xs.length - 1 - k, none⟩ = some (.int .u8 y) := by rw [ho.cellAt _ (by omega)]; simp [bs, hy]
      have fx : wr.frozen? ⟨g, k, none⟩ = false := ho.frozenAt k
      have fy : wr.frozen? ⟨g, xs.length - 1 - k, none⟩ = false := ho.frozenAt _
      have ht : (k : Int) < (xs.length : Int) - 1 - k := by omega
      have e1 : ((xs.length : Int) - 1 - k).toNat = xs.length - 1 - k := by omega
      have hs := Lib.hid (swp_step xs k hlt x y hx hy)
      clear hx hy he
      go_wp2
      go_region
      go_wp2
      go_roundw
      case rel =>
        refine ⟨k + 1, by omega, by go_num, by go_num, ?_, only_drew (only_set (only_set hg (.inl rfl) _) (.inl rfl) _)⟩
        have h1 := ho.stored k (.int .u8 y)
        have h2 := h1.1.stored (xs.length - 1 - k) (.int .u8 x)
        have e : ((bs (swp xs k)).set k (.int .u8 y)).set (xs.length - 1 - k) (.int .u8 x) = bs (swp xs (k + 1)) := by rw [← hs.out]; simp [bs, List.map_set]
        rw [e] at h2
        exact h2.1
      case measure => simp [intOf]; omega
    · have ht : ¬ (k : Int) < (xs.length : Int) - 1 - k := by omega
      have he := he k (by omega)
      go_wp2
      go_end0
      exact ⟨rfl, by rw [← he.out]; exact ho, hg⟩
set_option maxRecDepth 100000 in
set_option maxHeartbeats 1000000 in
theorem appendInt_any (base : Nat) (v : Value) (xs : List Value) (n : Int) (w : World) (hown : w.ownsRow base 5 1 v xs.length xs) (hb : base ≤ w.heap.size) (h1 : -9223372036854775808 ≤ n) (h2 : n ≤ 9223372036854775807) (hn : xs.length ≤ 35184372088832) :
    Calls Try.prog 71 #[v, .int .i64 n] w (Out w base v (xs ++ bs (enc n))) := by
  obtain ⟨i0, hi, hz0, hz1, hz2⟩ := info_parts Try.info_u8
  have hzb := zig_bd n h1 h2
  obtain ⟨u0, hu0⟩ : ∃ u0 : Nat, zig n = u0 := ⟨(zig n).toNat, by omega⟩
  have hub : u0 ≤ 18446744073709551615 := by omega
  have hlen := (encU_len u0 (by omega)).2
  have Hen : Hid (enc n = encU u0) := by unfold Hid; unfold enc; rw [hu0]; rfl
  clear hzb
  have hfold : Calls Try.prog 78 #[.int .i64 n] w fun e w' => e = .returned (.int .u64 u0) ∧ w = w' := by rw [← hu0]; exact fold_any n h1 h2 w
  have Hf := Lib.hid hfold
  clear hfold hu0
  go_enter Try.func71, Try.ntmps71
  go_wp2_with (go_at_call 78; refine (Hf.out).mono ?_; rintro e w' ⟨rfl, rfl⟩)
  go_loopw [5, 6] (fun su sg wr => ∃ (m : Nat) (gl : List Int) (g cap : Nat), m ≤ 144115188075855871 ∧ su = .int .u64 m ∧ sg = .slice (some ⟨g, 0, none⟩) gl.length cap ∧ wr.ownsRow w.heap.size 5 1 (.slice (some ⟨g, 0, none⟩) gl.length cap) gl.length (bs gl) ∧
      Hid (gl ++ hib m = ((u0 % 128 : Nat) : Int) :: hib (u0 / 128)) ∧ w.grownBy wr none)
    (fun su _ _ => (intOf su).toNat)
  case atStart =>
    exact ⟨u0 / 128, [((u0 % 128 : Nat) : Int)], w.heap.size, 1, by omega, by go_num, rfl, ⟨rfl, .inr ⟨w.heap.size, 1, _, rfl, Nat.le_refl _, heap_alloc_new w _, Nat.le_refl _, by decide, rfl, by simp [bs]⟩⟩, rfl, World.grownBy_alloc w _ none⟩
  case round =>
    obtain ⟨m, gl, g, cap, hm, rfl, rfl, ho, HG, hg⟩ := hrel
    have hgl : gl.length ≤ 10 := by
      have h := congrArg List.length HG.out
      simp only [List.length_append, List.length_cons] at h
      unfold encU at hlen
      simp only [List.length_append, List.length_reverse, List.length_singleton] at hlen
      omega
    by_cases h0 : m = 0
    · subst h0
      have hgr : (gl.reverse : List Int) = encU u0 := by
        have h := HG.out
        rw [hib_zero, List.append_nil] at h
        rw [h, List.reverse_cons]; rfl
      have Hr := Lib.hid hgr
      clear hgr HG
      have hgB : w.heap.size ≤ g := by
        obtain ⟨_, _, h, hb⟩ := own_form ho (by rw [← List.length_reverse, Hr.out]; exact (encU_len u0 (by omega)).1)
        simp at h; omega
      have hv0 : wr.ownsRow base 5 1 v xs.length xs := hown.kept hg (by cases hv : v.ownBlock <;> simp)
      have hvlt := hown.lt
      have hne : v.ownBlock = none ∨ v.ownBlock ≠ some g := by
        cases hv : v.ownBlock with
        | none => exact .inl rfl
        | some k => right; intro e; injection e with e; subst e; have := (hvlt _ hv).2; omega
      have Hne := Lib.hid hne
      clear hvlt hne
      go_wp2_with (first
        | (go_at_call 79; refine (reverse_any w.heap.size g cap gl _ ho (by omega)).mono ?_; rintro e w1 ⟨rfl, ho1, hg1⟩; have hv1 := hv0.kept hg1 Hne.out; have hs1 := hg1.size; have hl1 : gl.reverse.length = gl.length := List.length_reverse)
        | (at_builtin; go_loud (refine app_bytes rfl _ _ 35 rfl base v xs rfl hv1 (.slice (some ⟨g, 0, none⟩) gl.length cap) (bs gl.reverse) rfl (by rw [bs_len, List.length_reverse]; have h := (Has.own ho1).src (P := Try.prog) (tx := 35) Try.underlying35 cap (bs_one _); rw [bs_len, List.length_reverse] at h; exact h) (by rw [bs_len, List.length_reverse]; omega) (by have := hg.size; omega) ?_); intro v2 w2 g2))
      go_ret
      refine ⟨v2, rfl, ?_⟩
      rw [Hr.out, ← Hen.out] at g2
      exact ⟨g2.own, only_step (only_step (only_none hg _) hg1 (fun k hk => .inr (by cases hk; exact hgB))) g2.only (fun k hk => .inl hk), by
        rcases g2.at_ with h | ⟨q, h, hq⟩
        · exact .inl h
        · exact .inr ⟨q, h, by have := hg.size; have := hg1.size; omega⟩⟩
    · have hmp : 0 < (m : Int) := by omega
      have Hs := Lib.hid (hib_pos m (by omega))
      have hor := or_128 m
      have ho2 : wr.ownsRow w.heap.size 5 1 (.slice (some ⟨g, 0, none⟩) gl.length cap) (bs gl).length (bs gl) := by rw [bs_len]; exact ho
      have hsz := hg.size
      go_wp2_with (at_builtin; go_loud (refine app_bytes rfl _ _ 35 rfl w.heap.size (.slice (some ⟨g, 0, none⟩) gl.length cap) (bs gl) rfl (ho2.alloc _) (.slice (some ⟨wr.heap.size, 0, none⟩) 1 1) [.int .u8 (128 + m % 128)] rfl (src_one 35 5 Try.underlying35 _ _ rfl) (by rw [bs_len]; simp only [List.length_singleton]; omega) (by simp; omega) ?_); intro v1 w1 g1)
      go_roundw
      case rel =>
        have hl : (bs gl ++ [Value.int .u8 (128 + (m : Int) % 128)]).length = (gl ++ [128 + (m : Int) % 128]).length := by simp [bs]
        have e : bs gl ++ [Value.int .u8 (128 + (m : Int) % 128)] = bs (gl ++ [128 + (m : Int) % 128]) := by simp [bs]
        have go1 := g1.own
        rw [hl, e] at go1
        obtain ⟨g', cap', hv, hgb⟩ := own_form go1 (by simp)
        subst hv
        have hgB : w.heap.size ≤ g := by
          rcases ho.2 with ⟨h, _⟩ | ⟨g2, _, _, h, hb2, _⟩
          · cases h
          · simp at h; omega
        refine ⟨m / 128, gl ++ [128 + (m : Int) % 128], g', cap', by omega, by go_num, rfl, go1, ?_, ?_⟩
        · have h := HG.out
          rw [Hs.out] at h
          unfold Hid
          rw [List.append_assoc, ← h]; simp
        · exact only_step (only_alloc hg _) g1.only (fun k hk => by cases hk; exact .inr hgB)
      case measure => simp [intOf]; omega
end Go.Proofs.Ytcmpeohooiehcaa
