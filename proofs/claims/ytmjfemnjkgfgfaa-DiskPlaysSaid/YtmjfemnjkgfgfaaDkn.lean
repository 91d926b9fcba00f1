/- The helpers of chapter 3's laws: known, within. No condition. -/
import Derived.Test.YtmjfemnjkgfgfaaDisk3
namespace Go.Proofs.Ytmjfemnjkgfgfaa
open Go.RowKit Go.Deep

theorem conv_own {w : World} {base : Nat} {v : Value} {l : List Int} {n : Nat} (h : w.ownsRow base 5 1 v n (bs l)) : (convert 31 9 v).run Try.prog w = .ok (.string (strOfNums l)) w := by
  obtain ⟨A, c, rfl⟩ := own_slice h
  have hn : n = l.length := by have := h.1; rw [bs_len] at this; omega
  subst hn
  exact conv_string (Has.own h) c
theorem new_ok (room : Int) (h1 : 1 ≤ room) (h2 : room ≤ 16777216) : Ok (newS room) :=
  ⟨by simp [newS], by simp [newS], by simp [newS], by constructor <;> simp [newS] <;> omega, by simp [newS], by simp [newS], by simp [newS]⟩
/-- A conversion of bytes to bytes: the block bears a mark. -/
theorem conv_same (w : World) (C : Array Value) (n c : Nat) : (convert 31 31 (.slice (some ⟨w.heap.size, 0, none⟩) n c)).run Try.prog (w.alloc (.cells C 5)) = .ok (.slice (some ⟨w.heap.size, 0, none⟩) n c) (w.alloc (.cells C 5 (C.size, C.size + 1))) := by
  have hsh : (w.alloc (.cells C 5)).shape? w.heap.size = some (5, C.size) := by
    unfold World.shape?
    rw [heap_alloc_new]
  have hfr : (w.alloc (.cells C 5)).freeze ⟨w.heap.size, C.size, none⟩ 1 = w.alloc (.cells C 5 (C.size, C.size + 1)) := by
    have hm : ∀ (a : Array Obj) (x : Obj) (f : Obj → Obj), (a.push x).modify a.size f = a.push (f x) := by
      intro a x f
      apply Array.ext
      · simp
      · intro i h1 h2
        simp only [Array.getElem_modify, Array.getElem_push]
        by_cases h : a.size = i
        · subst h
          simp
        · have hi : i < a.size := by simp at h1; omega
          simp [h, hi]
    unfold World.freeze
    rw [if_neg (by decide)]
    show ({ w.alloc (.cells C 5) with heap := (w.heap.push (.cells C 5)).modify w.heap.size _ } : World) = _
    rw [hm]
    rfl
  simp [convert, run_underlying Try.underlying31, run_underlying Try.underlying5, markStringish, hsh]
  exact hfr

set_option maxRecDepth 100000 in
theorem known_any (w : World) : Calls Try.prog 9 #[] w fun e w' => e = .returned (.bool true) ∧ Below w.heap.size w w' := by
  have N := Lib.hid (new_any w.heap.size 10 w (by decide) (by decide) (Nat.le_refl _))
  go_enter Try.func9, Try.ntmps9
  go_wp2_with fail
  refine N.out.mono ?_
  rintro _ w1 ⟨g, rfl, D1, g1⟩
  have hz := g1.size
  have D2 : Hid (Dk (w1.alloc (.cells #[.int .u8 97, .int .u8 98, .int .u8 99] 5 (3, 4))) w.heap.size g (newS 10)) := D1.below (World.grownBy_alloc w1 _ none)
  have HB : Hid (Has (w1.alloc (.cells #[.int .u8 97, .int .u8 98, .int .u8 99] 5 (3, 4))) (w1.alloc (.cells #[.int .u8 97, .int .u8 98, .int .u8 99] 5 (3, 4))).heap.size (some ⟨w1.heap.size, 0, none⟩) (bs [97, 98, 99])) := by
    refine .inr ⟨w1.heap.size, 0, rfl, by simp, fun j u hu => ?_⟩
    have hn := heap_alloc_new w1 (.cells #[.int .u8 97, .int .u8 98, .int .u8 99] 5 (3, 4))
    unfold World.cell?
    rw [hn]
    simpa [bs] using hu
  have A := Lib.hid (append_any w.heap.size g (newS 10) (some ⟨w1.heap.size, 0, none⟩) 3 [97, 98, 99] _ D2.out (new_ok 10 (by decide) (by decide)) HB.out (by decide))
  clear D1 D2 HB
  have hE : appendE (newS 10) [97, 98, 99] = 0 := by decide +kernel
  have hS : appendS (newS 10) [97, 98, 99] = { L := [97, 98, 99], S := [], sy := 0, rm := 10, st := 0, sn := 1, op := 1, dd := false } := by kernel_rfl
  rw [hE, hS] at A
  have hcv : (convert 31 31 (.slice (some ⟨w1.heap.size, 0, none⟩) 3 3)).run Try.prog (w1.alloc (.cells #[.int .u8 97, .int .u8 98, .int .u8 99] 5)) = .ok (.slice (some ⟨w1.heap.size, 0, none⟩) 3 3) (w1.alloc (.cells #[.int .u8 97, .int .u8 98, .int .u8 99] 5 (3, 4))) := conv_same w1 #[.int .u8 97, .int .u8 98, .int .u8 99] 3 3
  clear hE hS
  go_wp2_with fail
  refine A.out.mono ?_
  rintro _ w2 ⟨rfl, D2, b2⟩
  have hz2 := b2.size
  have C := crash_any w.heap.size g _ 2 w2 D2 ⟨by decide, by decide, by decide, by decide, by decide, by decide, by decide⟩ (by decide) (by decide)
  have hK : crashK { L := [97, 98, 99], S := [], sy := 0, rm := 10, st := 0, sn := 1, op := 1, dd := false } 2 = 2 := by decide +kernel
  have hS : crashS { L := [97, 98, 99], S := [], sy := 0, rm := 10, st := 0, sn := 1, op := 1, dd := false } 2 = { L := [97, 98], S := [], sy := 2, rm := 10, st := 0, sn := 0, op := 1, dd := false } := by kernel_rfl
  rw [hK, hS] at C
  have C := Lib.hid C
  have hgB := D2.lt
  clear A hK hS D2 hcv
  go_wp2_with fail
  refine C.out.mono ?_
  rintro _ w3 ⟨rfl, D3, g3⟩
  have LG := Lib.hid (log_any w.heap.size g _ w3 D3 (by decide))
  have B3 : Below w.heap.size w w3 := ((bel g1 (fun _ h => by cases h) (Nat.le_refl _)).trans ((bel (World.grownBy_alloc w1 _ none) (fun _ h => by cases h) hz).trans b2)).trans (bel g3 (fun k hk => by cases hk; exact hgB.1) (by simp at hz2; omega))
  clear D3
  go_wp2_with fail
  refine LG.out.mono ?_
  rintro _ w4 ⟨⟨v, rfl, o4⟩, g4⟩
  have hcv2 : (convert 31 9 v).run Try.prog w4 = .ok (.string { data := #[97, 98] }) w4 := conv_own o4
  have hz3 := B3.size
  clear o4
  go_wp2_with fail
  go_ret
  exact ⟨rfl, B3.trans (bel g4 (fun _ h => by cases h) hz3)⟩
theorem within_any (n m : Int) (h1 : -9223372036854775808 ≤ n) (h2 : n ≤ 9223372036854775807) (m1 : 1 ≤ m) (m2 : m ≤ 9223372036854775807) (w : World) :
    Calls Try.prog 12 #[.int .i64 n, .int .i64 m] w fun e w' => e = .returned (.int .i64 (n % m)) ∧ w = w' := by
  have hb1 := Int.emod_nonneg n (show m ≠ 0 by omega)
  have hb2 := Int.emod_lt_of_pos n (show 0 < m by omega)
  by_cases hn : 0 ≤ n
  · have ht : ¬ n % m < 0 := by omega
    go_enter Try.func12, Try.ntmps12
    go_wp2
    go_ret
    exact ⟨rfl, rfl⟩
  · have e : n.tmod m = if n % m = 0 then 0 else n % m - m := by
      have h := @Int.tmod_eq_emod n m
      rw [h]
      by_cases h0 : n % m = 0
      · rw [if_pos h0, if_pos (by right; exact Int.dvd_of_emod_eq_zero h0), h0]; rfl
      · rw [if_neg h0, if_neg (by
          rintro (h | h)
          · exact hn h
          · exact h0 (Int.emod_eq_zero_of_dvd h))]
        omega
    by_cases h0 : n % m = 0
    · rw [if_pos h0] at e
      have E := Lib.hid h0
      clear h0
      go_enter Try.func12, Try.ntmps12
      go_wp2
      go_ret
      exact ⟨by rw [E.out]; rfl, rfl⟩
    · rw [if_neg h0] at e
      obtain ⟨r, hr⟩ : ∃ r, r = n % m := ⟨_, rfl⟩
      rw [← hr] at e hb1 hb2 h0
      have E := Lib.hid hr
      clear hr
      have ht : r - m < 0 := by omega
      go_enter Try.func12, Try.ntmps12
      go_wp2
      go_ret
      exact ⟨by rw [← E.out]; congr 2, rfl⟩
end Go.Proofs.Ytmjfemnjkgfgfaa
