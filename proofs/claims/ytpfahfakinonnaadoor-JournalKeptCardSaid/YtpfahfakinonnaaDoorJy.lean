/- JournalSnaps. No condition of the program's own. -/
import Derived.Test.YtpfahfakinonnaaDoorJw
import Derived.Test.YtpfahfakinonnaaDoorGrr
namespace Go.Proofs.YtpfahfakinonnaaDoor
open Go.RowKit Go.Deep
theorem within_any (n m : Int) (h1 : -9223372036854775808 ≤ n) (h2 : n ≤ 9223372036854775807) (m1 : 1 ≤ m) (m2 : m ≤ 9223372036854775807) (w : World) :
    Calls Tryd.prog 9 #[.int .i64 n, .int .i64 m] w fun e w' => e = .returned (.int .i64 (n % m)) ∧ w' = w := by
  have hb1 := Int.emod_nonneg n (show m ≠ 0 by omega)
  have hb2 := Int.emod_lt_of_pos n (show 0 < m by omega)
  by_cases hn : 0 ≤ n
  · have ht : ¬ n % m < 0 := by omega
    go_enter Tryd.func9, Tryd.ntmps9
    go_wp2
    go_ret
    exact ⟨rfl, rfl⟩
  · have e : n.tmod m = if n % m = 0 then 0 else n % m - m := by
      have h := @Int.tmod_eq_emod n m
      rw [h]
      by_cases h0 : n % m = 0
      · rw [if_pos h0, if_pos (by right; exact Int.dvd_of_emod_eq_zero h0), h0]; rfl
      · rw [if_neg h0, if_neg (by
          rintro (h | h)
          · exact hn h
          · exact h0 (Int.emod_eq_zero_of_dvd h))]
        omega
    by_cases h0 : n % m = 0
    · rw [if_pos h0] at e
      have E := Lib.hid h0
      clear h0
      go_enter Tryd.func9, Tryd.ntmps9
      go_wp2
      go_ret
      exact ⟨by rw [E.out]; rfl, rfl⟩
    · rw [if_neg h0] at e
      obtain ⟨r, hr⟩ : ∃ r, r = n % m := ⟨_, rfl⟩
      rw [← hr] at e hb1 hb2 h0
      have E := Lib.hid hr
      clear hr
      have ht : r - m < 0 := by omega
      go_enter Tryd.func9, Tryd.ntmps9
      go_wp2
      go_ret
      exact ⟨by rw [← E.out]; congr 2, rfl⟩
theorem count_eq (q : Nat) (n : Int) (w : World) (c : w.cell? ⟨q, 1, none⟩ = some (.int .i64 n)) :
    Calls Tryd.prog 27 #[.pointer (some ⟨q, 0, none⟩)] w fun e w' => e = .returned (.int .i64 n) ∧ w' = w := (count_any q n w c).mono fun _ _ ⟨a, b⟩ => ⟨a, b.symm⟩
/-- What JournalSnaps holds ahead of each round: the records behind the snapshot. -/
def JS (w wr : World) (g q : Nat) (i : Nat) (recs : List (List Int)) (S sx : List Int) (k o : Int) : Prop :=
  Dk wr w.heap.size g (jsD recs S k o) ∧ Jn wr q g recs.length ∧ w.grownBy wr none ∧ ((S = [] ∧ sx = []) ∨ (S = frP sx ∧ (∀ x ∈ sx, 0 ≤ x ∧ x ≤ 255) ∧ sx.length ≤ 200)) ∧
  (∀ l ∈ recs, ∀ x ∈ l, 0 ≤ x ∧ x ≤ 255) ∧ (∀ l ∈ recs, l.length ≤ 200) ∧ recs.length ≤ i ∧ (0 ≤ k ∧ k ≤ 2 * i) ∧ (0 ≤ o ∧ o ≤ 2 * i)
theorem JS.snap_len {w wr : World} {g q i : Nat} {recs : List (List Int)} {S sx : List Int} {k o : Int} (h : JS w wr g q i recs S sx k o) : S.length ≤ 208 := by
  rcases h.2.2.2.1 with ⟨rfl, _⟩ | ⟨rfl, _, hl⟩
  · simp
  · rw [frP_len]; omega
set_option maxRecDepth 100000 in
theorem js_snap {w wr : World} {g q i : Nat} {recs : List (List Int)} {S sx : List Int} {k o : Int} (h : JS w wr g q i recs S sx k o) (hi : i < 20) (hqg : q ≠ g) (hq : w.heap.size ≤ q) (A : Option Addr) (c : Nat) (x : List Int) (hx : Has w w.heap.size A (bs x)) (bx : ∀ y ∈ x, 0 ≤ y ∧ y ≤ 255) (lx : x.length ≤ 200) (hT : Tab w) :
    Calls Tryd.prog 16 #[.pointer (some ⟨q, 0, none⟩), .slice A x.length c] wr fun e w' => e = .returned (.int .i64 0) ∧ JS w w' g q (i + 1) [] (frP x) x (k + 1) (o + 1) := by
  have hSl := h.snap_len
  obtain ⟨D, J, G, hS, bR, lR, nR, hk, ho⟩ := h
  have l8 := frP_len x
  have z := G.size
  obtain ⟨s1, s2⟩ := js_swap recs S (frP x) k o (by omega)
  refine (jsnap_any w.heap.size g q _ _ A c x wr D J hqg hq (js_ok recs S k o lR (by omega) hSl (by omega) (by omega)) ((hx.only G (Nat.le_refl _) (fun _ h => by cases h)).more z) bx (by omega) (by omega) (hT.grow G) z).mono ?_
  rintro e w' ⟨rfl, D', J', b', _⟩
  rw [s1] at J' ⊢
  rw [s2] at D'
  exact ⟨rfl, D', J', below_only ((only_below G).trans b'), .inr ⟨rfl, bx, lx⟩, by simp, by simp, by simp, by omega, by omega⟩
set_option maxRecDepth 100000 in
theorem js_addr {w wr : World} {g q i : Nat} {recs : List (List Int)} {S sx : List Int} {k o : Int} (h : JS w wr g q i recs S sx k o) (hi : i < 20) (hqg : q ≠ g) (hq : w.heap.size ≤ q) (A : Option Addr) (c : Nat) (x : List Int) (hx : Has w w.heap.size A (bs x)) (bx : ∀ y ∈ x, 0 ≤ y ∧ y ≤ 255) (lx : x.length ≤ 200) (hT : Tab w) :
    Calls Tryd.prog 14 #[.pointer (some ⟨q, 0, none⟩), .slice A x.length c] wr fun e w' => e = .returned (.int .i64 0) ∧ JS w w' g q (i + 1) (recs ++ [x]) S sx (k + 2) (o + 2) := by
  have hSl := h.snap_len
  obtain ⟨D, J, G, hS, bR, lR, nR, hk, ho⟩ := h
  have l8 := frP_len x
  have z := G.size
  have hlen := logP_le recs lR
  obtain ⟨s1, s2⟩ := js_add recs S x k o (by omega)
  obtain ⟨_, p2⟩ := js_app recs S x k o (by omega)
  have bR' : ∀ l ∈ recs ++ [x], ∀ y ∈ l, 0 ≤ y ∧ y ≤ 255 := fun l hl => by
    rcases List.mem_append.1 hl with h | h
    · exact bR l h
    · rw [List.mem_singleton.1 h]; exact bx
  have lR' : ∀ l ∈ recs ++ [x], l.length ≤ 200 := fun l hl => by
    rcases List.mem_append.1 hl with h | h
    · exact lR l h
    · rw [List.mem_singleton.1 h]; exact lx
  have ok2 := js_ok (recs ++ [x]) S (k + 1) (o + 1) lR' (by simp; omega) hSl (by omega) (by omega)
  refine (add_any w.heap.size g q _ _ A c x wr D J hqg hq (js_ok recs S k o lR (by omega) hSl (by omega) (by omega)) (by
    rw [p2]
    exact ⟨ok2.l, ok2.s, ⟨by show (0 : Int) ≤ ((logP recs).length : Int); omega, by show ((logP recs).length : Int) ≤ ((logP (recs ++ [x])).length : Int); simp [logP]; omega⟩, ok2.rm, ok2.st, ok2.sn, ok2.op⟩) ((hx.only G (Nat.le_refl _) (fun _ h => by cases h)).more z) bx (by omega) (by omega) (hT.grow G) z (by rw [IntKind.wrap_i64]; omega)).mono ?_
  rintro e w' ⟨rfl, D', J', b', _⟩
  rw [s1] at J' ⊢
  rw [s2] at D'
  exact ⟨rfl, D', by simpa using J', below_only ((only_below G).trans b'), hS, bR', lR', by simp; omega, by omega, by omega⟩
end Go.Proofs.YtpfahfakinonnaaDoor
