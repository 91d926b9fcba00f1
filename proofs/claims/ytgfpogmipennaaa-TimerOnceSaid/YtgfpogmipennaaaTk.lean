/- The laws' own helpers: known, within, ints; rows that are handed back. No condition of the program's own. -/
import Derived.Test.YtgfpogmipennaaaDr
import Derived.Test.YtgfpogmipennaaaRow
namespace Go.Proofs.Ytgfpogmipennaaa
open Go.RowKit Go.Deep
theorem within_any (n m : Int) (h1 : -9223372036854775808 ≤ n) (h2 : n ≤ 9223372036854775807) (m1 : 1 ≤ m) (m2 : m ≤ 9223372036854775807) (w : World) :
    Calls Try.prog 13 #[.int .i64 n, .int .i64 m] w fun e w' => e = .returned (.int .i64 (n % m)) ∧ w = w' := by
  have hb1 := Int.emod_nonneg n (show m ≠ 0 by omega)
  have hb2 := Int.emod_lt_of_pos n (show 0 < m by omega)
  by_cases hn : 0 ≤ n
  · have ht : ¬ n % m < 0 := by omega
    go_enter Try.func13, Try.ntmps13
    go_wp2
    go_ret
    exact ⟨rfl, rfl⟩
  · have e : n.tmod m = if n % m = 0 then 0 else n % m - m := by
      have h := @Int.tmod_eq_emod n m
      rw [h]
      by_cases h0 : n % m = 0
      · rw [if_pos h0, if_pos (by right; exact Int.dvd_of_emod_eq_zero h0), h0]; rfl
      · rw [if_neg h0, if_neg (by
          rintro (h | h)
          · exact hn h
          · exact h0 (Int.emod_eq_zero_of_dvd h))]
        omega
    by_cases h0 : n % m = 0
    · rw [if_pos h0] at e
      have E := Lib.hid h0
      clear h0
      go_enter Try.func13, Try.ntmps13
      go_wp2
      go_ret
      exact ⟨by rw [E.out]; rfl, rfl⟩
    · rw [if_neg h0] at e
      obtain ⟨r, hr⟩ : ∃ r, r = n % m := ⟨_, rfl⟩
      rw [← hr] at e hb1 hb2 h0
      have E := Lib.hid hr
      clear hr
      have ht : r - m < 0 := by omega
      go_enter Try.func13, Try.ntmps13
      go_wp2
      go_ret
      exact ⟨by rw [← E.out]; congr 2, rfl⟩
/-- A row of ints that is not empty. -/
theorem row_form {w : World} {base n : Nat} {v : Value} {l : List Int} (h : w.ownsRow base 3 1 v n (ns l)) (hn : 0 < n) : ∃ g c, v = .slice (some ⟨g, 0, none⟩) n c ∧ base ≤ g ∧ g < w.heap.size ∧ ∀ (j : Nat) (u : Int), l[j]? = some u → w.cell? ⟨g, j, none⟩ = some (.int .i64 u) := by
  have hc := fun g => h.cells (g := g)
  rcases h.2 with ⟨_, h0⟩ | ⟨g, cap, cur, hv, hb, hg, h1, h2, _⟩
  · omega
  · subst hv
    refine ⟨g, cap, rfl, hb, (Array.getElem?_eq_some_iff.1 hg).1, fun j u hu => ?_⟩
    have := hc g rfl j (.int .i64 u) (by simp [ns, hu])
    rw [Addr.add_lit, Nat.zero_add] at this
    exact this
theorem row_len {w : World} {base n : Nat} {v : Value} {l : List Int} (h : w.ownsRow base 3 1 v n (ns l)) : n = l.length := by have := h.1; rw [ns_len] at this; omega
/-- Everything of a law's own. -/
def Mine (w : World) : Nat → Prop := fun k => w.heap.size ≤ k
theorem Mine.new {w w' : World} (o : OnlyF (Mine w) w w') : ∀ k, w'.heap.size ≤ k → Mine w k := fun _ hk => Nat.le_trans o.size hk
theorem Mine.end {w w' : World} (o : OnlyF (Mine w) w w') : w.grownBy w' none := o.to (fun _ h => h)
theorem Has.mine {w w' : World} {A : Option Addr} {xs : List Value} (h : Has w w.heap.size A xs) (o : OnlyF (Mine w) w w') : Has w' w.heap.size A xs := h.only (Mine.end o) (Nat.le_refl _) (fun _ e => by cases e)
theorem known_any (w : World) : Calls Try.prog 10 #[] w fun e w' => e = .returned (.bool true) ∧ OnlyF (Mine w) w w' := by
  go_enter Try.func10, Try.ntmps10
  go_wp2_with fail
  refine (tnew w).mono ?_
  rintro e w1 ⟨B, rfl, hB, t1, g1⟩
  have o1 : OnlyF (Mine w) w w1 := OnlyF.still g1
  have T1 := Lib.hid (t1.wide (G := Mine w) (fun k hk => by rw [hk]; exact hB))
  clear t1 g1
  go_wp2_with fail
  refine (tset B 1 5 [] (Mine w) w1 T1.out (by simp) (Mine.new o1)).mono ?_
  rintro e w2 ⟨rfl, t2, o2⟩
  have O2 := Lib.hid (o1.trans o2)
  have T2 : Hid (TS w2 B [(1, 5)] (Mine w)) := Lib.hid t2
  clear t2 o1 o2
  go_wp2_with fail
  refine (tset B 2 3 _ (Mine w) w2 T2.out (by simp) (Mine.new O2.out)).mono ?_
  rintro e w3 ⟨rfl, t3, o3⟩
  have O3 := Lib.hid (O2.out.trans o3)
  have T3 : Hid (TS w3 B [(2, 3), (1, 5)] (Mine w)) := Lib.hid t3
  clear t3 o3
  go_wp2_with fail
  refine (tdue B 9 _ (Mine w) w3 T3.out (by simp)).mono ?_
  rintro e w4 ⟨v, rfl, r, t4, o4⟩
  have r' : w4.ownsRow w3.heap.size 3 1 v 2 (ns [2, 1]) := r
  obtain ⟨g, c, rfl, _, _, hc⟩ := row_form r' (by decide)
  have c0 := hc 0 2 rfl
  have c1 := hc 1 1 rfl
  have O4 := Lib.hid (O3.out.trans o4)
  clear r r' hc t4 o4
  go_wp2_with fail
  go_ret
  exact ⟨rfl, O4.out⟩
/-- A law's own heap of timers, and that nothing else has turned. -/
def At (w wr : World) (B : Nat) (S : List It) : Prop := TS wr B S (Mine w) ∧ OnlyF (Mine w) w wr
theorem At.end {w wr : World} {B : Nat} {S : List It} (h : At w wr B S) : w.grownBy wr none := Mine.end h.2
theorem At.drewN {w wr : World} {B : Nat} {S : List It} (h : At w wr B S) (n : Nat) : At w (wr.drewN n) B S := ⟨h.1.keep (only_drewN (only_refl _ _) n), h.2.trans (OnlyF.still (only_drewN (only_refl _ _) n))⟩
theorem at_new {w wr : World} (o : OnlyF (Mine w) w wr) : Calls Try.prog 11 #[] wr fun e w' => ∃ B, e = .returned (.pointer (some ⟨B, 0, none⟩)) ∧ At w w' B [] := by
  refine (tnew wr).mono ?_
  rintro e w1 ⟨B, rfl, hB, t1, g1⟩
  exact ⟨B, rfl, t1.wide (fun k hk => by rw [hk]; exact Nat.le_trans o.size hB), o.trans (OnlyF.still g1)⟩
theorem at_set {w wr : World} {B : Nat} {S : List It} (h : At w wr B S) (hl : S.length ≤ 1099511627770) (id at_ : Int) :
    Calls Try.prog 14 #[.pointer (some ⟨B, 0, none⟩), .int .i64 id, .int .i64 at_] wr fun e w' => e = .returned (.int .i64 (setR id S)) ∧ At w w' B (setT id at_ S) := by
  refine (tset B id at_ S (Mine w) wr h.1 hl (Mine.new h.2)).mono ?_
  rintro e w1 ⟨rfl, t, o⟩
  exact ⟨rfl, t, h.2.trans o⟩
theorem at_cancel {w wr : World} {B : Nat} {S : List It} (h : At w wr B S) (hl : S.length ≤ 1099511627770) (id : Int) :
    Calls Try.prog 16 #[.pointer (some ⟨B, 0, none⟩), .int .i64 id] wr fun e w' => e = .returned (.bool (isIn id S)) ∧ At w w' B (del id S) := by
  refine (tcancel B id S (Mine w) wr h.1 hl).mono ?_
  rintro e w1 ⟨rfl, t, o⟩
  exact ⟨rfl, t, h.2.trans o⟩
theorem at_len {w wr : World} {B : Nat} {S : List It} (h : At w wr B S) : Calls Try.prog 23 #[.pointer (some ⟨B, 0, none⟩)] wr fun e w' => e = .returned (.int .i64 S.length) ∧ wr = w' :=
  tlen B S (Mine w) wr h.1
theorem at_next {w wr : World} {B : Nat} {S : List It} (h : At w wr B S) :
    Calls Try.prog 21 #[.pointer (some ⟨B, 0, none⟩)] wr fun e w' => e = .returned (.tuple #[.int .i64 ((S.head?.map (·.2)).getD 0), .bool (!S.isEmpty)]) ∧ At w w' B S := by
  refine (tnext B S (Mine w) wr h.1).mono ?_
  rintro e w1 ⟨rfl, g⟩
  exact ⟨rfl, h.1.keep g, h.2.trans (OnlyF.still g)⟩
theorem own_less {w : World} {base base' e s n : Nat} {v : Value} {xs : List Value} (h : w.ownsRow base e s v n xs) (hb : base' ≤ base) : w.ownsRow base' e s v n xs := by
  rcases h.2 with hv | ⟨g, cap, cur, hv, hg, h2⟩
  · exact ⟨h.1, .inl hv⟩
  · exact ⟨h.1, .inr ⟨g, cap, cur, hv, by omega, h2⟩⟩
theorem at_due {w wr : World} {B : Nat} {S : List It} (h : At w wr B S) (hl : S.length ≤ 1099511627770) (now : Int) {l : List Int} {C : List It} (hA : ids (S.takeWhile (isDue now)) = l) (hC : S.dropWhile (isDue now) = C) :
    Calls Try.prog 19 #[.pointer (some ⟨B, 0, none⟩), .int .i64 now] wr fun e w' => ∃ X c, e = .returned (.slice X l.length c) ∧ w'.ownsRow wr.heap.size 3 1 (.slice X l.length c) l.length (ns l) ∧ At w w' B C ∧ OnlyF (Mine w) wr w' := by
  refine (tdue B now S (Mine w) wr h.1 hl).mono ?_
  rintro e w1 ⟨v, rfl, r, t, o⟩
  rw [hA, ns_len] at r
  rw [hC] at t
  obtain ⟨X, c, rfl⟩ := row_slice r
  exact ⟨X, c, rfl, r, ⟨t.wide (fun k hk => hk.1), h.2.trans o⟩, o⟩
theorem at_known (w : World) : Calls Try.prog 10 #[] w fun e w' => e = .returned (.bool true) ∧ OnlyF (Mine w) w w' := known_any w
end Go.Proofs.Ytgfpogmipennaaa
