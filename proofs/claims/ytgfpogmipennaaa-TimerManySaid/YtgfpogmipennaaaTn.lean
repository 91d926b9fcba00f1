/- TimerMany: a hundred may be set; one more is refused, but one that is set already. No condition of the program's own. -/
import Derived.Test.YtgfpogmipennaaaTm
namespace Go.Proofs.Ytgfpogmipennaaa
open Go.RowKit Go.Deep
/-- Behind k of them. -/
structure Mn (k : Nat) (S : List It) : Prop where
  len : S.length = min k 100
  has : ∀ j : Nat, j < min k 100 → isIn (j : Int) S = true
  all : ∀ y ∈ S, 0 ≤ y.1 ∧ y.1 < (k : Int) ∧ 0 ≤ y.2
theorem Mn.fresh {k : Nat} {S : List It} (h : Mn k S) : isIn (k : Int) S = false := isIn_false.2 (fun y hy e => by have := h.all y hy; omega)
theorem Mn.lo {k : Nat} {S : List It} (h : Mn k S) (hk : k < 100) (t : Int) (ht : 0 ≤ t) : setR (k : Int) S = 0 ∧ Mn (k + 1) (setT (k : Int) t S) := by
  have hr : setR (k : Int) S = 0 := by unfold setR; rw [if_neg (by omega), if_pos (.inr (by rw [h.len]; omega))]
  have e : setT (k : Int) t S = ins ((k : Int), t) S := by unfold setT setS; rw [if_pos hr, del_none h.fresh]
  refine ⟨hr, ?_⟩
  rw [e]
  refine ⟨by rw [(ins_perm _ S).length_eq, List.length_cons, h.len]; omega, fun j hj => ?_, fun y hy => ?_⟩
  · by_cases e : j = k
    · exact isIn_iff.2 ⟨((k : Int), t), mem_ins.2 (.inl rfl), by rw [e]⟩
    · obtain ⟨y, hy, e2⟩ := isIn_iff.1 (h.has j (by omega))
      exact isIn_iff.2 ⟨y, mem_ins.2 (.inr hy), e2⟩
  · rcases mem_ins.1 hy with rfl | hy
    · exact ⟨by show (0 : Int) ≤ (k : Int); omega, by show (k : Int) < ((k + 1 : Nat) : Int); omega, ht⟩
    · have := h.all y hy; omega
theorem Mn.hi {k : Nat} {S : List It} (h : Mn k S) (hk : ¬ k < 100) (t : Int) : setR (k : Int) S = 4 ∧ Mn (k + 1) (setT (k : Int) t S) := by
  have hr : setR (k : Int) S = 4 := by
    unfold setR; rw [if_neg (by omega), if_neg]
    rintro (e | e)
    · rw [h.fresh] at e; cases e
    · rw [h.len] at e; omega
  have e : setT (k : Int) t S = S := by unfold setT; rw [if_neg (by rw [hr]; decide)]
  refine ⟨hr, ?_⟩
  rw [e]
  exact ⟨by rw [h.len]; omega, fun j hj => h.has j (by omega), fun y hy => by have := h.all y hy; omega⟩
theorem del_len {S : List It} (hn : (ids S).Nodup) {id : Int} (h : isIn id S = true) : (del id S).length + 1 = S.length := by
  obtain ⟨y, hy, e⟩ := isIn_iff.1 h
  obtain ⟨r, hr⟩ : ∃ r, S.Perm (y :: r) := ⟨_, List.perm_cons_erase hy⟩
  have := (del_perm hr hn).length_eq
  rw [e] at this
  rw [this, hr.length_eq, List.length_cons]
theorem Mn.again {n : Nat} {S : List It} (h : Mn n S) (hn : (ids S).Nodup) (r : Nat) (hr : r < min n 100) :
    setR (r : Int) S = 0 ∧ (setT (r : Int) (-7) S).length = min n 100 ∧ ((setT (r : Int) (-7) S).head?.map (·.2)).getD 0 = -7 ∧ (setT (r : Int) (-7) S).isEmpty = false := by
  have hin := h.has r hr
  have h0 : setR (r : Int) S = 0 := by unfold setR; rw [if_neg (by omega), if_pos (.inl hin)]
  have e : setT (r : Int) (-7) S = ((r : Int), -7) :: del (r : Int) S := by
    unfold setT setS; rw [if_pos h0]
    cases hd : del (r : Int) S with
    | nil => rfl
    | cons y q =>
      unfold ins
      rw [if_neg]
      have : y ∈ S := (mem_del.1 (by rw [hd]; simp : y ∈ del (r : Int) S)).1
      have := h.all y this
      unfold ilt
      simp only
      omega
  refine ⟨h0, ?_, by rw [e]; rfl, by rw [e]; rfl⟩
  rw [e, List.length_cons, del_len hn hin, h.len]
set_option maxRecDepth 100000 in
set_option maxHeartbeats 1000000 in
theorem timerMany_walk (n0 again : Int) (w : World) (i1 : -9223372036854775808 ≤ n0) (i2 : n0 ≤ 9223372036854775807) (a1 : -9223372036854775808 ≤ again) (a2 : again ≤ 9223372036854775807) :
    Calls Try.prog 5 #[.int .i64 n0, .int .i64 again] w fun e w' => e = .returned (.bool true) ∧ w.grownBy w' none := by
  have I1 := Lib.hid i1
  have I2 := Lib.hid i2
  have A1 := Lib.hid a1
  have A2 := Lib.hid a2
  clear i1 i2 a1 a2
  go_enter Try.func5, Try.ntmps5
  go_wp2_with fail
  refine (known_any w).mono ?_
  rintro e w1 ⟨rfl, o1⟩
  go_wp2_with fail
  refine (within_any n0 110 I1.out I2.out (by omega) (by omega) w1).mono ?_
  rintro e w2 ⟨rfl, rfl⟩
  obtain ⟨n, hn⟩ : ∃ n : Nat, n0 % 110 = (n : Int) := ⟨(n0 % 110).toNat, by have := Int.emod_nonneg n0 (show (110 : Int) ≠ 0 by decide); omega⟩
  rw [hn]
  have n1 : n < 110 := by have := Int.emod_lt_of_pos n0 (show (0 : Int) < 110 by decide); omega
  clear hn
  go_wp2_with fail
  refine (at_new o1).mono ?_
  rintro e w2 ⟨B, rfl, T2⟩
  clear o1
  have T2 := Lib.hid T2
  go_wp2_with fail
  go_loopw [6] (fun sk wr => ∃ (k : Nat) (S : List It), sk = .int .i64 k ∧ k ≤ n ∧ Hid (Mn k S) ∧ Hid (At w wr B S)) (fun sk _ => n - (intOf sk).toNat)
  case atStart => exact ⟨0, [], rfl, Nat.zero_le _, Lib.hid ⟨rfl, fun j hj => by omega, fun y hy => by cases hy⟩, T2⟩
  case round =>
    clear T2
    obtain ⟨k, S, rfl, hk, M, T⟩ := hrel
    have hes : IntKind.i64.wrap ((k : Int) + 1) = (k : Int) + 1 := by rw [IntKind.wrap_i64]; omega
    by_cases h1 : k < n
    · have t1 : (k : Int) < (n : Int) := by omega
      have hw : IntKind.i64.wrap (1000 - (k : Int)) = 1000 - (k : Int) := by rw [IntKind.wrap_i64]; omega
      by_cases h2 : k < 100
      · have t2 : (k : Int) < 100 := by omega
        have R := Lib.hid (M.out.lo h2 (1000 - (k : Int)) (by omega))
        go_wp2_with fail
        refine (at_set T.out (by rw [M.out.len]; omega) k (1000 - (k : Int))).mono ?_
        rintro e w3 ⟨rfl, T3⟩
        rw [R.out.1]
        have T3 := Lib.hid T3
        go_wp2_with fail
        go_roundw
        case rel => exact ⟨k + 1, _, by go_num, by omega, Lib.hid R.out.2, T3⟩
        case measure => simp [intOf]; omega
      · have t2 : ¬ (k : Int) < 100 := by omega
        have R := Lib.hid (M.out.hi h2 (1000 - (k : Int)))
        go_wp2_with fail
        refine (at_set T.out (by rw [M.out.len]; omega) k (1000 - (k : Int))).mono ?_
        rintro e w3 ⟨rfl, T3⟩
        rw [R.out.1]
        have T3 := Lib.hid T3
        go_wp2_with fail
        go_roundw
        case rel => exact ⟨k + 1, _, by go_num, by omega, Lib.hid R.out.2, T3⟩
        case measure => simp [intOf]; omega
    · have t1 : ¬ (k : Int) < (n : Int) := by omega
      obtain rfl : k = n := by omega
      by_cases hz : k = 0
      · subst hz
        have hS : S = [] := List.eq_nil_of_length_eq_zero (by rw [M.out.len]; rfl)
        subst hS
        go_wp2_with fail
        refine (at_len T.out).mono ?_
        rintro e w3 ⟨rfl, rfl⟩
        go_wp2_with fail
        refine (at_set T.out (by simp) (-1) 5).mono ?_
        rintro e w3 ⟨rfl, T3⟩
        rw [show setR (-1) [] = 1 by rfl]
        go_wp2_with fail
        go_ret
        exact ⟨rfl, T3.end⟩
      · have t3 : ((k : Int) == 0) = false := by rw [beq_eq_false_iff_ne]; omega
        by_cases h100 : k ≤ 100
        · have t4 : (k : Int) ≤ 100 := by omega
          obtain ⟨r, hr⟩ : ∃ r : Nat, again % (k : Int) = (r : Int) := ⟨(again % (k : Int)).toNat, by have := Int.emod_nonneg again (show (k : Int) ≠ 0 by omega); omega⟩
          have r1 : r < min k 100 := by have := Int.emod_lt_of_pos again (show (0 : Int) < k by omega); omega
          have R := Lib.hid (M.out.again T.out.1.nodup r r1)
          have HR := Lib.hid hr
          have SL := Lib.hid (show S.length ≤ 1099511627770 by rw [M.out.len]; omega)
          have hm : Hid ((((min k 100 : Nat) : Int) == (k : Int)) = true) := Lib.hid (by rw [beq_iff_eq]; omega)
          have W1 := Lib.hid (show (1 : Int) ≤ (k : Int) ∧ (k : Int) ≤ 9223372036854775807 by omega)
          obtain ⟨S2, hS2⟩ : ∃ S2, S2 = setT (r : Int) (-7) S := ⟨_, rfl⟩
          rw [← hS2] at R
          have HS2 := Lib.hid hS2
          have tl : (((S2.length : Nat) : Int) == (k : Int)) = true := by rw [R.out.2.1]; exact hm.out
          clear hr r1 hS2
          go_wp2_with fail
          refine (within_any again k A1.out A2.out W1.out.1 W1.out.2 wr).mono ?_
          rintro e w3 ⟨rfl, rfl⟩
          rw [HR.out]
          go_wp2_with fail
          refine (at_set T.out SL.out r (-7)).mono ?_
          rintro e w4 ⟨rfl, T4⟩
          rw [← HS2.out] at T4
          rw [R.out.1]
          go_wp2_with fail
          refine (at_next T4).mono ?_
          rintro e w5 ⟨rfl, T5⟩
          rw [R.out.2.2.1, R.out.2.2.2]
          go_wp2_with fail
          refine (at_len T5).mono ?_
          rintro e w6 ⟨rfl, rfl⟩
          go_wp2_with fail
          go_ret
          exact ⟨rfl, T5.end⟩
        · have t4 : ¬ (k : Int) ≤ 100 := by omega
          obtain ⟨r, hr⟩ : ∃ r : Nat, again % (100 : Int) = (r : Int) := ⟨(again % (100 : Int)).toNat, by have := Int.emod_nonneg again (show (100 : Int) ≠ 0 by omega); omega⟩
          have r1 : r < min k 100 := by have := Int.emod_lt_of_pos again (show (0 : Int) < 100 by omega); omega
          have R := Lib.hid (M.out.again T.out.1.nodup r r1)
          have HR := Lib.hid hr
          have SL := Lib.hid (show S.length ≤ 1099511627770 by rw [M.out.len]; omega)
          have hm : Hid ((((min k 100 : Nat) : Int) == (100 : Int)) = true) := Lib.hid (by rw [beq_iff_eq]; omega)
          have W1 := Lib.hid (show (1 : Int) ≤ (100 : Int) ∧ (100 : Int) ≤ 9223372036854775807 by omega)
          obtain ⟨S2, hS2⟩ : ∃ S2, S2 = setT (r : Int) (-7) S := ⟨_, rfl⟩
          rw [← hS2] at R
          have HS2 := Lib.hid hS2
          have tl : (((S2.length : Nat) : Int) == (100 : Int)) = true := by rw [R.out.2.1]; exact hm.out
          clear hr r1 hS2
          go_wp2_with fail
          refine (within_any again 100 A1.out A2.out W1.out.1 W1.out.2 wr).mono ?_
          rintro e w3 ⟨rfl, rfl⟩
          rw [HR.out]
          go_wp2_with fail
          refine (at_set T.out SL.out r (-7)).mono ?_
          rintro e w4 ⟨rfl, T4⟩
          rw [← HS2.out] at T4
          rw [R.out.1]
          go_wp2_with fail
          refine (at_next T4).mono ?_
          rintro e w5 ⟨rfl, T5⟩
          rw [R.out.2.2.1, R.out.2.2.2]
          go_wp2_with fail
          refine (at_len T5).mono ?_
          rintro e w6 ⟨rfl, rfl⟩
          go_wp2_with fail
          go_ret
          exact ⟨rfl, T5.end⟩
end Go.Proofs.Ytgfpogmipennaaa
