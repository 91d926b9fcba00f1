/- TimerSplit: what is due up to a time is told all at once, or piece by piece, in the same order. No condition of the program's own. -/
import Derived.Test.YtgfpogmipennaaaSp
namespace Go.Proofs.Ytgfpogmipennaaa
open Go.RowKit Go.Deep
theorem Sep.drewN {w wr : World} {Bs Bt : Nat} {S T : List It} {P : Nat → Prop} (h : Sep w wr Bs Bt S T P) (n : Nat) : Sep w (wr.drewN n) Bs Bt S T P := by
  obtain ⟨Fs, Ft, a, b, c, d, e, f, g⟩ := h
  exact ⟨Fs, Ft, a.keep (only_drewN (only_refl _ _) n), b.keep (only_drewN (only_refl _ _) n), c, d, e, f, g.trans (OnlyF.still (only_drewN (only_refl _ _) n))⟩
/-- What may be set: times below fifty. -/
def Sm (n : Nat) (S : List It) : Prop := S.length ≤ n ∧ ∀ y ∈ S, y.2 < 50
theorem Sm.set {n : Nat} {S : List It} (h : Sm n S) (id t : Int) (ht : t < 50) : Sm (n + 1) (setT id t S) := by
  unfold setT
  split
  · refine ⟨?_, fun y hy => ?_⟩
    · unfold setS
      rw [(ins_perm _ _).length_eq, List.length_cons]
      have : (del id S).length ≤ S.length := List.length_filter_le _ _
      have := h.1
      omega
    · rcases mem_ins.1 hy with rfl | hy
      · exact ht
      · exact h.2 y (mem_del.1 hy).1
  · exact ⟨by have := h.1; omega, h.2⟩
theorem Sm.all {S : List It} (h : ∀ y ∈ S, y.2 < 50) (now : Int) (hn : 50 ≤ now) : S.takeWhile (isDue now) = S ∧ S.dropWhile (isDue now) = [] := by
  have := tw_split (p := isDue now) (A := S) (C := []) (fun y hy => by
    unfold isDue; rw [decide_eq_true_iff]; have := h y hy; omega) (fun z r e => by cases e)
  rw [List.append_nil] at this
  exact this
/-- The rest is due at last. -/
structure Tz (w wr : World) (Bs Bt : Nat) (S : List It) (va v : Value) (A C : List It) : Prop where
  eq : S = A ++ C
  sep : Sep w wr Bs Bt [] C (fun k => va.ownBlock = some k ∨ v.ownBlock = some k)
  all : wr.ownsRow w.heap.size 3 1 va (ids S).length (ns (ids S))
  row : wr.ownsRow w.heap.size 3 1 v (ns (ids A)).length (ns (ids A))
  ne : ∀ k, va.ownBlock = some k → v.ownBlock ≠ some k
/-- A piece is told, and laid behind the others. -/
theorem Tz.put {w wr w1 w2 : World} {Bs Bt : Nat} {S : List It} {va v v2 : Value} {A C D E : List It} {X : Option Addr} {n c : Nat} (h : Tz w wr Bs Bt S va v A C) (hC : C = D ++ E)
    (s1 : Sep w w1 Bs Bt [] E (fun k => (va.ownBlock = some k ∨ v.ownBlock = some k) ∨ (Value.slice X n c).ownBlock = some k)) (k1 : ∀ k, (va.ownBlock = some k ∨ v.ownBlock = some k) → w1.heap[k]? = wr.heap[k]?)
    (g : Grew w1 w2 w.heap.size 3 v v2 (ns (ids A) ++ ns (ids D))) : Tz w w2 Bs Bt S va v2 (A ++ D) E := by
  have a1 : w1.ownsRow w.heap.size 3 1 va (ids S).length (ns (ids S)) := row_keep h.all (fun q hq => k1 q (.inl hq))
  have hne : ∀ q, va.ownBlock = some q → v2.ownBlock ≠ some q := fun q hq e => by
    rcases g.at_ with e2 | ⟨q2, e2, e3⟩
    · exact h.ne q hq (by rw [← e2, e])
    · rw [e2] at e; cases e
      have := row_lt a1 q hq
      omega
  refine ⟨by rw [h.eq, hC, List.append_assoc], ?_, ?_, ?_, hne⟩
  · refine s1.grow (OnlyF.of g.only (fun k hk => ⟨.inl (.inr hk), row_ge h.row k hk⟩)) (fun k hk => ?_)
    rcases hk with hk | hk
    · exact ⟨Nat.lt_of_lt_of_le (row_lt a1 k hk) g.only.size, .inl (.inl (.inl hk))⟩
    · refine ⟨row_lt g.own k hk, ?_⟩
      rcases g.at_ with e2 | ⟨q2, e2, e3⟩
      · exact .inl (.inl (.inr (by rw [← e2]; exact hk)))
      · rw [e2] at hk; cases hk; exact .inr e3
  · exact row_keep a1 (fun q hq => g.only.block q (row_lt a1 q hq) (fun e => h.ne q hq e.symm))
  · have e : ns (ids (A ++ D)) = ns (ids A) ++ ns (ids D) := by simp [ids, ns]
    rw [e]; exact g.own
theorem src_row {w : World} {base n c : Nat} {A : Option Addr} {l : List Int} (h : w.ownsRow base 3 1 (.slice A n c) n (ns l)) (hn : n = l.length) : Src Try.prog 1 22 (.slice A n c) (ns l).length (ns l) w := by
  have e : n = (ns l).length := by rw [ns_len, hn]
  subst e
  exact (Has.own h).src Try.underlying22 c (ns_one l)
theorem within_eq (n m : Int) (h : -9223372036854775808 ≤ n ∧ n ≤ 9223372036854775807) (m1 : 1 ≤ m) (m2 : m ≤ 9223372036854775807) (w : World) :
    Calls Try.prog 13 #[.int .i64 n, .int .i64 m] w fun e w' => e = .returned (.int .i64 (n % m)) ∧ w' = w := (within_any n m h.1 h.2 m1 m2 w).mono fun _ _ h => ⟨h.1, h.2.symm⟩
set_option maxRecDepth 100000 in
set_option maxHeartbeats 1000000 in
theorem timerSplit_walk (A : Option Addr) (c : Nat) (z : List Int) (A1 : Option Addr) (c1 : Nat) (z1 : List Int) (A2 : Option Addr) (c2 : Nat) (z2 : List Int) (w : World)
    (h : Has w w.heap.size A (ns z)) (hz : ∀ x ∈ z, -9223372036854775808 ≤ x ∧ x ≤ 9223372036854775807) (h1 : Has w w.heap.size A1 (ns z1)) (hz1 : ∀ x ∈ z1, -9223372036854775808 ≤ x ∧ x ≤ 9223372036854775807) (h2 : Has w w.heap.size A2 (ns z2)) (hz2 : ∀ x ∈ z2, -9223372036854775808 ≤ x ∧ x ≤ 9223372036854775807) :
    Calls Try.prog 7 #[.slice A z.length c, .slice A1 z1.length c1, .slice A2 z2.length c2] w fun e w' => e = .returned (.bool true) ∧ w.grownBy w' none := by
  have HH := Lib.hid h
  have HZ := Lib.hid hz
  have HH1 := Lib.hid h1
  have HZ1 := Lib.hid hz1
  have HH2 := Lib.hid h2
  have HZ2 := Lib.hid hz2
  clear h hz h1 hz1 h2 hz2
  go_enter Try.func7, Try.ntmps7
  go_wp2_with fail
  refine (known_any w).mono ?_
  rintro e w1 ⟨rfl, o1⟩
  go_wp2_with fail
  refine (sep_new o1).mono ?_
  rintro e w2 ⟨Bs, rfl, hnew⟩
  have NEW := Lib.hid hnew
  clear hnew o1
  go_wp2_with fail
  refine NEW.out.mono ?_
  rintro e w3 ⟨Bt, rfl, s3⟩
  have S3 := Lib.hid s3
  clear s3 NEW
  go_wp2_with fail
  go_loopw [9] (fun si wr => ∃ (i : Nat) (S : List It), si = .int .i64 i ∧ i ≤ z.length ∧ i ≤ z1.length ∧ i ≤ 80 ∧ Hid (Sm i S) ∧ Hid (Sep w wr Bs Bt S S (fun _ => False))) (fun si _ => 80 - (intOf si).toNat)
  case atStart => exact ⟨0, [], rfl, Nat.zero_le _, Nat.zero_le _, Nat.zero_le _, Lib.hid ⟨Nat.le_refl _, fun y hy => by cases hy⟩, S3⟩
  case round =>
    clear S3
    obtain ⟨i, S, rfl, hi, hi1, hi80, M, T⟩ := hrel
    by_cases t1 : (i : Int) < (z.length : Int)
    · by_cases t2 : (i : Int) < (z1.length : Int)
      · by_cases t3 : (i : Int) < 80
        · have t0 : (0 : Int) ≤ (i : Int) := by omega
          have hes : IntKind.i64.wrap ((i : Int) + 1) = (i : Int) + 1 := by rw [IntKind.wrap_i64]; omega
          obtain ⟨x, hx⟩ : ∃ x, z[i]? = some x := ⟨z[i]'(by omega), by simp⟩
          obtain ⟨y, hy⟩ : ∃ y, z1[i]? = some y := ⟨z1[i]'(by omega), by simp⟩
          obtain ⟨b, off, rfl, _, cx⟩ := (HH.out.mine T.out.only).int hx
          obtain ⟨b1, off1, rfl, _, cy⟩ := (HH1.out.mine T.out.only).int hy
          have X1 := Lib.hid (HZ.out x (List.mem_of_getElem? hx))
          have Y1 := Lib.hid (HZ1.out y (List.mem_of_getElem? hy))
          have HX := Lib.hid hx
          have HY := Lib.hid hy
          have LS : Hid (S.length ≤ 1099511627770) := Lib.hid (by have := M.out.1; omega)
          have ND := Lib.hid (M.out.set (x % 60) (y % 50) (Int.emod_lt_of_pos _ (by decide)))
          clear hx hy
          go_wp2_with fail
          refine wp_region_still_tail 11 (by kernel_rfl) (by kernel_rfl) ?_
          simp only [List.take_succ_cons, List.take_zero, List.drop_succ_cons, List.drop_zero]
          repeat still_step
          still_call (within_eq x 60 X1.out (by omega) (by omega) _)
          repeat still_step
          still_call (within_eq y 50 Y1.out (by omega) (by omega) _)
          repeat still_step
          refine wpStill_nil ?_
          go_wp2_with fail
          refine (sep_set (T.out.drewN 1) LS.out (x % 60) (y % 50)).mono ?_
          rintro e w4 ⟨rfl, s4, _⟩
          have S4 := Lib.hid s4.symm
          have gx : w4.cell? ⟨b, off + i, none⟩ = some (.int .i64 x) := by
            obtain ⟨b', off', hA, _, cx'⟩ := (HH.out.mine s4.only).int HX.out
            injection hA with hA; injection hA with hA1 hA2
            subst hA1; subst hA2
            exact cx'
          have gy : w4.cell? ⟨b1, off1 + i, none⟩ = some (.int .i64 y) := by
            obtain ⟨b', off', hA, _, cy'⟩ := (HH1.out.mine s4.only).int HY.out
            injection hA with hA; injection hA with hA1 hA2
            subst hA1; subst hA2
            exact cy'
          clear s4 cx cy
          go_wp2_with fail
          refine wp_region_still_tail 11 (by kernel_rfl) (by kernel_rfl) ?_
          simp only [List.take_succ_cons, List.take_zero, List.drop_succ_cons, List.drop_zero]
          repeat still_step
          still_call (within_eq x 60 X1.out (by omega) (by omega) _)
          repeat still_step
          still_call (within_eq y 50 Y1.out (by omega) (by omega) _)
          repeat still_step
          refine wpStill_nil ?_
          go_wp2_with fail
          refine (sep_set (S4.out.drewN 1) LS.out (x % 60) (y % 50)).mono ?_
          rintro e w5 ⟨rfl, s5, _⟩
          have S5 := Lib.hid s5.symm
          clear s5 gx gy
          go_wp2_with fail
          go_roundw
          case rel => exact ⟨i + 1, _, by go_num, by omega, by omega, by omega, ND, S5⟩
          case measure => simp [intOf]; omega
        · have M0 := M
          have SM := Lib.hid (Sm.all M.out.2 60 (by omega))
          have LS : Hid (S.length ≤ 80) := Lib.hid (by have := M.out.1; omega)
          go_wp2_with fail
          refine (sep_due T.out (by have := LS.out; omega) 60 (l := ids S) (C := []) (by rw [SM.out.1]) SM.out.2).mono ?_
          rintro e w4 ⟨Xa, ca, rfl, ra, s4, _, z4⟩
          have TZ : Hid (Tz w w4 Bs Bt S (.slice Xa (ids S).length ca) (.slice none 0 0) [] S) := Lib.hid ⟨rfl, s4.less (fun k hk => by
              rcases hk with hk | hk
              · exact .inr hk
              · cases hk), own_less ra T.out.only.size, World.ownsRow_nil _ _ _ 1, fun k _ e => by cases e⟩
          clear ra s4
          go_wp2_with fail
          go_loopw [11, 12, 13] (fun sl sn sj wr => ∃ (j : Nat) (now : Int) (A C : List It), sn = .int .i64 now ∧ sj = .int .i64 j ∧ 0 ≤ now ∧ now ≤ 7 * j ∧ j ≤ z2.length ∧ j ≤ 20 ∧ Hid (Tz w wr Bs Bt S (.slice Xa (ids S).length ca) sl A C)) (fun _ _ sj _ => 20 - (intOf sj).toNat)
          case atStart => exact ⟨0, 0, [], S, rfl, rfl, by omega, by omega, Nat.zero_le _, Nat.zero_le _, TZ⟩
          case round =>
            clear TZ
            obtain ⟨j, now, A', C, rfl, rfl, now0, now7, hj, hj20, TZ⟩ := hrel
            have lens : Hid (A'.length + C.length ≤ 80) := Lib.hid (by have h1 := congrArg List.length TZ.out.eq; rw [List.length_append] at h1; have := LS.out; omega)
            have lenA : (ns (ids A')).length = A'.length := by rw [ns_len]; simp [ids]
            by_cases u1 : (j : Int) < (z2.length : Int)
            · by_cases u2 : (j : Int) < 20
              · have u0 : (0 : Int) ≤ (j : Int) := by omega
                have hes : IntKind.i64.wrap ((j : Int) + 1) = (j : Int) + 1 := by rw [IntKind.wrap_i64]; omega
                obtain ⟨q, hq⟩ : ∃ q, z2[j]? = some q := ⟨z2[j]'(by omega), by simp⟩
                obtain ⟨b, off, rfl, _, cq⟩ := (HH2.out.mine TZ.out.sep.only).int hq
                have Q1 := HZ2.out q (List.mem_of_getElem? hq)
                have q0 := Int.emod_nonneg q (show (7 : Int) ≠ 0 by decide)
                have q7 := Int.emod_lt_of_pos q (show (0 : Int) < 7 by decide)
                obtain ⟨d, hd⟩ : ∃ d, d = q % 7 := ⟨_, rfl⟩
                rw [← hd] at q0 q7
                obtain ⟨now2, hn2⟩ : ∃ now2, now2 = now + d := ⟨_, rfl⟩
                have hw : IntKind.i64.wrap (now + d) = now2 := by rw [hn2, IntKind.wrap_i64]; omega
                have N2 := Lib.hid (show 0 ≤ now2 ∧ now2 ≤ 7 * ((j + 1 : Nat) : Int) by omega)
                have HDD := Lib.hid hd
                clear hq hn2 hd q0 q7 now0 now7
                go_wp2_with fail
                refine (within_eq q 7 Q1 (by omega) (by omega) wr).mono ?_
                rintro e w5 ⟨rfl, rfl⟩
                rw [← HDD.out]
                go_wp2_with fail
                refine (sep_due TZ.out.sep.symm (by have := lens.out; omega) now2 (l := ids (C.takeWhile (isDue now2))) (C := C.dropWhile (isDue now2)) rfl rfl).mono ?_
                rintro e w6 ⟨X6, c6, rfl, r6, s6, k6, z6⟩
                obtain ⟨D, hD⟩ : ∃ D, D = C.takeWhile (isDue now2) := ⟨_, rfl⟩
                obtain ⟨E, hE⟩ : ∃ E, E = C.dropWhile (isDue now2) := ⟨_, rfl⟩
                have hC : Hid (C = D ++ E) := Lib.hid (by rw [hD, hE]; exact List.takeWhile_append_dropWhile.symm)
                rw [← hD] at r6 s6 ⊢
                rw [← hE] at s6
                have SR := Lib.hid (src_row r6 rfl)
                have R6 := Lib.hid (row_keep TZ.out.row (fun g hg => k6 g (.inr hg)))
                have S6 := Lib.hid s6
                have K6 := Lib.hid k6
                have zb : w.heap.size ≤ w6.heap.size := Nat.le_trans TZ.out.sep.only.size z6
                have hl6 : (ns (ids A')).length + (ns (ids D)).length ≤ 8796093022208 := by
                  have h1 := congrArg List.length hC.out
                  rw [List.length_append] at h1
                  rw [lenA, ns_len]
                  have h2 : (ids D).length = D.length := by simp [ids]
                  have := lens.out
                  omega
                clear hD hE r6 s6 k6 z6
                go_wp2_with (at_builtin; refine app_ints rfl _ _ 22 rfl w.heap.size u11 (ns (ids A')) rfl R6.out (.slice X6 (ids D).length c6) (ns (ids D)) rfl SR.out hl6 zb ?_; intro v7 w7 g7; have G7 := Lib.hid g7; clear g7)
                go_roundw
                case rel => exact ⟨j + 1, now2, A' ++ D, E, rfl, by go_num, N2.out.1, N2.out.2, by omega, by omega, Lib.hid (TZ.out.put hC.out S6.out.symm K6.out G7.out)⟩
                case measure => simp [intOf]; omega
              · by_cases u3 : now < 60
                · have ALL := Lib.hid (Sm.all (fun y hy => M.out.2 y (by rw [TZ.out.eq]; exact List.mem_append.2 (.inr hy)) : ∀ y ∈ C, y.2 < 50) 60 (by omega))
                  go_wp2_with fail
                  refine (sep_due TZ.out.sep.symm (by have := lens.out; omega) 60 (l := ids C) (C := []) (by rw [ALL.out.1]) ALL.out.2).mono ?_
                  rintro e w6 ⟨X6, c6, rfl, r6, s6, k6, z6⟩
                  have SR := Lib.hid (src_row r6 rfl)
                  have R6 := Lib.hid (row_keep TZ.out.row (fun g hg => k6 g (.inr hg)))
                  have S6 := Lib.hid s6
                  have K6 := Lib.hid k6
                  have zb : w.heap.size ≤ w6.heap.size := Nat.le_trans TZ.out.sep.only.size z6
                  have hl6 : (ns (ids A')).length + (ns (ids C)).length ≤ 8796093022208 := by
                    rw [lenA, ns_len]
                    have h2 : (ids C).length = C.length := by simp [ids]
                    have := lens.out
                    omega
                  have HL := Lib.hid hl6
                  clear r6 s6 k6 z6
                  go_wp2_with (at_builtin; refine app_ints rfl _ _ 22 rfl w.heap.size u11 (ns (ids A')) rfl R6.out (.slice X6 (ids C).length c6) (ns (ids C)) rfl SR.out HL.out zb ?_; intro v7 w7 g7; have G7 := Lib.hid (TZ.out.put (E := []) (by simp) S6.out.symm K6.out g7); clear g7)
                  have R7 := G7.out.row
                  rw [← TZ.out.eq] at R7
                  rw [ns_len] at R7
                  obtain ⟨X7, c7, rfl⟩ := row_slice R7
                  have HA := Lib.hid (Has.own (show w7.ownsRow w.heap.size 3 1 (.slice Xa (ns (ids S)).length ca) (ns (ids S)).length (ns (ids S)) by rw [ns_len]; exact G7.out.all))
                  have HB := Lib.hid (Has.own (show w7.ownsRow w.heap.size 3 1 (.slice X7 (ns (ids S)).length c7) (ns (ids S)).length (ns (ids S)) by rw [ns_len]; exact R7))
                  clear R7 lenA hl6
                  refine (ints_same Xa X7 ca c7 (ids S) w7 w7.heap.size HA.out HB.out (by have := LS.out; have h2 : (ids S).length = S.length := (by simp [ids]); omega)).mono ?_
                  rintro e w8 ⟨rfl, n8, rfl⟩
                  have S8 := Lib.hid (G7.out.sep.drewN n8)
                  go_wp2_with fail
                  refine (at_len S8.out.fst).mono ?_
                  rintro e w9 ⟨rfl, rfl⟩
                  go_wp2_with fail
                  refine (at_len S8.out.symm.fst).mono ?_
                  rintro e w9 ⟨rfl, rfl⟩
                  go_wp2_with fail
                  go_ret
                  exact ⟨rfl, S8.out.fst.end⟩
                · have u4 := u3
                  have ALL := Lib.hid (Sm.all (fun y hy => M.out.2 y (by rw [TZ.out.eq]; exact List.mem_append.2 (.inr hy)) : ∀ y ∈ C, y.2 < 50) now (by omega))
                  go_wp2_with fail
                  refine (sep_due TZ.out.sep.symm (by have := lens.out; omega) now (l := ids C) (C := []) (by rw [ALL.out.1]) ALL.out.2).mono ?_
                  rintro e w6 ⟨X6, c6, rfl, r6, s6, k6, z6⟩
                  have SR := Lib.hid (src_row r6 rfl)
                  have R6 := Lib.hid (row_keep TZ.out.row (fun g hg => k6 g (.inr hg)))
                  have S6 := Lib.hid s6
                  have K6 := Lib.hid k6
                  have zb : w.heap.size ≤ w6.heap.size := Nat.le_trans TZ.out.sep.only.size z6
                  have hl6 : (ns (ids A')).length + (ns (ids C)).length ≤ 8796093022208 := by
                    rw [lenA, ns_len]
                    have h2 : (ids C).length = C.length := by simp [ids]
                    have := lens.out
                    omega
                  have HL := Lib.hid hl6
                  clear r6 s6 k6 z6
                  go_wp2_with (at_builtin; refine app_ints rfl _ _ 22 rfl w.heap.size u11 (ns (ids A')) rfl R6.out (.slice X6 (ids C).length c6) (ns (ids C)) rfl SR.out HL.out zb ?_; intro v7 w7 g7; have G7 := Lib.hid (TZ.out.put (E := []) (by simp) S6.out.symm K6.out g7); clear g7)
                  have R7 := G7.out.row
                  rw [← TZ.out.eq] at R7
                  rw [ns_len] at R7
                  obtain ⟨X7, c7, rfl⟩ := row_slice R7
                  have HA := Lib.hid (Has.own (show w7.ownsRow w.heap.size 3 1 (.slice Xa (ns (ids S)).length ca) (ns (ids S)).length (ns (ids S)) by rw [ns_len]; exact G7.out.all))
                  have HB := Lib.hid (Has.own (show w7.ownsRow w.heap.size 3 1 (.slice X7 (ns (ids S)).length c7) (ns (ids S)).length (ns (ids S)) by rw [ns_len]; exact R7))
                  clear R7 lenA hl6
                  refine (ints_same Xa X7 ca c7 (ids S) w7 w7.heap.size HA.out HB.out (by have := LS.out; have h2 : (ids S).length = S.length := (by simp [ids]); omega)).mono ?_
                  rintro e w8 ⟨rfl, n8, rfl⟩
                  have S8 := Lib.hid (G7.out.sep.drewN n8)
                  go_wp2_with fail
                  refine (at_len S8.out.fst).mono ?_
                  rintro e w9 ⟨rfl, rfl⟩
                  go_wp2_with fail
                  refine (at_len S8.out.symm.fst).mono ?_
                  rintro e w9 ⟨rfl, rfl⟩
                  go_wp2_with fail
                  go_ret
                  exact ⟨rfl, S8.out.fst.end⟩
            · by_cases u3 : now < 60
              · have ALL := Lib.hid (Sm.all (fun y hy => M.out.2 y (by rw [TZ.out.eq]; exact List.mem_append.2 (.inr hy)) : ∀ y ∈ C, y.2 < 50) 60 (by omega))
                go_wp2_with fail
                refine (sep_due TZ.out.sep.symm (by have := lens.out; omega) 60 (l := ids C) (C := []) (by rw [ALL.out.1]) ALL.out.2).mono ?_
                rintro e w6 ⟨X6, c6, rfl, r6, s6, k6, z6⟩
                have SR := Lib.hid (src_row r6 rfl)
                have R6 := Lib.hid (row_keep TZ.out.row (fun g hg => k6 g (.inr hg)))
                have S6 := Lib.hid s6
                have K6 := Lib.hid k6
                have zb : w.heap.size ≤ w6.heap.size := Nat.le_trans TZ.out.sep.only.size z6
                have hl6 : (ns (ids A')).length + (ns (ids C)).length ≤ 8796093022208 := by
                  rw [lenA, ns_len]
                  have h2 : (ids C).length = C.length := by simp [ids]
                  have := lens.out
                  omega
                have HL := Lib.hid hl6
                clear r6 s6 k6 z6
                go_wp2_with (at_builtin; refine app_ints rfl _ _ 22 rfl w.heap.size u11 (ns (ids A')) rfl R6.out (.slice X6 (ids C).length c6) (ns (ids C)) rfl SR.out HL.out zb ?_; intro v7 w7 g7; have G7 := Lib.hid (TZ.out.put (E := []) (by simp) S6.out.symm K6.out g7); clear g7)
                have R7 := G7.out.row
                rw [← TZ.out.eq] at R7
                rw [ns_len] at R7
                obtain ⟨X7, c7, rfl⟩ := row_slice R7
                have HA := Lib.hid (Has.own (show w7.ownsRow w.heap.size 3 1 (.slice Xa (ns (ids S)).length ca) (ns (ids S)).length (ns (ids S)) by rw [ns_len]; exact G7.out.all))
                have HB := Lib.hid (Has.own (show w7.ownsRow w.heap.size 3 1 (.slice X7 (ns (ids S)).length c7) (ns (ids S)).length (ns (ids S)) by rw [ns_len]; exact R7))
                clear R7 lenA hl6
                refine (ints_same Xa X7 ca c7 (ids S) w7 w7.heap.size HA.out HB.out (by have := LS.out; have h2 : (ids S).length = S.length := (by simp [ids]); omega)).mono ?_
                rintro e w8 ⟨rfl, n8, rfl⟩
                have S8 := Lib.hid (G7.out.sep.drewN n8)
                go_wp2_with fail
                refine (at_len S8.out.fst).mono ?_
                rintro e w9 ⟨rfl, rfl⟩
                go_wp2_with fail
                refine (at_len S8.out.symm.fst).mono ?_
                rintro e w9 ⟨rfl, rfl⟩
                go_wp2_with fail
                go_ret
                exact ⟨rfl, S8.out.fst.end⟩
              · have u4 := u3
                have ALL := Lib.hid (Sm.all (fun y hy => M.out.2 y (by rw [TZ.out.eq]; exact List.mem_append.2 (.inr hy)) : ∀ y ∈ C, y.2 < 50) now (by omega))
                go_wp2_with fail
                refine (sep_due TZ.out.sep.symm (by have := lens.out; omega) now (l := ids C) (C := []) (by rw [ALL.out.1]) ALL.out.2).mono ?_
                rintro e w6 ⟨X6, c6, rfl, r6, s6, k6, z6⟩
                have SR := Lib.hid (src_row r6 rfl)
                have R6 := Lib.hid (row_keep TZ.out.row (fun g hg => k6 g (.inr hg)))
                have S6 := Lib.hid s6
                have K6 := Lib.hid k6
                have zb : w.heap.size ≤ w6.heap.size := Nat.le_trans TZ.out.sep.only.size z6
                have hl6 : (ns (ids A')).length + (ns (ids C)).length ≤ 8796093022208 := by
                  rw [lenA, ns_len]
                  have h2 : (ids C).length = C.length := by simp [ids]
                  have := lens.out
                  omega
                have HL := Lib.hid hl6
                clear r6 s6 k6 z6
                go_wp2_with (at_builtin; refine app_ints rfl _ _ 22 rfl w.heap.size u11 (ns (ids A')) rfl R6.out (.slice X6 (ids C).length c6) (ns (ids C)) rfl SR.out HL.out zb ?_; intro v7 w7 g7; have G7 := Lib.hid (TZ.out.put (E := []) (by simp) S6.out.symm K6.out g7); clear g7)
                have R7 := G7.out.row
                rw [← TZ.out.eq] at R7
                rw [ns_len] at R7
                obtain ⟨X7, c7, rfl⟩ := row_slice R7
                have HA := Lib.hid (Has.own (show w7.ownsRow w.heap.size 3 1 (.slice Xa (ns (ids S)).length ca) (ns (ids S)).length (ns (ids S)) by rw [ns_len]; exact G7.out.all))
                have HB := Lib.hid (Has.own (show w7.ownsRow w.heap.size 3 1 (.slice X7 (ns (ids S)).length c7) (ns (ids S)).length (ns (ids S)) by rw [ns_len]; exact R7))
                clear R7 lenA hl6
                refine (ints_same Xa X7 ca c7 (ids S) w7 w7.heap.size HA.out HB.out (by have := LS.out; have h2 : (ids S).length = S.length := (by simp [ids]); omega)).mono ?_
                rintro e w8 ⟨rfl, n8, rfl⟩
                have S8 := Lib.hid (G7.out.sep.drewN n8)
                go_wp2_with fail
                refine (at_len S8.out.fst).mono ?_
                rintro e w9 ⟨rfl, rfl⟩
                go_wp2_with fail
                refine (at_len S8.out.symm.fst).mono ?_
                rintro e w9 ⟨rfl, rfl⟩
                go_wp2_with fail
                go_ret
                exact ⟨rfl, S8.out.fst.end⟩

      · have M0 := M
        have SM := Lib.hid (Sm.all M.out.2 60 (by omega))
        have LS : Hid (S.length ≤ 80) := Lib.hid (by have := M.out.1; omega)
        go_wp2_with fail
        refine (sep_due T.out (by have := LS.out; omega) 60 (l := ids S) (C := []) (by rw [SM.out.1]) SM.out.2).mono ?_
        rintro e w4 ⟨Xa, ca, rfl, ra, s4, _, z4⟩
        have TZ : Hid (Tz w w4 Bs Bt S (.slice Xa (ids S).length ca) (.slice none 0 0) [] S) := Lib.hid ⟨rfl, s4.less (fun k hk => by
            rcases hk with hk | hk
            · exact .inr hk
            · cases hk), own_less ra T.out.only.size, World.ownsRow_nil _ _ _ 1, fun k _ e => by cases e⟩
        clear ra s4
        go_wp2_with fail
        go_loopw [11, 12, 13] (fun sl sn sj wr => ∃ (j : Nat) (now : Int) (A C : List It), sn = .int .i64 now ∧ sj = .int .i64 j ∧ 0 ≤ now ∧ now ≤ 7 * j ∧ j ≤ z2.length ∧ j ≤ 20 ∧ Hid (Tz w wr Bs Bt S (.slice Xa (ids S).length ca) sl A C)) (fun _ _ sj _ => 20 - (intOf sj).toNat)
        case atStart => exact ⟨0, 0, [], S, rfl, rfl, by omega, by omega, Nat.zero_le _, Nat.zero_le _, TZ⟩
        case round =>
          clear TZ
          obtain ⟨j, now, A', C, rfl, rfl, now0, now7, hj, hj20, TZ⟩ := hrel
          have lens : Hid (A'.length + C.length ≤ 80) := Lib.hid (by have h1 := congrArg List.length TZ.out.eq; rw [List.length_append] at h1; have := LS.out; omega)
          have lenA : (ns (ids A')).length = A'.length := by rw [ns_len]; simp [ids]
          by_cases u1 : (j : Int) < (z2.length : Int)
          · by_cases u2 : (j : Int) < 20
            · have u0 : (0 : Int) ≤ (j : Int) := by omega
              have hes : IntKind.i64.wrap ((j : Int) + 1) = (j : Int) + 1 := by rw [IntKind.wrap_i64]; omega
              obtain ⟨q, hq⟩ : ∃ q, z2[j]? = some q := ⟨z2[j]'(by omega), by simp⟩
              obtain ⟨b, off, rfl, _, cq⟩ := (HH2.out.mine TZ.out.sep.only).int hq
              have Q1 := HZ2.out q (List.mem_of_getElem? hq)
              have q0 := Int.emod_nonneg q (show (7 : Int) ≠ 0 by decide)
              have q7 := Int.emod_lt_of_pos q (show (0 : Int) < 7 by decide)
              obtain ⟨d, hd⟩ : ∃ d, d = q % 7 := ⟨_, rfl⟩
              rw [← hd] at q0 q7
              obtain ⟨now2, hn2⟩ : ∃ now2, now2 = now + d := ⟨_, rfl⟩
              have hw : IntKind.i64.wrap (now + d) = now2 := by rw [hn2, IntKind.wrap_i64]; omega
              have N2 := Lib.hid (show 0 ≤ now2 ∧ now2 ≤ 7 * ((j + 1 : Nat) : Int) by omega)
              have HDD := Lib.hid hd
              clear hq hn2 hd q0 q7 now0 now7
              go_wp2_with fail
              refine (within_eq q 7 Q1 (by omega) (by omega) wr).mono ?_
              rintro e w5 ⟨rfl, rfl⟩
              rw [← HDD.out]
              go_wp2_with fail
              refine (sep_due TZ.out.sep.symm (by have := lens.out; omega) now2 (l := ids (C.takeWhile (isDue now2))) (C := C.dropWhile (isDue now2)) rfl rfl).mono ?_
              rintro e w6 ⟨X6, c6, rfl, r6, s6, k6, z6⟩
              obtain ⟨D, hD⟩ : ∃ D, D = C.takeWhile (isDue now2) := ⟨_, rfl⟩
              obtain ⟨E, hE⟩ : ∃ E, E = C.dropWhile (isDue now2) := ⟨_, rfl⟩
              have hC : Hid (C = D ++ E) := Lib.hid (by rw [hD, hE]; exact List.takeWhile_append_dropWhile.symm)
              rw [← hD] at r6 s6 ⊢
              rw [← hE] at s6
              have SR := Lib.hid (src_row r6 rfl)
              have R6 := Lib.hid (row_keep TZ.out.row (fun g hg => k6 g (.inr hg)))
              have S6 := Lib.hid s6
              have K6 := Lib.hid k6
              have zb : w.heap.size ≤ w6.heap.size := Nat.le_trans TZ.out.sep.only.size z6
              have hl6 : (ns (ids A')).length + (ns (ids D)).length ≤ 8796093022208 := by
                have h1 := congrArg List.length hC.out
                rw [List.length_append] at h1
                rw [lenA, ns_len]
                have h2 : (ids D).length = D.length := by simp [ids]
                have := lens.out
                omega
              clear hD hE r6 s6 k6 z6
              go_wp2_with (at_builtin; refine app_ints rfl _ _ 22 rfl w.heap.size u11 (ns (ids A')) rfl R6.out (.slice X6 (ids D).length c6) (ns (ids D)) rfl SR.out hl6 zb ?_; intro v7 w7 g7; have G7 := Lib.hid g7; clear g7)
              go_roundw
              case rel => exact ⟨j + 1, now2, A' ++ D, E, rfl, by go_num, N2.out.1, N2.out.2, by omega, by omega, Lib.hid (TZ.out.put hC.out S6.out.symm K6.out G7.out)⟩
              case measure => simp [intOf]; omega
            · by_cases u3 : now < 60
              · have ALL := Lib.hid (Sm.all (fun y hy => M.out.2 y (by rw [TZ.out.eq]; exact List.mem_append.2 (.inr hy)) : ∀ y ∈ C, y.2 < 50) 60 (by omega))
                go_wp2_with fail
                refine (sep_due TZ.out.sep.symm (by have := lens.out; omega) 60 (l := ids C) (C := []) (by rw [ALL.out.1]) ALL.out.2).mono ?_
                rintro e w6 ⟨X6, c6, rfl, r6, s6, k6, z6⟩
                have SR := Lib.hid (src_row r6 rfl)
                have R6 := Lib.hid (row_keep TZ.out.row (fun g hg => k6 g (.inr hg)))
                have S6 := Lib.hid s6
                have K6 := Lib.hid k6
                have zb : w.heap.size ≤ w6.heap.size := Nat.le_trans TZ.out.sep.only.size z6
                have hl6 : (ns (ids A')).length + (ns (ids C)).length ≤ 8796093022208 := by
                  rw [lenA, ns_len]
                  have h2 : (ids C).length = C.length := by simp [ids]
                  have := lens.out
                  omega
                have HL := Lib.hid hl6
                clear r6 s6 k6 z6
                go_wp2_with (at_builtin; refine app_ints rfl _ _ 22 rfl w.heap.size u11 (ns (ids A')) rfl R6.out (.slice X6 (ids C).length c6) (ns (ids C)) rfl SR.out HL.out zb ?_; intro v7 w7 g7; have G7 := Lib.hid (TZ.out.put (E := []) (by simp) S6.out.symm K6.out g7); clear g7)
                have R7 := G7.out.row
                rw [← TZ.out.eq] at R7
                rw [ns_len] at R7
                obtain ⟨X7, c7, rfl⟩ := row_slice R7
                have HA := Lib.hid (Has.own (show w7.ownsRow w.heap.size 3 1 (.slice Xa (ns (ids S)).length ca) (ns (ids S)).length (ns (ids S)) by rw [ns_len]; exact G7.out.all))
                have HB := Lib.hid (Has.own (show w7.ownsRow w.heap.size 3 1 (.slice X7 (ns (ids S)).length c7) (ns (ids S)).length (ns (ids S)) by rw [ns_len]; exact R7))
                clear R7 lenA hl6
                refine (ints_same Xa X7 ca c7 (ids S) w7 w7.heap.size HA.out HB.out (by have := LS.out; have h2 : (ids S).length = S.length := (by simp [ids]); omega)).mono ?_
                rintro e w8 ⟨rfl, n8, rfl⟩
                have S8 := Lib.hid (G7.out.sep.drewN n8)
                go_wp2_with fail
                refine (at_len S8.out.fst).mono ?_
                rintro e w9 ⟨rfl, rfl⟩
                go_wp2_with fail
                refine (at_len S8.out.symm.fst).mono ?_
                rintro e w9 ⟨rfl, rfl⟩
                go_wp2_with fail
                go_ret
                exact ⟨rfl, S8.out.fst.end⟩
              · have u4 := u3
                have ALL := Lib.hid (Sm.all (fun y hy => M.out.2 y (by rw [TZ.out.eq]; exact List.mem_append.2 (.inr hy)) : ∀ y ∈ C, y.2 < 50) now (by omega))
                go_wp2_with fail
                refine (sep_due TZ.out.sep.symm (by have := lens.out; omega) now (l := ids C) (C := []) (by rw [ALL.out.1]) ALL.out.2).mono ?_
                rintro e w6 ⟨X6, c6, rfl, r6, s6, k6, z6⟩
                have SR := Lib.hid (src_row r6 rfl)
                have R6 := Lib.hid (row_keep TZ.out.row (fun g hg => k6 g (.inr hg)))
                have S6 := Lib.hid s6
                have K6 := Lib.hid k6
                have zb : w.heap.size ≤ w6.heap.size := Nat.le_trans TZ.out.sep.only.size z6
                have hl6 : (ns (ids A')).length + (ns (ids C)).length ≤ 8796093022208 := by
                  rw [lenA, ns_len]
                  have h2 : (ids C).length = C.length := by simp [ids]
                  have := lens.out
                  omega
                have HL := Lib.hid hl6
                clear r6 s6 k6 z6
                go_wp2_with (at_builtin; refine app_ints rfl _ _ 22 rfl w.heap.size u11 (ns (ids A')) rfl R6.out (.slice X6 (ids C).length c6) (ns (ids C)) rfl SR.out HL.out zb ?_; intro v7 w7 g7; have G7 := Lib.hid (TZ.out.put (E := []) (by simp) S6.out.symm K6.out g7); clear g7)
                have R7 := G7.out.row
                rw [← TZ.out.eq] at R7
                rw [ns_len] at R7
                obtain ⟨X7, c7, rfl⟩ := row_slice R7
                have HA := Lib.hid (Has.own (show w7.ownsRow w.heap.size 3 1 (.slice Xa (ns (ids S)).length ca) (ns (ids S)).length (ns (ids S)) by rw [ns_len]; exact G7.out.all))
                have HB := Lib.hid (Has.own (show w7.ownsRow w.heap.size 3 1 (.slice X7 (ns (ids S)).length c7) (ns (ids S)).length (ns (ids S)) by rw [ns_len]; exact R7))
                clear R7 lenA hl6
                refine (ints_same Xa X7 ca c7 (ids S) w7 w7.heap.size HA.out HB.out (by have := LS.out; have h2 : (ids S).length = S.length := (by simp [ids]); omega)).mono ?_
                rintro e w8 ⟨rfl, n8, rfl⟩
                have S8 := Lib.hid (G7.out.sep.drewN n8)
                go_wp2_with fail
                refine (at_len S8.out.fst).mono ?_
                rintro e w9 ⟨rfl, rfl⟩
                go_wp2_with fail
                refine (at_len S8.out.symm.fst).mono ?_
                rintro e w9 ⟨rfl, rfl⟩
                go_wp2_with fail
                go_ret
                exact ⟨rfl, S8.out.fst.end⟩
          · by_cases u3 : now < 60
            · have ALL := Lib.hid (Sm.all (fun y hy => M.out.2 y (by rw [TZ.out.eq]; exact List.mem_append.2 (.inr hy)) : ∀ y ∈ C, y.2 < 50) 60 (by omega))
              go_wp2_with fail
              refine (sep_due TZ.out.sep.symm (by have := lens.out; omega) 60 (l := ids C) (C := []) (by rw [ALL.out.1]) ALL.out.2).mono ?_
              rintro e w6 ⟨X6, c6, rfl, r6, s6, k6, z6⟩
              have SR := Lib.hid (src_row r6 rfl)
              have R6 := Lib.hid (row_keep TZ.out.row (fun g hg => k6 g (.inr hg)))
              have S6 := Lib.hid s6
              have K6 := Lib.hid k6
              have zb : w.heap.size ≤ w6.heap.size := Nat.le_trans TZ.out.sep.only.size z6
              have hl6 : (ns (ids A')).length + (ns (ids C)).length ≤ 8796093022208 := by
                rw [lenA, ns_len]
                have h2 : (ids C).length = C.length := by simp [ids]
                have := lens.out
                omega
              have HL := Lib.hid hl6
              clear r6 s6 k6 z6
              go_wp2_with (at_builtin; refine app_ints rfl _ _ 22 rfl w.heap.size u11 (ns (ids A')) rfl R6.out (.slice X6 (ids C).length c6) (ns (ids C)) rfl SR.out HL.out zb ?_; intro v7 w7 g7; have G7 := Lib.hid (TZ.out.put (E := []) (by simp) S6.out.symm K6.out g7); clear g7)
              have R7 := G7.out.row
              rw [← TZ.out.eq] at R7
              rw [ns_len] at R7
              obtain ⟨X7, c7, rfl⟩ := row_slice R7
              have HA := Lib.hid (Has.own (show w7.ownsRow w.heap.size 3 1 (.slice Xa (ns (ids S)).length ca) (ns (ids S)).length (ns (ids S)) by rw [ns_len]; exact G7.out.all))
              have HB := Lib.hid (Has.own (show w7.ownsRow w.heap.size 3 1 (.slice X7 (ns (ids S)).length c7) (ns (ids S)).length (ns (ids S)) by rw [ns_len]; exact R7))
              clear R7 lenA hl6
              refine (ints_same Xa X7 ca c7 (ids S) w7 w7.heap.size HA.out HB.out (by have := LS.out; have h2 : (ids S).length = S.length := (by simp [ids]); omega)).mono ?_
              rintro e w8 ⟨rfl, n8, rfl⟩
              have S8 := Lib.hid (G7.out.sep.drewN n8)
              go_wp2_with fail
              refine (at_len S8.out.fst).mono ?_
              rintro e w9 ⟨rfl, rfl⟩
              go_wp2_with fail
              refine (at_len S8.out.symm.fst).mono ?_
              rintro e w9 ⟨rfl, rfl⟩
              go_wp2_with fail
              go_ret
              exact ⟨rfl, S8.out.fst.end⟩
            · have u4 := u3
              have ALL := Lib.hid (Sm.all (fun y hy => M.out.2 y (by rw [TZ.out.eq]; exact List.mem_append.2 (.inr hy)) : ∀ y ∈ C, y.2 < 50) now (by omega))
              go_wp2_with fail
              refine (sep_due TZ.out.sep.symm (by have := lens.out; omega) now (l := ids C) (C := []) (by rw [ALL.out.1]) ALL.out.2).mono ?_
              rintro e w6 ⟨X6, c6, rfl, r6, s6, k6, z6⟩
              have SR := Lib.hid (src_row r6 rfl)
              have R6 := Lib.hid (row_keep TZ.out.row (fun g hg => k6 g (.inr hg)))
              have S6 := Lib.hid s6
              have K6 := Lib.hid k6
              have zb : w.heap.size ≤ w6.heap.size := Nat.le_trans TZ.out.sep.only.size z6
              have hl6 : (ns (ids A')).length + (ns (ids C)).length ≤ 8796093022208 := by
                rw [lenA, ns_len]
                have h2 : (ids C).length = C.length := by simp [ids]
                have := lens.out
                omega
              have HL := Lib.hid hl6
              clear r6 s6 k6 z6
              go_wp2_with (at_builtin; refine app_ints rfl _ _ 22 rfl w.heap.size u11 (ns (ids A')) rfl R6.out (.slice X6 (ids C).length c6) (ns (ids C)) rfl SR.out HL.out zb ?_; intro v7 w7 g7; have G7 := Lib.hid (TZ.out.put (E := []) (by simp) S6.out.symm K6.out g7); clear g7)
              have R7 := G7.out.row
              rw [← TZ.out.eq] at R7
              rw [ns_len] at R7
              obtain ⟨X7, c7, rfl⟩ := row_slice R7
              have HA := Lib.hid (Has.own (show w7.ownsRow w.heap.size 3 1 (.slice Xa (ns (ids S)).length ca) (ns (ids S)).length (ns (ids S)) by rw [ns_len]; exact G7.out.all))
              have HB := Lib.hid (Has.own (show w7.ownsRow w.heap.size 3 1 (.slice X7 (ns (ids S)).length c7) (ns (ids S)).length (ns (ids S)) by rw [ns_len]; exact R7))
              clear R7 lenA hl6
              refine (ints_same Xa X7 ca c7 (ids S) w7 w7.heap.size HA.out HB.out (by have := LS.out; have h2 : (ids S).length = S.length := (by simp [ids]); omega)).mono ?_
              rintro e w8 ⟨rfl, n8, rfl⟩
              have S8 := Lib.hid (G7.out.sep.drewN n8)
              go_wp2_with fail
              refine (at_len S8.out.fst).mono ?_
              rintro e w9 ⟨rfl, rfl⟩
              go_wp2_with fail
              refine (at_len S8.out.symm.fst).mono ?_
              rintro e w9 ⟨rfl, rfl⟩
              go_wp2_with fail
              go_ret
              exact ⟨rfl, S8.out.fst.end⟩

    · have M0 := M
      have SM := Lib.hid (Sm.all M.out.2 60 (by omega))
      have LS : Hid (S.length ≤ 80) := Lib.hid (by have := M.out.1; omega)
      go_wp2_with fail
      refine (sep_due T.out (by have := LS.out; omega) 60 (l := ids S) (C := []) (by rw [SM.out.1]) SM.out.2).mono ?_
      rintro e w4 ⟨Xa, ca, rfl, ra, s4, _, z4⟩
      have TZ : Hid (Tz w w4 Bs Bt S (.slice Xa (ids S).length ca) (.slice none 0 0) [] S) := Lib.hid ⟨rfl, s4.less (fun k hk => by
          rcases hk with hk | hk
          · exact .inr hk
          · cases hk), own_less ra T.out.only.size, World.ownsRow_nil _ _ _ 1, fun k _ e => by cases e⟩
      clear ra s4
      go_wp2_with fail
      go_loopw [11, 12, 13] (fun sl sn sj wr => ∃ (j : Nat) (now : Int) (A C : List It), sn = .int .i64 now ∧ sj = .int .i64 j ∧ 0 ≤ now ∧ now ≤ 7 * j ∧ j ≤ z2.length ∧ j ≤ 20 ∧ Hid (Tz w wr Bs Bt S (.slice Xa (ids S).length ca) sl A C)) (fun _ _ sj _ => 20 - (intOf sj).toNat)
      case atStart => exact ⟨0, 0, [], S, rfl, rfl, by omega, by omega, Nat.zero_le _, Nat.zero_le _, TZ⟩
      case round =>
        clear TZ
        obtain ⟨j, now, A', C, rfl, rfl, now0, now7, hj, hj20, TZ⟩ := hrel
        have lens : Hid (A'.length + C.length ≤ 80) := Lib.hid (by have h1 := congrArg List.length TZ.out.eq; rw [List.length_append] at h1; have := LS.out; omega)
        have lenA : (ns (ids A')).length = A'.length := by rw [ns_len]; simp [ids]
        by_cases u1 : (j : Int) < (z2.length : Int)
        · by_cases u2 : (j : Int) < 20
          · have u0 : (0 : Int) ≤ (j : Int) := by omega
            have hes : IntKind.i64.wrap ((j : Int) + 1) = (j : Int) + 1 := by rw [IntKind.wrap_i64]; omega
            obtain ⟨q, hq⟩ : ∃ q, z2[j]? = some q := ⟨z2[j]'(by omega), by simp⟩
            obtain ⟨b, off, rfl, _, cq⟩ := (HH2.out.mine TZ.out.sep.only).int hq
            have Q1 := HZ2.out q (List.mem_of_getElem? hq)
            have q0 := Int.emod_nonneg q (show (7 : Int) ≠ 0 by decide)
            have q7 := Int.emod_lt_of_pos q (show (0 : Int) < 7 by decide)
            obtain ⟨d, hd⟩ : ∃ d, d = q % 7 := ⟨_, rfl⟩
            rw [← hd] at q0 q7
            obtain ⟨now2, hn2⟩ : ∃ now2, now2 = now + d := ⟨_, rfl⟩
            have hw : IntKind.i64.wrap (now + d) = now2 := by rw [hn2, IntKind.wrap_i64]; omega
            have N2 := Lib.hid (show 0 ≤ now2 ∧ now2 ≤ 7 * ((j + 1 : Nat) : Int) by omega)
            have HDD := Lib.hid hd
            clear hq hn2 hd q0 q7 now0 now7
            go_wp2_with fail
            refine (within_eq q 7 Q1 (by omega) (by omega) wr).mono ?_
            rintro e w5 ⟨rfl, rfl⟩
            rw [← HDD.out]
            go_wp2_with fail
            refine (sep_due TZ.out.sep.symm (by have := lens.out; omega) now2 (l := ids (C.takeWhile (isDue now2))) (C := C.dropWhile (isDue now2)) rfl rfl).mono ?_
            rintro e w6 ⟨X6, c6, rfl, r6, s6, k6, z6⟩
            obtain ⟨D, hD⟩ : ∃ D, D = C.takeWhile (isDue now2) := ⟨_, rfl⟩
            obtain ⟨E, hE⟩ : ∃ E, E = C.dropWhile (isDue now2) := ⟨_, rfl⟩
            have hC : Hid (C = D ++ E) := Lib.hid (by rw [hD, hE]; exact List.takeWhile_append_dropWhile.symm)
            rw [← hD] at r6 s6 ⊢
            rw [← hE] at s6
            have SR := Lib.hid (src_row r6 rfl)
            have R6 := Lib.hid (row_keep TZ.out.row (fun g hg => k6 g (.inr hg)))
            have S6 := Lib.hid s6
            have K6 := Lib.hid k6
            have zb : w.heap.size ≤ w6.heap.size := Nat.le_trans TZ.out.sep.only.size z6
            have hl6 : (ns (ids A')).length + (ns (ids D)).length ≤ 8796093022208 := by
              have h1 := congrArg List.length hC.out
              rw [List.length_append] at h1
              rw [lenA, ns_len]
              have h2 : (ids D).length = D.length := by simp [ids]
              have := lens.out
              omega
            clear hD hE r6 s6 k6 z6
            go_wp2_with (at_builtin; refine app_ints rfl _ _ 22 rfl w.heap.size u11 (ns (ids A')) rfl R6.out (.slice X6 (ids D).length c6) (ns (ids D)) rfl SR.out hl6 zb ?_; intro v7 w7 g7; have G7 := Lib.hid g7; clear g7)
            go_roundw
            case rel => exact ⟨j + 1, now2, A' ++ D, E, rfl, by go_num, N2.out.1, N2.out.2, by omega, by omega, Lib.hid (TZ.out.put hC.out S6.out.symm K6.out G7.out)⟩
            case measure => simp [intOf]; omega
          · by_cases u3 : now < 60
            · have ALL := Lib.hid (Sm.all (fun y hy => M.out.2 y (by rw [TZ.out.eq]; exact List.mem_append.2 (.inr hy)) : ∀ y ∈ C, y.2 < 50) 60 (by omega))
              go_wp2_with fail
              refine (sep_due TZ.out.sep.symm (by have := lens.out; omega) 60 (l := ids C) (C := []) (by rw [ALL.out.1]) ALL.out.2).mono ?_
              rintro e w6 ⟨X6, c6, rfl, r6, s6, k6, z6⟩
              have SR := Lib.hid (src_row r6 rfl)
              have R6 := Lib.hid (row_keep TZ.out.row (fun g hg => k6 g (.inr hg)))
              have S6 := Lib.hid s6
              have K6 := Lib.hid k6
              have zb : w.heap.size ≤ w6.heap.size := Nat.le_trans TZ.out.sep.only.size z6
              have hl6 : (ns (ids A')).length + (ns (ids C)).length ≤ 8796093022208 := by
                rw [lenA, ns_len]
                have h2 : (ids C).length = C.length := by simp [ids]
                have := lens.out
                omega
              have HL := Lib.hid hl6
              clear r6 s6 k6 z6
              go_wp2_with (at_builtin; refine app_ints rfl _ _ 22 rfl w.heap.size u11 (ns (ids A')) rfl R6.out (.slice X6 (ids C).length c6) (ns (ids C)) rfl SR.out HL.out zb ?_; intro v7 w7 g7; have G7 := Lib.hid (TZ.out.put (E := []) (by simp) S6.out.symm K6.out g7); clear g7)
              have R7 := G7.out.row
              rw [← TZ.out.eq] at R7
              rw [ns_len] at R7
              obtain ⟨X7, c7, rfl⟩ := row_slice R7
              have HA := Lib.hid (Has.own (show w7.ownsRow w.heap.size 3 1 (.slice Xa (ns (ids S)).length ca) (ns (ids S)).length (ns (ids S)) by rw [ns_len]; exact G7.out.all))
              have HB := Lib.hid (Has.own (show w7.ownsRow w.heap.size 3 1 (.slice X7 (ns (ids S)).length c7) (ns (ids S)).length (ns (ids S)) by rw [ns_len]; exact R7))
              clear R7 lenA hl6
              refine (ints_same Xa X7 ca c7 (ids S) w7 w7.heap.size HA.out HB.out (by have := LS.out; have h2 : (ids S).length = S.length := (by simp [ids]); omega)).mono ?_
              rintro e w8 ⟨rfl, n8, rfl⟩
              have S8 := Lib.hid (G7.out.sep.drewN n8)
              go_wp2_with fail
              refine (at_len S8.out.fst).mono ?_
              rintro e w9 ⟨rfl, rfl⟩
              go_wp2_with fail
              refine (at_len S8.out.symm.fst).mono ?_
              rintro e w9 ⟨rfl, rfl⟩
              go_wp2_with fail
              go_ret
              exact ⟨rfl, S8.out.fst.end⟩
            · have u4 := u3
              have ALL := Lib.hid (Sm.all (fun y hy => M.out.2 y (by rw [TZ.out.eq]; exact List.mem_append.2 (.inr hy)) : ∀ y ∈ C, y.2 < 50) now (by omega))
              go_wp2_with fail
              refine (sep_due TZ.out.sep.symm (by have := lens.out; omega) now (l := ids C) (C := []) (by rw [ALL.out.1]) ALL.out.2).mono ?_
              rintro e w6 ⟨X6, c6, rfl, r6, s6, k6, z6⟩
              have SR := Lib.hid (src_row r6 rfl)
              have R6 := Lib.hid (row_keep TZ.out.row (fun g hg => k6 g (.inr hg)))
              have S6 := Lib.hid s6
              have K6 := Lib.hid k6
              have zb : w.heap.size ≤ w6.heap.size := Nat.le_trans TZ.out.sep.only.size z6
              have hl6 : (ns (ids A')).length + (ns (ids C)).length ≤ 8796093022208 := by
                rw [lenA, ns_len]
                have h2 : (ids C).length = C.length := by simp [ids]
                have := lens.out
                omega
              have HL := Lib.hid hl6
              clear r6 s6 k6 z6
              go_wp2_with (at_builtin; refine app_ints rfl _ _ 22 rfl w.heap.size u11 (ns (ids A')) rfl R6.out (.slice X6 (ids C).length c6) (ns (ids C)) rfl SR.out HL.out zb ?_; intro v7 w7 g7; have G7 := Lib.hid (TZ.out.put (E := []) (by simp) S6.out.symm K6.out g7); clear g7)
              have R7 := G7.out.row
              rw [← TZ.out.eq] at R7
              rw [ns_len] at R7
              obtain ⟨X7, c7, rfl⟩ := row_slice R7
              have HA := Lib.hid (Has.own (show w7.ownsRow w.heap.size 3 1 (.slice Xa (ns (ids S)).length ca) (ns (ids S)).length (ns (ids S)) by rw [ns_len]; exact G7.out.all))
              have HB := Lib.hid (Has.own (show w7.ownsRow w.heap.size 3 1 (.slice X7 (ns (ids S)).length c7) (ns (ids S)).length (ns (ids S)) by rw [ns_len]; exact R7))
              clear R7 lenA hl6
              refine (ints_same Xa X7 ca c7 (ids S) w7 w7.heap.size HA.out HB.out (by have := LS.out; have h2 : (ids S).length = S.length := (by simp [ids]); omega)).mono ?_
              rintro e w8 ⟨rfl, n8, rfl⟩
              have S8 := Lib.hid (G7.out.sep.drewN n8)
              go_wp2_with fail
              refine (at_len S8.out.fst).mono ?_
              rintro e w9 ⟨rfl, rfl⟩
              go_wp2_with fail
              refine (at_len S8.out.symm.fst).mono ?_
              rintro e w9 ⟨rfl, rfl⟩
              go_wp2_with fail
              go_ret
              exact ⟨rfl, S8.out.fst.end⟩
        · by_cases u3 : now < 60
          · have ALL := Lib.hid (Sm.all (fun y hy => M.out.2 y (by rw [TZ.out.eq]; exact List.mem_append.2 (.inr hy)) : ∀ y ∈ C, y.2 < 50) 60 (by omega))
            go_wp2_with fail
            refine (sep_due TZ.out.sep.symm (by have := lens.out; omega) 60 (l := ids C) (C := []) (by rw [ALL.out.1]) ALL.out.2).mono ?_
            rintro e w6 ⟨X6, c6, rfl, r6, s6, k6, z6⟩
            have SR := Lib.hid (src_row r6 rfl)
            have R6 := Lib.hid (row_keep TZ.out.row (fun g hg => k6 g (.inr hg)))
            have S6 := Lib.hid s6
            have K6 := Lib.hid k6
            have zb : w.heap.size ≤ w6.heap.size := Nat.le_trans TZ.out.sep.only.size z6
            have hl6 : (ns (ids A')).length + (ns (ids C)).length ≤ 8796093022208 := by
              rw [lenA, ns_len]
              have h2 : (ids C).length = C.length := by simp [ids]
              have := lens.out
              omega
            have HL := Lib.hid hl6
            clear r6 s6 k6 z6
            go_wp2_with (at_builtin; refine app_ints rfl _ _ 22 rfl w.heap.size u11 (ns (ids A')) rfl R6.out (.slice X6 (ids C).length c6) (ns (ids C)) rfl SR.out HL.out zb ?_; intro v7 w7 g7; have G7 := Lib.hid (TZ.out.put (E := []) (by simp) S6.out.symm K6.out g7); clear g7)
            have R7 := G7.out.row
            rw [← TZ.out.eq] at R7
            rw [ns_len] at R7
            obtain ⟨X7, c7, rfl⟩ := row_slice R7
            have HA := Lib.hid (Has.own (show w7.ownsRow w.heap.size 3 1 (.slice Xa (ns (ids S)).length ca) (ns (ids S)).length (ns (ids S)) by rw [ns_len]; exact G7.out.all))
            have HB := Lib.hid (Has.own (show w7.ownsRow w.heap.size 3 1 (.slice X7 (ns (ids S)).length c7) (ns (ids S)).length (ns (ids S)) by rw [ns_len]; exact R7))
            clear R7 lenA hl6
            refine (ints_same Xa X7 ca c7 (ids S) w7 w7.heap.size HA.out HB.out (by have := LS.out; have h2 : (ids S).length = S.length := (by simp [ids]); omega)).mono ?_
            rintro e w8 ⟨rfl, n8, rfl⟩
            have S8 := Lib.hid (G7.out.sep.drewN n8)
            go_wp2_with fail
            refine (at_len S8.out.fst).mono ?_
            rintro e w9 ⟨rfl, rfl⟩
            go_wp2_with fail
            refine (at_len S8.out.symm.fst).mono ?_
            rintro e w9 ⟨rfl, rfl⟩
            go_wp2_with fail
            go_ret
            exact ⟨rfl, S8.out.fst.end⟩
          · have u4 := u3
            have ALL := Lib.hid (Sm.all (fun y hy => M.out.2 y (by rw [TZ.out.eq]; exact List.mem_append.2 (.inr hy)) : ∀ y ∈ C, y.2 < 50) now (by omega))
            go_wp2_with fail
            refine (sep_due TZ.out.sep.symm (by have := lens.out; omega) now (l := ids C) (C := []) (by rw [ALL.out.1]) ALL.out.2).mono ?_
            rintro e w6 ⟨X6, c6, rfl, r6, s6, k6, z6⟩
            have SR := Lib.hid (src_row r6 rfl)
            have R6 := Lib.hid (row_keep TZ.out.row (fun g hg => k6 g (.inr hg)))
            have S6 := Lib.hid s6
            have K6 := Lib.hid k6
            have zb : w.heap.size ≤ w6.heap.size := Nat.le_trans TZ.out.sep.only.size z6
            have hl6 : (ns (ids A')).length + (ns (ids C)).length ≤ 8796093022208 := by
              rw [lenA, ns_len]
              have h2 : (ids C).length = C.length := by simp [ids]
              have := lens.out
              omega
            have HL := Lib.hid hl6
            clear r6 s6 k6 z6
            go_wp2_with (at_builtin; refine app_ints rfl _ _ 22 rfl w.heap.size u11 (ns (ids A')) rfl R6.out (.slice X6 (ids C).length c6) (ns (ids C)) rfl SR.out HL.out zb ?_; intro v7 w7 g7; have G7 := Lib.hid (TZ.out.put (E := []) (by simp) S6.out.symm K6.out g7); clear g7)
            have R7 := G7.out.row
            rw [← TZ.out.eq] at R7
            rw [ns_len] at R7
            obtain ⟨X7, c7, rfl⟩ := row_slice R7
            have HA := Lib.hid (Has.own (show w7.ownsRow w.heap.size 3 1 (.slice Xa (ns (ids S)).length ca) (ns (ids S)).length (ns (ids S)) by rw [ns_len]; exact G7.out.all))
            have HB := Lib.hid (Has.own (show w7.ownsRow w.heap.size 3 1 (.slice X7 (ns (ids S)).length c7) (ns (ids S)).length (ns (ids S)) by rw [ns_len]; exact R7))
            clear R7 lenA hl6
            refine (ints_same Xa X7 ca c7 (ids S) w7 w7.heap.size HA.out HB.out (by have := LS.out; have h2 : (ids S).length = S.length := (by simp [ids]); omega)).mono ?_
            rintro e w8 ⟨rfl, n8, rfl⟩
            have S8 := Lib.hid (G7.out.sep.drewN n8)
            go_wp2_with fail
            refine (at_len S8.out.fst).mono ?_
            rintro e w9 ⟨rfl, rfl⟩
            go_wp2_with fail
            refine (at_len S8.out.symm.fst).mono ?_
            rintro e w9 ⟨rfl, rfl⟩
            go_wp2_with fail
            go_ret
            exact ⟨rfl, S8.out.fst.end⟩

end Go.Proofs.Ytgfpogmipennaaa
