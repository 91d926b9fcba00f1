/- TimerOnce: each that was set is told once, by its last time, none ahead of it. No condition of the program's own. -/
import Derived.Test.YtgfpogmipennaaaNx
namespace Go.Proofs.Ytgfpogmipennaaa
open Go.RowKit Go.Deep
/-- f tells each time, -1 where nothing is set. -/
structure Oc (f : Nat → Int) (S : List It) : Prop where
  on : ∀ j : Nat, j < 50 → (0 ≤ f j ↔ isIn (j : Int) S = true)
  tm : ∀ y ∈ S, ∃ j : Nat, j < 50 ∧ y.1 = (j : Int) ∧ f j = y.2
  rng : ∀ y ∈ S, 0 ≤ y.2 ∧ y.2 < 40
theorem Oc.set {f : Nat → Int} {S : List It} (h : Oc f S) (hl : S.length < 100) (k : Nat) (hk : k < 50) (t : Int) (ht : 0 ≤ t ∧ t < 40) :
    setR (k : Int) S = 0 ∧ Oc (upd f k t) (setT (k : Int) t S) ∧ (setT (k : Int) t S).length ≤ S.length + 1 := by
  have hr : setR (k : Int) S = 0 := by unfold setR; rw [if_neg (by omega), if_pos (.inr hl)]
  have e : setT (k : Int) t S = ins ((k : Int), t) (del (k : Int) S) := by unfold setT setS; rw [if_pos hr]
  refine ⟨hr, ?_, ?_⟩
  · rw [e]
    refine ⟨fun j hj => ?_, fun y hy => ?_, fun y hy => ?_⟩
    · rw [isIn_ins, isIn_del]
      unfold upd
      by_cases e : j = k
      · rw [if_pos e, e]; simp [ht.1]
      · rw [if_neg e, h.on j hj]
        have h1 : decide (((k : Int), t).1 = (j : Int)) = false := by rw [decide_eq_false_iff_not]; show ¬ (k : Int) = (j : Int); omega
        have h2 : decide ((j : Int) ≠ (k : Int)) = true := by rw [decide_eq_true_iff]; omega
        rw [h1, h2]; simp
    · rcases mem_ins.1 hy with rfl | hy
      · exact ⟨k, hk, rfl, by unfold upd; rw [if_pos rfl]⟩
      · obtain ⟨h1, h2⟩ := mem_del.1 hy
        obtain ⟨j, j1, j2, j3⟩ := h.tm y h1
        exact ⟨j, j1, j2, by unfold upd; rw [if_neg (fun e => h2 (by rw [j2, e])), j3]⟩
    · rcases mem_ins.1 hy with rfl | hy
      · exact ht
      · exact h.rng y (mem_del.1 hy).1
  · rw [e, (ins_perm _ _).length_eq, List.length_cons]
    have : (del (k : Int) S).length ≤ S.length := List.length_filter_le _ _
    omega
/-- The first is told, and is no more. -/
theorem Oc.tell {f : Nat → Int} {y : It} {r : List It} (h : Oc f (y :: r)) (hn : (ids (y :: r)).Nodup) (j : Nat) (hy : y.1 = (j : Int)) : Oc (upd f j (-1)) r := by
  obtain ⟨h1, _⟩ := List.nodup_cons.1 (show (y.1 :: ids r).Nodup from hn)
  refine ⟨fun q hq => ?_, fun z hz => ?_, fun z hz => h.rng z (by simp [hz])⟩
  · unfold upd
    by_cases e : q = j
    · rw [if_pos e]
      constructor
      · intro hh; omega
      · intro hh
        obtain ⟨z, hz, ez⟩ := isIn_iff.1 hh
        exact absurd (by rw [hy, ← e, ← ez]; exact List.mem_map_of_mem hz) h1
    · rw [if_neg e, h.on q hq]
      have : isIn (q : Int) (y :: r) = (decide (y.1 = (q : Int)) || isIn (q : Int) r) := by simp [isIn]
      rw [this, show decide (y.1 = (q : Int)) = false by rw [decide_eq_false_iff_not]; omega]
      simp
  · obtain ⟨q, q1, q2, q3⟩ := h.tm z (by simp [hz])
    refine ⟨q, q1, q2, ?_⟩
    unfold upd
    rw [if_neg (fun e => h1 (by rw [hy, ← e, ← q2]; exact List.mem_map_of_mem hz)), q3]
theorem rest_late {S : List It} (h : Srt S) (now : Int) : ∀ y ∈ S.dropWhile (isDue now), now < y.2 := by
  intro y hy
  cases hd : S.dropWhile (isDue now) with
  | nil => rw [hd] at hy; cases hy
  | cons z r =>
    have hz : isDue now z = false := by
      have := List.head_dropWhile_not (isDue now) (l := S) (by rw [hd]; simp)
      simp only [hd, List.head_cons] at this
      exact this
    have hzn : now < z.2 := by unfold isDue at hz; rw [decide_eq_false_iff_not] at hz; omega
    rw [hd] at hy
    have hs : Srt (z :: r) := by rw [← hd]; exact h.sublist (List.dropWhile_sublist _)
    rcases List.mem_cons.1 hy with rfl | hy
    · exact hzn
    · have := (List.pairwise_cons.1 hs).1 y hy
      unfold ilt at this
      omega
theorem upd_all {f : Nat → Int} {j : Nat} (h : ∀ q, q < j → f q = -1) : ∀ q, q < j + 1 → upd f j (-1) q = -1 := fun q hq => by
  unfold upd
  by_cases e : q = j
  · rw [if_pos e]
  · rw [if_neg e]; exact h q (by omega)
theorem take_due (S : List It) (now : Int) : ∀ y ∈ S.takeWhile (isDue now), y.2 ≤ now := by
  induction S with
  | nil => intro y hy; simp at hy
  | cons x r ih =>
    intro y hy
    by_cases hx : isDue now x = true
    · simp only [List.takeWhile_cons, hx, if_true, List.mem_cons] at hy
      rcases hy with rfl | hy
      · exact of_decide_eq_true hx
      · exact ih y hy
    · have hx : isDue now x = false := by simpa using hx
      simp [hx] at hy
/-- The heap, and its array. -/
structure OcW (w wr : World) (B bf : Nat) (f : Nat → Int) (S : List It) (P : Nat → Prop) : Prop where
  one : One w wr B S P
  af : Ar wr bf 50 41 (fun j => .int .i64 (f j))
  pf : P bf
  lf : w.heap.size ≤ bf
theorem OcW.put {w wr : World} {B bf : Nat} {f : Nat → Int} {S : List It} {P : Nat → Prop} (h : OcW w wr B bf f S P) (k : Nat) (hk : k < 50) (t : Int) : OcW w (wr.setCell ⟨bf, k, none⟩ (.int .i64 t)) B bf (upd f k t) S P := by
  refine ⟨h.one.set h.pf h.lf k _, ?_, h.pf, h.lf⟩
  have := h.af.put hk (.int .i64 t)
  rw [upd_map (fun x => Value.int .i64 x)] at this
  exact this
theorem OcW.drewN {w wr : World} {B bf : Nat} {f : Nat → Int} {S : List It} {P : Nat → Prop} (h : OcW w wr B bf f S P) (n : Nat) : OcW w (wr.drewN n) B bf f S P := ⟨h.one.drewN n, h.af, h.pf, h.lf⟩
theorem OcW.lt {w wr : World} {B bf : Nat} {f : Nat → Int} {S : List It} {P : Nat → Prop} (h : OcW w wr B bf f S P) {k : Nat} (hk : P k) : k < wr.heap.size := by
  obtain ⟨F, _, _, f, _⟩ := h.one
  exact (f k hk).1
theorem oc_new {w w2 : World} {B : Nat} (T : One w w2 B [] (fun _ => False)) {W : World} {a : Array Value} (ha : a = arr 50 (fun _ => .int .i64 0)) (hW : w2.alloc (.cells a 41) = W) :
    OcW w W B w2.heap.size (fun _ => 0) [] (fun k => k = w2.heap.size) := by
  have z := T.only.size
  have o2 := T.alloc (.cells a 41)
  rw [hW] at o2
  refine ⟨o2.less (fun k hk => .inr hk), ?_, rfl, z⟩
  rw [← hW]
  unfold Ar
  rw [heap_alloc_new, ha]
set_option maxRecDepth 100000 in
set_option maxHeartbeats 12000000 in
theorem timerOnce_walk (A : Option Addr) (c : Nat) (z : List Int) (A1 : Option Addr) (c1 : Nat) (z1 : List Int) (A2 : Option Addr) (c2 : Nat) (z2 : List Int) (w : World)
    (h : Has w w.heap.size A (ns z)) (hz : ∀ x ∈ z, -9223372036854775808 ≤ x ∧ x ≤ 9223372036854775807) (h1 : Has w w.heap.size A1 (ns z1)) (hz1 : ∀ x ∈ z1, -9223372036854775808 ≤ x ∧ x ≤ 9223372036854775807) (h2 : Has w w.heap.size A2 (ns z2)) (hz2 : ∀ x ∈ z2, -9223372036854775808 ≤ x ∧ x ≤ 9223372036854775807) (_hl2 : z2.length ≤ 9223372036854775807) :
    Calls Try.prog 4 #[.slice A z.length c, .slice A1 z1.length c1, .slice A2 z2.length c2] w fun e w' => e = .returned (.bool true) ∧ w.grownBy w' none := by
  have HH := Lib.hid h
  have HZ := Lib.hid hz
  have HH1 := Lib.hid h1
  have HZ1 := Lib.hid hz1
  have HH2 := Lib.hid h2
  have HZ2 := Lib.hid hz2
  clear h hz h1 hz1 h2 hz2
  go_enter Try.func4, Try.ntmps4
  go_wp2_with fail
  refine (known_any w).mono ?_
  rintro e w1 ⟨rfl, o1⟩
  go_wp2_with fail
  refine (one_new o1).mono ?_
  rintro e w2 ⟨B, rfl, T2⟩
  have TN := Lib.hid (fun W (hW) => oc_new T2 (W := W) (a := #[.int .i64 0, .int .i64 0, .int .i64 0, .int .i64 0, .int .i64 0, .int .i64 0, .int .i64 0, .int .i64 0, .int .i64 0, .int .i64 0, .int .i64 0, .int .i64 0, .int .i64 0, .int .i64 0, .int .i64 0, .int .i64 0, .int .i64 0, .int .i64 0, .int .i64 0, .int .i64 0, .int .i64 0, .int .i64 0, .int .i64 0, .int .i64 0, .int .i64 0, .int .i64 0, .int .i64 0, .int .i64 0, .int .i64 0, .int .i64 0, .int .i64 0, .int .i64 0, .int .i64 0, .int .i64 0, .int .i64 0, .int .i64 0, .int .i64 0, .int .i64 0, .int .i64 0, .int .i64 0, .int .i64 0, .int .i64 0, .int .i64 0, .int .i64 0, .int .i64 0, .int .i64 0, .int .i64 0, .int .i64 0, .int .i64 0, .int .i64 0]) rfl hW)
  clear o1 T2
  go_wp2_with fail
  generalize hW : World.alloc _ _ = W
  have T2 := Lib.hid (TN.out W hW)
  clear TN hW
  generalize hbf : w2.heap.size = bf at T2
  clear hbf
  go_loopw [9] (fun sj wr => ∃ (j : Nat) (f : Nat → Int), sj = .int .i64 j ∧ j ≤ 50 ∧ Hid (∀ q, q < j → f q = -1) ∧ Hid (OcW w wr B bf f [] (fun k => k = bf))) (fun sj _ => 50 - (intOf sj).toNat)
  case atStart => exact ⟨0, _, rfl, Nat.zero_le _, Lib.hid (fun q hq => by omega), T2⟩
  case round =>
    clear T2
    obtain ⟨j, f, rfl, hj, hf, T⟩ := hrel
    by_cases t1 : (j : Int) < 50
    · have t0 : (0 : Int) ≤ (j : Int) := by omega
      have jes : IntKind.i64.wrap ((j : Int) + 1) = (j : Int) + 1 := by rw [IntKind.wrap_i64]; omega
      have j50 : j < 50 := by omega
      have cj : wr.cell? ⟨bf, j, none⟩ = some (.int .i64 (f j)) := T.out.af.cell j50
      have fz : wr.frozen? ⟨bf, j, none⟩ = false := T.out.af.thaw j
      have NN := Lib.hid (T.out.put j j50 (-1))
      go_wp2_with fail
      go_roundw
      case rel => exact ⟨j + 1, _, by go_num, by omega, Lib.hid (upd_all hf.out), NN⟩
      case measure => simp [intOf]; omega
    · obtain rfl : j = 50 := by omega
      have OC : Hid (Oc f []) := Lib.hid ⟨fun q hq => by rw [hf.out q hq]; exact ⟨fun h => absurd h (by decide), fun h => by cases h⟩, (fun y hy => by cases hy), (fun y hy => by cases hy)⟩
      clear hf
      go_wp2_with fail
      go_loopw [10] (fun si wr => ∃ (i : Nat) (f : Nat → Int) (S : List It), si = .int .i64 i ∧ i ≤ z.length ∧ i ≤ z1.length ∧ i ≤ 100 ∧ S.length ≤ i ∧ Hid (Oc f S) ∧ Hid (OcW w wr B bf f S (fun k => k = bf))) (fun si _ => 100 - (intOf si).toNat)
      case atStart => exact ⟨0, _, [], rfl, Nat.zero_le _, Nat.zero_le _, Nat.zero_le _, Nat.le_refl _, OC, T⟩
      case round =>
        clear OC T
        obtain ⟨i, f, S, rfl, hi, hi1, hi100, hS, OC, T⟩ := hrel
        by_cases t1 : (i : Int) < (z.length : Int)
        · by_cases t2 : (i : Int) < (z1.length : Int)
          · by_cases t3 : (i : Int) < 100
            · have t0 : (0 : Int) ≤ (i : Int) := by omega
              have hes : IntKind.i64.wrap ((i : Int) + 1) = (i : Int) + 1 := by rw [IntKind.wrap_i64]; omega
              obtain ⟨x, hx⟩ : ∃ x, z[i]? = some x := ⟨z[i]'(by omega), by simp⟩
              obtain ⟨y, hy⟩ : ∃ y, z1[i]? = some y := ⟨z1[i]'(by omega), by simp⟩
              obtain ⟨b, off, rfl, _, cx⟩ := (HH.out.mine T.out.one.only).int hx
              obtain ⟨b1, off1, rfl, _, cy⟩ := (HH1.out.mine T.out.one.only).int hy
              have X1 := Lib.hid (HZ.out x (List.mem_of_getElem? hx))
              have Y1 := Lib.hid (HZ1.out y (List.mem_of_getElem? hy))
              have HY := Lib.hid hy
              obtain ⟨k, hk⟩ : ∃ k : Nat, x % 50 = (k : Int) := ⟨(x % 50).toNat, by have := Int.emod_nonneg x (show (50 : Int) ≠ 0 by decide); omega⟩
              have k50 : k < 50 := by have := Int.emod_lt_of_pos x (show (0 : Int) < 50 by decide); omega
              have k0 : (0 : Int) ≤ (k : Int) := by omega
              have k2 : (k : Int) < 50 := by omega
              obtain ⟨t, ht⟩ : ∃ t, t = y % 40 := ⟨_, rfl⟩
              have tt : 0 ≤ t ∧ t < 40 := by rw [ht]; exact ⟨Int.emod_nonneg _ (by decide), Int.emod_lt_of_pos _ (by decide)⟩
              have HK := Lib.hid hk
              have HT := Lib.hid ht
              have ND := Lib.hid (OC.out.set (by omega) k k50 t tt)
              have LS : Hid (S.length ≤ 1099511627770) := Lib.hid (by omega)
              have K50 := Lib.hid k50
              clear hx hy hk ht tt
              go_wp2_with fail
              refine (within_eq x 50 X1.out (by omega) (by omega) wr).mono ?_
              rintro e w3 ⟨rfl, rfl⟩
              rw [HK.out]
              go_wp2_with fail
              refine (within_eq y 40 Y1.out (by omega) (by omega) w3).mono ?_
              rintro e w4 ⟨rfl, rfl⟩
              rw [← HT.out]
              go_wp2_with fail
              refine (one_set T.out.one LS.out k t).mono ?_
              rintro e w5 ⟨rfl, s5, kp⟩
              rw [ND.out.1]
              have cy5 : w5.cell? ⟨b1, off1 + i, none⟩ = some (.int .i64 y) := by
                obtain ⟨b', off', hA, _, cy'⟩ := (HH1.out.mine s5.only).int HY.out
                injection hA with hA; injection hA with hA1 hA2
                subst hA1; subst hA2
                exact cy'
              have W5 : OcW w w5 B bf f (setT (k : Int) t S) (fun k => k = bf) := ⟨s5, T.out.af.of (kp bf rfl), rfl, T.out.lf⟩
              have cf : w5.cell? ⟨bf, k, none⟩ = some (.int .i64 (f k)) := W5.af.cell K50.out
              have zf : w5.frozen? ⟨bf, k, none⟩ = false := W5.af.thaw k
              have P := Lib.hid (W5.put k K50.out t)
              clear s5 kp W5
              go_wp2_with fail
              refine (within_eq y 40 Y1.out (by omega) (by omega) w5).mono ?_
              rintro e w6 ⟨rfl, rfl⟩
              rw [← HT.out]
              go_wp2_with fail
              go_roundw
              case rel => exact ⟨i + 1, _, _, by go_num, by omega, by omega, by omega, Nat.le_trans ND.out.2.2 (by omega), Lib.hid ND.out.2.1, P⟩
              case measure => simp [intOf]; omega
            · skip
              as_aux_lemma =>
                have SL : Hid (S.length ≤ 100) := Lib.hid (by omega)
                clear hS
                go_wp2_with fail
                go_loopw [12, 13] (fun sn si wr => ∃ (now : Int) (i : Nat) (f : Nat → Int) (S : List It), sn = .int .i64 now ∧ si = .int .i64 i ∧ 0 ≤ now ∧ now ≤ 9 * (i : Int) + 100 ∧ i ≤ z2.length + 1 ∧ i ≤ 31 ∧ Hid ((i ≤ z2.length ∧ i ≤ 30) ∨ S = []) ∧ Hid (S.length ≤ 100) ∧ Hid (Oc f S) ∧ Hid (OcW w wr B bf f S (fun k => k = bf))) (fun _ si _ => 31 - (intOf si).toNat)
                case atStart => exact ⟨0, 0, f, S, rfl, rfl, by omega, by omega, Nat.zero_le _, Nat.zero_le _, Lib.hid (.inl ⟨Nat.zero_le _, Nat.zero_le _⟩), SL, OC, T⟩
                case round =>
                  clear OC T SL hi hi1 hi100
                  clear f S
                  obtain ⟨now, i, f, S, rfl, rfl, now0, now9, hi, hi31, HE0, SL, OC, T⟩ := hrel
                  have hes : IntKind.i64.wrap ((i : Int) + 1) = (i : Int) + 1 := by rw [IntKind.wrap_i64]; omega
                  have i0 : (0 : Int) ≤ (i : Int) := by omega
                  by_cases v1 : (i : Int) ≤ (z2.length : Int)
                  · by_cases v2 : (i : Int) ≤ 30
                    · by_cases u1 : (i : Int) < (z2.length : Int)
                      · by_cases u2 : (i : Int) < 30
                        · obtain ⟨q, hq⟩ : ∃ q, z2[i]? = some q := ⟨z2[i]'(by omega), by simp⟩
                          obtain ⟨b, off, rfl, _, cq⟩ := (HH2.out.mine T.out.one.only).int hq
                          have Q1 := HZ2.out q (List.mem_of_getElem? hq)
                          have q0 := Int.emod_nonneg q (show (9 : Int) ≠ 0 by decide)
                          have q9 := Int.emod_lt_of_pos q (show (0 : Int) < 9 by decide)
                          obtain ⟨d, hd⟩ : ∃ d, d = q % 9 := ⟨_, rfl⟩
                          rw [← hd] at q0 q9
                          obtain ⟨NOW, hn2⟩ : ∃ NOW, NOW = now + d := ⟨_, rfl⟩
                          have hw : IntKind.i64.wrap (now + d) = NOW := by rw [hn2, IntKind.wrap_i64]; omega
                          have N2 := Lib.hid (show 0 ≤ NOW ∧ NOW ≤ 9 * ((i + 1 : Nat) : Int) + 100 by omega)
                          have LAST : Hid (((i + 1 ≤ z2.length ∧ i + 1 ≤ 30) ∨ ∀ y ∈ S, y.2 ≤ NOW)) := Lib.hid (.inl ⟨by omega, by omega⟩)
                          have HDD := Lib.hid hd
                          clear hq hn2 hd q0 q9 now0 now9
                          go_wp2_with fail
                          refine (within_eq q 9 Q1 (by omega) (by omega) wr).mono ?_
                          rintro e w5 ⟨rfl, rfl⟩
                          rw [← HDD.out]
                          clear HDD
                          go_wp2_with fail
                          as_aux_lemma =>
                            refine (one_due T.out.one (by have := SL.out; omega) NOW (l := ids (S.takeWhile (isDue NOW))) (C := S.dropWhile (isDue NOW)) rfl rfl).mono ?_
                            rintro e w6 ⟨X, cX, rfl, r6, s6, k6, z6⟩
                            have DUE0 := take_due S NOW
                            have LATE0 := rest_late T.out.one.srt NOW
                            obtain ⟨D, hD⟩ : ∃ D, D = S.takeWhile (isDue NOW) := ⟨_, rfl⟩
                            obtain ⟨E, hE⟩ : ∃ E, E = S.dropWhile (isDue NOW) := ⟨_, rfl⟩
                            have hC : S = D ++ E := by rw [hD, hE]; exact List.takeWhile_append_dropWhile.symm
                            rw [← hD] at r6 s6 DUE0 ⊢
                            rw [← hE] at s6 LATE0
                            have SRT := Lib.hid (show Srt (D ++ E) by rw [← hC]; exact T.out.one.srt)
                            have NOD := Lib.hid (show (ids (D ++ E)).Nodup by rw [← hC]; exact T.out.one.nodup)
                            have OCD := Lib.hid (show Oc f (D ++ E) by rw [← hC]; exact OC.out)
                            have ELAST : Hid ((i + 1 ≤ z2.length ∧ i + 1 ≤ 30) ∨ E = []) := Lib.hid (by
                              rcases LAST.out with h | h
                              · exact .inl h
                              · right
                                cases E with
                                | nil => rfl
                                | cons y r =>
                                  have a := LATE0 y (by simp)
                                  have b := h y (by rw [hC]; simp)
                                  omega)
                            have EL : Hid (E.length ≤ 100) := Lib.hid (by have h1 := congrArg List.length hC; rw [List.length_append] at h1; have := SL.out; omega)
                            obtain ⟨n, hn⟩ : ∃ n, n = (ids D).length := ⟨_, rfl⟩
                            rw [← hn] at r6 s6 ⊢
                            have HN : Hid (n = D.length) := Lib.hid (by rw [hn]; simp [ids])
                            have W6 : Hid (OcW w w6 B bf f E (fun k => k = bf ∨ (Value.slice X n cX).ownBlock = some k)) := Lib.hid ⟨s6, T.out.af.of (k6 bf rfl), .inl rfl, T.out.lf⟩
                            have FAR : Hid (∀ k, (Value.slice X n cX).ownBlock = some k → k ≠ bf) := Lib.hid (fun k hk e => by have := row_ge r6 k hk; have := T.out.lt (k := bf) rfl; omega)
                            have R6 := Lib.hid (own_less r6 T.out.one.only.size)
                            have DUE := Lib.hid DUE0
                            have LATE := Lib.hid LATE0
                            have n100 : n ≤ 100 := by rw [HN.out]; have h1 := congrArg List.length hC; rw [List.length_append] at h1; have := SL.out; omega
                            clear r6 s6 k6 z6 hD hE hC hn DUE0 LATE0 LAST SL OC T HE0
                            go_wp2_with fail
                            go_loopw [15] (fun sk wx => ∃ (k q : Nat), sk = .int .i64 k ∧ k ≤ n ∧ w6.drewN q = wx) (fun sk _ => n - (intOf sk).toNat)
                            case atStart => exact ⟨0, 0, rfl, Nat.zero_le _, by trivial⟩
                            case round =>
                              obtain ⟨k, q, rfl, hk, rfl⟩ := hrel
                              have kes : IntKind.i64.wrap ((k : Int) + 1) = (k : Int) + 1 := by rw [IntKind.wrap_i64]; omega
                              by_cases k1 : (k : Int) < (n : Int)
                              · have k0 : (0 : Int) ≤ (k : Int) := by omega
                                obtain ⟨g, cg, hX, _, _, hc⟩ := row_form R6.out (by omega)
                                injection hX with hX1 hX2 hX3
                                subst hX1; subst hX3
                                obtain ⟨y, hy⟩ : ∃ y, D[k]? = some y := ⟨D[k]'(by rw [← HN.out]; omega), by simp⟩
                                obtain ⟨jy, jy1, jy2, jy3⟩ := OCD.out.tm y (by simp [List.mem_of_getElem? hy])
                                have dy := DUE.out y (List.mem_of_getElem? hy)
                                have ry := OCD.out.rng y (by simp [List.mem_of_getElem? hy])
                                have cy : ∀ q, (w6.drewN q).cell? ⟨g, k, none⟩ = some (.int .i64 jy) := fun _ => hc k _ (by rw [← jy2]; simp [ids, hy])
                                have ly : ∀ q, (w6.drewN q).cell? ⟨bf, jy, none⟩ = some (.int .i64 y.2) := fun _ => by rw [← jy3]; exact W6.out.af.cell jy1
                                obtain ⟨ty, hty⟩ : ∃ ty, ty = y.2 := ⟨_, rfl⟩
                                rw [← hty] at ly dy ry
                                have m1 : decide (ty < 0) = false := by rw [decide_eq_false_iff_not]; omega
                                have m2 : decide (NOW < ty) = false := by rw [decide_eq_false_iff_not]; omega
                                have j0 : (0 : Int) ≤ (jy : Int) := by omega
                                have j50 : (jy : Int) < 50 := by omega
                                by_cases kz : k = 0
                                · subst kz
                                  clear hc hy hty
                                  go_wp2_with fail
                                  go_quiet (fail)
                                  go_wp2_with fail
                                  go_roundw
                                  case rel => exact ⟨1, _, by go_num, by omega, by trivial⟩
                                  case measure => simp [intOf]; omega
                                · obtain ⟨p, hp⟩ : ∃ p : Nat, p + 1 = k := ⟨k - 1, by omega⟩
                                  have kw : IntKind.i64.wrap ((k : Int) - 1) = (p : Int) := by rw [IntKind.wrap_i64]; omega
                                  have p0 : (0 : Int) ≤ (p : Int) := by omega
                                  have p1 : (p : Int) < (n : Int) := by omega
                                  have kp : (0 : Int) < (k : Int) := by omega
                                  have kpn : 0 < k := by omega
                                  have kpb : decide ((0 : Int) < (k : Int)) = true := by rw [decide_eq_true_iff]; exact kp
                                  have kpc : decide (0 < k) = true := by rw [decide_eq_true_iff]; exact kpn
                                  obtain ⟨x, hx⟩ : ∃ x, D[p]? = some x := ⟨D[p]'(by rw [← HN.out]; omega), by simp⟩
                                  obtain ⟨jx, jx1, jx2, jx3⟩ := OCD.out.tm x (by simp [List.mem_of_getElem? hx])
                                  have cx : ∀ q, (w6.drewN q).cell? ⟨g, p, none⟩ = some (.int .i64 jx) := fun _ => hc p _ (by rw [← jx2]; simp [ids, hx])
                                  have lx : ∀ q, (w6.drewN q).cell? ⟨bf, jx, none⟩ = some (.int .i64 x.2) := fun _ => by rw [← jx3]; exact W6.out.af.cell jx1
                                  have hlt : ilt x y := by
                                    obtain ⟨ha, e1⟩ := List.getElem?_eq_some_iff.1 hx
                                    obtain ⟨hb, e2⟩ := List.getElem?_eq_some_iff.1 hy
                                    rw [← e1, ← e2]
                                    have sd : Srt D := SRT.out.sublist (List.sublist_append_left D E)
                                    exact List.pairwise_iff_getElem.1 sd p k ha hb (by omega)
                                  unfold ilt at hlt
                                  rw [← hty] at hlt
                                  obtain ⟨tx, htx⟩ : ∃ tx, tx = x.2 := ⟨_, rfl⟩
                                  rw [← htx] at lx hlt
                                  have i0x : (0 : Int) ≤ (jx : Int) := by omega
                                  have i50x : (jx : Int) < 50 := by omega
                                  have m3 : decide (ty < tx) = false := by rw [decide_eq_false_iff_not]; omega
                                  have HP := Lib.hid hp
                                  by_cases eq : tx = ty
                                  · have m4 : (tx == ty) = true := by rw [beq_iff_eq]; exact eq
                                    have m5 : decide ((jy : Int) ≤ (jx : Int)) = false := by rw [decide_eq_false_iff_not]; omega
                                    have m6 : decide (jy ≤ jx) = false := by rw [decide_eq_false_iff_not]; omega
                                    clear hc hy hty hx htx hlt eq hp jx2 jx3 jy2 jy3
                                    go_wp2_with fail
                                    go_quiet (fail)
                                    go_wp2_with fail
                                    go_roundw
                                    case rel => exact ⟨k + 1, _, by go_num, by omega, by trivial⟩
                                    case measure => simp [intOf]; omega
                                  · have m4 : (tx == ty) = false := by rw [beq_eq_false_iff_ne]; exact eq
                                    clear hc hy hty hx htx hlt eq hp jx2 jx3 jy2 jy3
                                    go_wp2_with fail
                                    go_quiet (fail)
                                    go_wp2_with fail
                                    go_roundw
                                    case rel => exact ⟨k + 1, _, by go_num, by omega, by trivial⟩
                                    case measure => simp [intOf]; omega
                              · have W7 := Lib.hid (W6.out.drewN q)
                                have R7 := Lib.hid (R6.out.kept (only_drewN (only_refl w6 none) q) (by cases (Value.slice X n cX).ownBlock <;> simp))
                                clear W6 R6
                                generalize hV7 : w6.drewN q = V7 at W7 R7
                                clear hV7
                                go_wp2_with fail
                                go_loopw [16] (fun sk wx => ∃ (k : Nat) (f : Nat → Int), sk = .int .i64 k ∧ k ≤ n ∧ Hid (Oc f (D.drop k ++ E)) ∧ Hid (OcW w wx B bf f E (fun k => k = bf ∨ (Value.slice X n cX).ownBlock = some k)) ∧ Hid (wx.ownsRow w.heap.size 3 1 (.slice X n cX) n (ns (ids D)))) (fun sk _ => n - (intOf sk).toNat)
                                case atStart => exact ⟨0, f, rfl, Nat.zero_le _, OCD, W7, R7⟩
                                case round =>
                                  clear W7 R7 OCD k1 hk kes
                                  obtain ⟨k, f, rfl, hk, OCD, W7, R7⟩ := hrel
                                  have kes : IntKind.i64.wrap ((k : Int) + 1) = (k : Int) + 1 := by rw [IntKind.wrap_i64]; omega
                                  by_cases k1 : (k : Int) < (n : Int)
                                  · have k0 : (0 : Int) ≤ (k : Int) := by omega
                                    obtain ⟨g, cg, hX, _, _, hc⟩ := row_form R7.out (by omega)
                                    injection hX with hX1 hX2 hX3
                                    subst hX1; subst hX3
                                    obtain ⟨y, hy⟩ : ∃ y, D[k]? = some y := ⟨D[k]'(by rw [← HN.out]; omega), by simp⟩
                                    have hdr : D.drop k = y :: D.drop (k + 1) := by
                                      obtain ⟨hh, rr⟩ := List.getElem?_eq_some_iff.1 hy
                                      rw [List.drop_eq_getElem_cons hh, rr]
                                    have oc1 := OCD.out
                                    rw [hdr] at oc1
                                    obtain ⟨jy, jy1, jy2, jy3⟩ := oc1.tm y (by simp)
                                    have nd1 : (ids (y :: (D.drop (k + 1) ++ E))).Nodup := by
                                      have h1 := NOD.out
                                      have h2 : ids (D.drop k ++ E) = (ids (D ++ E)).drop k := by
                                        unfold ids
                                        rw [← List.map_drop, List.drop_append_of_le_length (by rw [← HN.out]; omega)]
                                      have h3 : (ids (D.drop k ++ E)).Nodup := by rw [h2]; exact h1.sublist (List.drop_sublist _ _)
                                      rw [hdr] at h3
                                      exact h3
                                    have OC2 := Lib.hid (oc1.tell nd1 jy jy2)
                                    have cy : wr.cell? ⟨g, k, none⟩ = some (.int .i64 jy) := hc k _ (by rw [← jy2]; simp [ids, hy])
                                    have ly : wr.cell? ⟨bf, jy, none⟩ = some (.int .i64 (f jy)) := W7.out.af.cell jy1
                                    have zy : wr.frozen? ⟨bf, jy, none⟩ = false := W7.out.af.thaw jy
                                    have W8 := Lib.hid (W7.out.put jy jy1 (-1))
                                    have R8 := Lib.hid (row_keep R7.out (fun k hk => heap_other wr (FAR.out k hk) jy (.int .i64 (-1))))
                                    have j0 : (0 : Int) ≤ (jy : Int) := by omega
                                    have j50 : (jy : Int) < 50 := by omega
                                    clear hc hy hdr oc1 nd1 jy2 jy3
                                    go_wp2_with fail
                                    go_roundw
                                    case rel => exact ⟨k + 1, _, by go_num, by omega, OC2, W8, R8⟩
                                    case measure => simp [intOf]; omega
                                  · obtain rfl : k = n := by omega
                                    have OCE : Hid (Oc f E) := Lib.hid (by
                                      have h := OCD.out
                                      rw [List.drop_eq_nil_of_le (by rw [← HN.out]; exact Nat.le_refl _), List.nil_append] at h
                                      exact h)
                                    obtain ⟨V8, hV8⟩ : ∃ V8, V8 = wr := ⟨_, rfl⟩
                                    subst hV8
                                    go_wp2_with fail
                                    go_loopw [17] (fun sq wx => ∃ (q : Nat), sq = .int .i64 q ∧ q ≤ 50 ∧ V8 = wx) (fun sq _ => 50 - (intOf sq).toNat)
                                    case atStart => exact ⟨0, rfl, Nat.zero_le _, by trivial⟩
                                    case round =>
                                      obtain ⟨q, rfl, hq, rfl⟩ := hrel
                                      have qes : IntKind.i64.wrap ((q : Int) + 1) = (q : Int) + 1 := by rw [IntKind.wrap_i64]; omega
                                      by_cases q1 : (q : Int) < 50
                                      · have q0 : (0 : Int) ≤ (q : Int) := by omega
                                        have cq : V8.cell? ⟨bf, q, none⟩ = some (.int .i64 (f q)) := W7.out.af.cell (by omega)
                                        obtain ⟨v, hv⟩ : ∃ v, v = f q := ⟨_, rfl⟩
                                        rw [← hv] at cq
                                        by_cases vz : 0 ≤ v
                                        · have m1 : decide (v ≤ NOW) = false := by
                                            rw [decide_eq_false_iff_not]
                                            obtain ⟨y, hy, ey⟩ := isIn_iff.1 ((OCE.out.on q (by omega)).1 (by rw [← hv]; exact vz))
                                            obtain ⟨j, j1, j2, j3⟩ := OCE.out.tm y hy
                                            have : j = q := by omega
                                            subst this
                                            have := LATE.out y hy
                                            omega
                                          have m0 : decide (0 ≤ v) = true := by rw [decide_eq_true_iff]; exact vz
                                          clear hv vz
                                          go_wp2_with fail
                                          go_roundw
                                          case rel => exact ⟨q + 1, by go_num, by omega, by trivial⟩
                                          case measure => simp [intOf]; omega
                                        · have m0 : decide (0 ≤ v) = false := by rw [decide_eq_false_iff_not]; exact vz
                                          clear hv vz
                                          go_wp2_with fail
                                          go_roundw
                                          case rel => exact ⟨q + 1, by go_num, by omega, by trivial⟩
                                          case measure => simp [intOf]; omega
                                      · have W9 : Hid (OcW w V8 B bf f E (fun k => k = bf)) := Lib.hid ⟨W7.out.one.less (fun k hk => .inl hk), W7.out.af, rfl, W7.out.lf⟩
                                        go_wp2_with fail
                                        go_roundw
                                        case rel => exact ⟨NOW, i + 1, f, E, rfl, by go_num, N2.out.1, N2.out.2, by omega, by omega, ELAST, EL, OCE, W9⟩
                                        case measure => simp [intOf]; omega
                        · obtain ⟨NOW, hn2⟩ : ∃ NOW : Int, NOW = 100 := ⟨_, rfl⟩
                          have N2 := Lib.hid (show 0 ≤ NOW ∧ NOW ≤ 9 * ((i + 1 : Nat) : Int) + 100 by omega)
                          have LAST : Hid (((i + 1 ≤ z2.length ∧ i + 1 ≤ 30) ∨ ∀ y ∈ S, y.2 ≤ NOW)) := Lib.hid (.inr (fun y hy => by have := (OC.out.rng y hy).2; omega))
                          have HDD := Lib.hid hn2
                          clear now0 now9 hn2
                          go_wp2_with fail
                          rw [← HDD.out]
                          clear HDD
                          as_aux_lemma =>
                            refine (one_due T.out.one (by have := SL.out; omega) NOW (l := ids (S.takeWhile (isDue NOW))) (C := S.dropWhile (isDue NOW)) rfl rfl).mono ?_
                            rintro e w6 ⟨X, cX, rfl, r6, s6, k6, z6⟩
                            have DUE0 := take_due S NOW
                            have LATE0 := rest_late T.out.one.srt NOW
                            obtain ⟨D, hD⟩ : ∃ D, D = S.takeWhile (isDue NOW) := ⟨_, rfl⟩
                            obtain ⟨E, hE⟩ : ∃ E, E = S.dropWhile (isDue NOW) := ⟨_, rfl⟩
                            have hC : S = D ++ E := by rw [hD, hE]; exact List.takeWhile_append_dropWhile.symm
                            rw [← hD] at r6 s6 DUE0 ⊢
                            rw [← hE] at s6 LATE0
                            have SRT := Lib.hid (show Srt (D ++ E) by rw [← hC]; exact T.out.one.srt)
                            have NOD := Lib.hid (show (ids (D ++ E)).Nodup by rw [← hC]; exact T.out.one.nodup)
                            have OCD := Lib.hid (show Oc f (D ++ E) by rw [← hC]; exact OC.out)
                            have ELAST : Hid ((i + 1 ≤ z2.length ∧ i + 1 ≤ 30) ∨ E = []) := Lib.hid (by
                              rcases LAST.out with h | h
                              · exact .inl h
                              · right
                                cases E with
                                | nil => rfl
                                | cons y r =>
                                  have a := LATE0 y (by simp)
                                  have b := h y (by rw [hC]; simp)
                                  omega)
                            have EL : Hid (E.length ≤ 100) := Lib.hid (by have h1 := congrArg List.length hC; rw [List.length_append] at h1; have := SL.out; omega)
                            obtain ⟨n, hn⟩ : ∃ n, n = (ids D).length := ⟨_, rfl⟩
                            rw [← hn] at r6 s6 ⊢
                            have HN : Hid (n = D.length) := Lib.hid (by rw [hn]; simp [ids])
                            have W6 : Hid (OcW w w6 B bf f E (fun k => k = bf ∨ (Value.slice X n cX).ownBlock = some k)) := Lib.hid ⟨s6, T.out.af.of (k6 bf rfl), .inl rfl, T.out.lf⟩
                            have FAR : Hid (∀ k, (Value.slice X n cX).ownBlock = some k → k ≠ bf) := Lib.hid (fun k hk e => by have := row_ge r6 k hk; have := T.out.lt (k := bf) rfl; omega)
                            have R6 := Lib.hid (own_less r6 T.out.one.only.size)
                            have DUE := Lib.hid DUE0
                            have LATE := Lib.hid LATE0
                            have n100 : n ≤ 100 := by rw [HN.out]; have h1 := congrArg List.length hC; rw [List.length_append] at h1; have := SL.out; omega
                            clear r6 s6 k6 z6 hD hE hC hn DUE0 LATE0 LAST SL OC T HE0
                            go_wp2_with fail
                            go_loopw [15] (fun sk wx => ∃ (k q : Nat), sk = .int .i64 k ∧ k ≤ n ∧ w6.drewN q = wx) (fun sk _ => n - (intOf sk).toNat)
                            case atStart => exact ⟨0, 0, rfl, Nat.zero_le _, by trivial⟩
                            case round =>
                              obtain ⟨k, q, rfl, hk, rfl⟩ := hrel
                              have kes : IntKind.i64.wrap ((k : Int) + 1) = (k : Int) + 1 := by rw [IntKind.wrap_i64]; omega
                              by_cases k1 : (k : Int) < (n : Int)
                              · have k0 : (0 : Int) ≤ (k : Int) := by omega
                                obtain ⟨g, cg, hX, _, _, hc⟩ := row_form R6.out (by omega)
                                injection hX with hX1 hX2 hX3
                                subst hX1; subst hX3
                                obtain ⟨y, hy⟩ : ∃ y, D[k]? = some y := ⟨D[k]'(by rw [← HN.out]; omega), by simp⟩
                                obtain ⟨jy, jy1, jy2, jy3⟩ := OCD.out.tm y (by simp [List.mem_of_getElem? hy])
                                have dy := DUE.out y (List.mem_of_getElem? hy)
                                have ry := OCD.out.rng y (by simp [List.mem_of_getElem? hy])
                                have cy : ∀ q, (w6.drewN q).cell? ⟨g, k, none⟩ = some (.int .i64 jy) := fun _ => hc k _ (by rw [← jy2]; simp [ids, hy])
                                have ly : ∀ q, (w6.drewN q).cell? ⟨bf, jy, none⟩ = some (.int .i64 y.2) := fun _ => by rw [← jy3]; exact W6.out.af.cell jy1
                                obtain ⟨ty, hty⟩ : ∃ ty, ty = y.2 := ⟨_, rfl⟩
                                rw [← hty] at ly dy ry
                                have m1 : decide (ty < 0) = false := by rw [decide_eq_false_iff_not]; omega
                                have m2 : decide (NOW < ty) = false := by rw [decide_eq_false_iff_not]; omega
                                have j0 : (0 : Int) ≤ (jy : Int) := by omega
                                have j50 : (jy : Int) < 50 := by omega
                                by_cases kz : k = 0
                                · subst kz
                                  clear hc hy hty
                                  go_wp2_with fail
                                  go_quiet (fail)
                                  go_wp2_with fail
                                  go_roundw
                                  case rel => exact ⟨1, _, by go_num, by omega, by trivial⟩
                                  case measure => simp [intOf]; omega
                                · obtain ⟨p, hp⟩ : ∃ p : Nat, p + 1 = k := ⟨k - 1, by omega⟩
                                  have kw : IntKind.i64.wrap ((k : Int) - 1) = (p : Int) := by rw [IntKind.wrap_i64]; omega
                                  have p0 : (0 : Int) ≤ (p : Int) := by omega
                                  have p1 : (p : Int) < (n : Int) := by omega
                                  have kp : (0 : Int) < (k : Int) := by omega
                                  have kpn : 0 < k := by omega
                                  have kpb : decide ((0 : Int) < (k : Int)) = true := by rw [decide_eq_true_iff]; exact kp
                                  have kpc : decide (0 < k) = true := by rw [decide_eq_true_iff]; exact kpn
                                  obtain ⟨x, hx⟩ : ∃ x, D[p]? = some x := ⟨D[p]'(by rw [← HN.out]; omega), by simp⟩
                                  obtain ⟨jx, jx1, jx2, jx3⟩ := OCD.out.tm x (by simp [List.mem_of_getElem? hx])
                                  have cx : ∀ q, (w6.drewN q).cell? ⟨g, p, none⟩ = some (.int .i64 jx) := fun _ => hc p _ (by rw [← jx2]; simp [ids, hx])
                                  have lx : ∀ q, (w6.drewN q).cell? ⟨bf, jx, none⟩ = some (.int .i64 x.2) := fun _ => by rw [← jx3]; exact W6.out.af.cell jx1
                                  have hlt : ilt x y := by
                                    obtain ⟨ha, e1⟩ := List.getElem?_eq_some_iff.1 hx
                                    obtain ⟨hb, e2⟩ := List.getElem?_eq_some_iff.1 hy
                                    rw [← e1, ← e2]
                                    have sd : Srt D := SRT.out.sublist (List.sublist_append_left D E)
                                    exact List.pairwise_iff_getElem.1 sd p k ha hb (by omega)
                                  unfold ilt at hlt
                                  rw [← hty] at hlt
                                  obtain ⟨tx, htx⟩ : ∃ tx, tx = x.2 := ⟨_, rfl⟩
                                  rw [← htx] at lx hlt
                                  have i0x : (0 : Int) ≤ (jx : Int) := by omega
                                  have i50x : (jx : Int) < 50 := by omega
                                  have m3 : decide (ty < tx) = false := by rw [decide_eq_false_iff_not]; omega
                                  have HP := Lib.hid hp
                                  by_cases eq : tx = ty
                                  · have m4 : (tx == ty) = true := by rw [beq_iff_eq]; exact eq
                                    have m5 : decide ((jy : Int) ≤ (jx : Int)) = false := by rw [decide_eq_false_iff_not]; omega
                                    have m6 : decide (jy ≤ jx) = false := by rw [decide_eq_false_iff_not]; omega
                                    clear hc hy hty hx htx hlt eq hp jx2 jx3 jy2 jy3
                                    go_wp2_with fail
                                    go_quiet (fail)
                                    go_wp2_with fail
                                    go_roundw
                                    case rel => exact ⟨k + 1, _, by go_num, by omega, by trivial⟩
                                    case measure => simp [intOf]; omega
                                  · have m4 : (tx == ty) = false := by rw [beq_eq_false_iff_ne]; exact eq
                                    clear hc hy hty hx htx hlt eq hp jx2 jx3 jy2 jy3
                                    go_wp2_with fail
                                    go_quiet (fail)
                                    go_wp2_with fail
                                    go_roundw
                                    case rel => exact ⟨k + 1, _, by go_num, by omega, by trivial⟩
                                    case measure => simp [intOf]; omega
                              · have W7 := Lib.hid (W6.out.drewN q)
                                have R7 := Lib.hid (R6.out.kept (only_drewN (only_refl w6 none) q) (by cases (Value.slice X n cX).ownBlock <;> simp))
                                clear W6 R6
                                generalize hV7 : w6.drewN q = V7 at W7 R7
                                clear hV7
                                go_wp2_with fail
                                go_loopw [16] (fun sk wx => ∃ (k : Nat) (f : Nat → Int), sk = .int .i64 k ∧ k ≤ n ∧ Hid (Oc f (D.drop k ++ E)) ∧ Hid (OcW w wx B bf f E (fun k => k = bf ∨ (Value.slice X n cX).ownBlock = some k)) ∧ Hid (wx.ownsRow w.heap.size 3 1 (.slice X n cX) n (ns (ids D)))) (fun sk _ => n - (intOf sk).toNat)
                                case atStart => exact ⟨0, f, rfl, Nat.zero_le _, OCD, W7, R7⟩
                                case round =>
                                  clear W7 R7 OCD k1 hk kes
                                  obtain ⟨k, f, rfl, hk, OCD, W7, R7⟩ := hrel
                                  have kes : IntKind.i64.wrap ((k : Int) + 1) = (k : Int) + 1 := by rw [IntKind.wrap_i64]; omega
                                  by_cases k1 : (k : Int) < (n : Int)
                                  · have k0 : (0 : Int) ≤ (k : Int) := by omega
                                    obtain ⟨g, cg, hX, _, _, hc⟩ := row_form R7.out (by omega)
                                    injection hX with hX1 hX2 hX3
                                    subst hX1; subst hX3
                                    obtain ⟨y, hy⟩ : ∃ y, D[k]? = some y := ⟨D[k]'(by rw [← HN.out]; omega), by simp⟩
                                    have hdr : D.drop k = y :: D.drop (k + 1) := by
                                      obtain ⟨hh, rr⟩ := List.getElem?_eq_some_iff.1 hy
                                      rw [List.drop_eq_getElem_cons hh, rr]
                                    have oc1 := OCD.out
                                    rw [hdr] at oc1
                                    obtain ⟨jy, jy1, jy2, jy3⟩ := oc1.tm y (by simp)
                                    have nd1 : (ids (y :: (D.drop (k + 1) ++ E))).Nodup := by
                                      have h1 := NOD.out
                                      have h2 : ids (D.drop k ++ E) = (ids (D ++ E)).drop k := by
                                        unfold ids
                                        rw [← List.map_drop, List.drop_append_of_le_length (by rw [← HN.out]; omega)]
                                      have h3 : (ids (D.drop k ++ E)).Nodup := by rw [h2]; exact h1.sublist (List.drop_sublist _ _)
                                      rw [hdr] at h3
                                      exact h3
                                    have OC2 := Lib.hid (oc1.tell nd1 jy jy2)
                                    have cy : wr.cell? ⟨g, k, none⟩ = some (.int .i64 jy) := hc k _ (by rw [← jy2]; simp [ids, hy])
                                    have ly : wr.cell? ⟨bf, jy, none⟩ = some (.int .i64 (f jy)) := W7.out.af.cell jy1
                                    have zy : wr.frozen? ⟨bf, jy, none⟩ = false := W7.out.af.thaw jy
                                    have W8 := Lib.hid (W7.out.put jy jy1 (-1))
                                    have R8 := Lib.hid (row_keep R7.out (fun k hk => heap_other wr (FAR.out k hk) jy (.int .i64 (-1))))
                                    have j0 : (0 : Int) ≤ (jy : Int) := by omega
                                    have j50 : (jy : Int) < 50 := by omega
                                    clear hc hy hdr oc1 nd1 jy2 jy3
                                    go_wp2_with fail
                                    go_roundw
                                    case rel => exact ⟨k + 1, _, by go_num, by omega, OC2, W8, R8⟩
                                    case measure => simp [intOf]; omega
                                  · obtain rfl : k = n := by omega
                                    have OCE : Hid (Oc f E) := Lib.hid (by
                                      have h := OCD.out
                                      rw [List.drop_eq_nil_of_le (by rw [← HN.out]; exact Nat.le_refl _), List.nil_append] at h
                                      exact h)
                                    obtain ⟨V8, hV8⟩ : ∃ V8, V8 = wr := ⟨_, rfl⟩
                                    subst hV8
                                    go_wp2_with fail
                                    go_loopw [17] (fun sq wx => ∃ (q : Nat), sq = .int .i64 q ∧ q ≤ 50 ∧ V8 = wx) (fun sq _ => 50 - (intOf sq).toNat)
                                    case atStart => exact ⟨0, rfl, Nat.zero_le _, by trivial⟩
                                    case round =>
                                      obtain ⟨q, rfl, hq, rfl⟩ := hrel
                                      have qes : IntKind.i64.wrap ((q : Int) + 1) = (q : Int) + 1 := by rw [IntKind.wrap_i64]; omega
                                      by_cases q1 : (q : Int) < 50
                                      · have q0 : (0 : Int) ≤ (q : Int) := by omega
                                        have cq : V8.cell? ⟨bf, q, none⟩ = some (.int .i64 (f q)) := W7.out.af.cell (by omega)
                                        obtain ⟨v, hv⟩ : ∃ v, v = f q := ⟨_, rfl⟩
                                        rw [← hv] at cq
                                        by_cases vz : 0 ≤ v
                                        · have m1 : decide (v ≤ NOW) = false := by
                                            rw [decide_eq_false_iff_not]
                                            obtain ⟨y, hy, ey⟩ := isIn_iff.1 ((OCE.out.on q (by omega)).1 (by rw [← hv]; exact vz))
                                            obtain ⟨j, j1, j2, j3⟩ := OCE.out.tm y hy
                                            have : j = q := by omega
                                            subst this
                                            have := LATE.out y hy
                                            omega
                                          have m0 : decide (0 ≤ v) = true := by rw [decide_eq_true_iff]; exact vz
                                          clear hv vz
                                          go_wp2_with fail
                                          go_roundw
                                          case rel => exact ⟨q + 1, by go_num, by omega, by trivial⟩
                                          case measure => simp [intOf]; omega
                                        · have m0 : decide (0 ≤ v) = false := by rw [decide_eq_false_iff_not]; exact vz
                                          clear hv vz
                                          go_wp2_with fail
                                          go_roundw
                                          case rel => exact ⟨q + 1, by go_num, by omega, by trivial⟩
                                          case measure => simp [intOf]; omega
                                      · have W9 : Hid (OcW w V8 B bf f E (fun k => k = bf)) := Lib.hid ⟨W7.out.one.less (fun k hk => .inl hk), W7.out.af, rfl, W7.out.lf⟩
                                        go_wp2_with fail
                                        go_roundw
                                        case rel => exact ⟨NOW, i + 1, f, E, rfl, by go_num, N2.out.1, N2.out.2, by omega, by omega, ELAST, EL, OCE, W9⟩
                                        case measure => simp [intOf]; omega
                      · obtain ⟨NOW, hn2⟩ : ∃ NOW : Int, NOW = 100 := ⟨_, rfl⟩
                        have N2 := Lib.hid (show 0 ≤ NOW ∧ NOW ≤ 9 * ((i + 1 : Nat) : Int) + 100 by omega)
                        have LAST : Hid (((i + 1 ≤ z2.length ∧ i + 1 ≤ 30) ∨ ∀ y ∈ S, y.2 ≤ NOW)) := Lib.hid (.inr (fun y hy => by have := (OC.out.rng y hy).2; omega))
                        have HDD := Lib.hid hn2
                        clear now0 now9 hn2
                        go_wp2_with fail
                        rw [← HDD.out]
                        clear HDD
                        as_aux_lemma =>
                          refine (one_due T.out.one (by have := SL.out; omega) NOW (l := ids (S.takeWhile (isDue NOW))) (C := S.dropWhile (isDue NOW)) rfl rfl).mono ?_
                          rintro e w6 ⟨X, cX, rfl, r6, s6, k6, z6⟩
                          have DUE0 := take_due S NOW
                          have LATE0 := rest_late T.out.one.srt NOW
                          obtain ⟨D, hD⟩ : ∃ D, D = S.takeWhile (isDue NOW) := ⟨_, rfl⟩
                          obtain ⟨E, hE⟩ : ∃ E, E = S.dropWhile (isDue NOW) := ⟨_, rfl⟩
                          have hC : S = D ++ E := by rw [hD, hE]; exact List.takeWhile_append_dropWhile.symm
                          rw [← hD] at r6 s6 DUE0 ⊢
                          rw [← hE] at s6 LATE0
                          have SRT := Lib.hid (show Srt (D ++ E) by rw [← hC]; exact T.out.one.srt)
                          have NOD := Lib.hid (show (ids (D ++ E)).Nodup by rw [← hC]; exact T.out.one.nodup)
                          have OCD := Lib.hid (show Oc f (D ++ E) by rw [← hC]; exact OC.out)
                          have ELAST : Hid ((i + 1 ≤ z2.length ∧ i + 1 ≤ 30) ∨ E = []) := Lib.hid (by
                            rcases LAST.out with h | h
                            · exact .inl h
                            · right
                              cases E with
                              | nil => rfl
                              | cons y r =>
                                have a := LATE0 y (by simp)
                                have b := h y (by rw [hC]; simp)
                                omega)
                          have EL : Hid (E.length ≤ 100) := Lib.hid (by have h1 := congrArg List.length hC; rw [List.length_append] at h1; have := SL.out; omega)
                          obtain ⟨n, hn⟩ : ∃ n, n = (ids D).length := ⟨_, rfl⟩
                          rw [← hn] at r6 s6 ⊢
                          have HN : Hid (n = D.length) := Lib.hid (by rw [hn]; simp [ids])
                          have W6 : Hid (OcW w w6 B bf f E (fun k => k = bf ∨ (Value.slice X n cX).ownBlock = some k)) := Lib.hid ⟨s6, T.out.af.of (k6 bf rfl), .inl rfl, T.out.lf⟩
                          have FAR : Hid (∀ k, (Value.slice X n cX).ownBlock = some k → k ≠ bf) := Lib.hid (fun k hk e => by have := row_ge r6 k hk; have := T.out.lt (k := bf) rfl; omega)
                          have R6 := Lib.hid (own_less r6 T.out.one.only.size)
                          have DUE := Lib.hid DUE0
                          have LATE := Lib.hid LATE0
                          have n100 : n ≤ 100 := by rw [HN.out]; have h1 := congrArg List.length hC; rw [List.length_append] at h1; have := SL.out; omega
                          clear r6 s6 k6 z6 hD hE hC hn DUE0 LATE0 LAST SL OC T HE0
                          go_wp2_with fail
                          go_loopw [15] (fun sk wx => ∃ (k q : Nat), sk = .int .i64 k ∧ k ≤ n ∧ w6.drewN q = wx) (fun sk _ => n - (intOf sk).toNat)
                          case atStart => exact ⟨0, 0, rfl, Nat.zero_le _, by trivial⟩
                          case round =>
                            obtain ⟨k, q, rfl, hk, rfl⟩ := hrel
                            have kes : IntKind.i64.wrap ((k : Int) + 1) = (k : Int) + 1 := by rw [IntKind.wrap_i64]; omega
                            by_cases k1 : (k : Int) < (n : Int)
                            · have k0 : (0 : Int) ≤ (k : Int) := by omega
                              obtain ⟨g, cg, hX, _, _, hc⟩ := row_form R6.out (by omega)
                              injection hX with hX1 hX2 hX3
                              subst hX1; subst hX3
                              obtain ⟨y, hy⟩ : ∃ y, D[k]? = some y := ⟨D[k]'(by rw [← HN.out]; omega), by simp⟩
                              obtain ⟨jy, jy1, jy2, jy3⟩ := OCD.out.tm y (by simp [List.mem_of_getElem? hy])
                              have dy := DUE.out y (List.mem_of_getElem? hy)
                              have ry := OCD.out.rng y (by simp [List.mem_of_getElem? hy])
                              have cy : ∀ q, (w6.drewN q).cell? ⟨g, k, none⟩ = some (.int .i64 jy) := fun _ => hc k _ (by rw [← jy2]; simp [ids, hy])
                              have ly : ∀ q, (w6.drewN q).cell? ⟨bf, jy, none⟩ = some (.int .i64 y.2) := fun _ => by rw [← jy3]; exact W6.out.af.cell jy1
                              obtain ⟨ty, hty⟩ : ∃ ty, ty = y.2 := ⟨_, rfl⟩
                              rw [← hty] at ly dy ry
                              have m1 : decide (ty < 0) = false := by rw [decide_eq_false_iff_not]; omega
                              have m2 : decide (NOW < ty) = false := by rw [decide_eq_false_iff_not]; omega
                              have j0 : (0 : Int) ≤ (jy : Int) := by omega
                              have j50 : (jy : Int) < 50 := by omega
                              by_cases kz : k = 0
                              · subst kz
                                clear hc hy hty
                                go_wp2_with fail
                                go_quiet (fail)
                                go_wp2_with fail
                                go_roundw
                                case rel => exact ⟨1, _, by go_num, by omega, by trivial⟩
                                case measure => simp [intOf]; omega
                              · obtain ⟨p, hp⟩ : ∃ p : Nat, p + 1 = k := ⟨k - 1, by omega⟩
                                have kw : IntKind.i64.wrap ((k : Int) - 1) = (p : Int) := by rw [IntKind.wrap_i64]; omega
                                have p0 : (0 : Int) ≤ (p : Int) := by omega
                                have p1 : (p : Int) < (n : Int) := by omega
                                have kp : (0 : Int) < (k : Int) := by omega
                                have kpn : 0 < k := by omega
                                have kpb : decide ((0 : Int) < (k : Int)) = true := by rw [decide_eq_true_iff]; exact kp
                                have kpc : decide (0 < k) = true := by rw [decide_eq_true_iff]; exact kpn
                                obtain ⟨x, hx⟩ : ∃ x, D[p]? = some x := ⟨D[p]'(by rw [← HN.out]; omega), by simp⟩
                                obtain ⟨jx, jx1, jx2, jx3⟩ := OCD.out.tm x (by simp [List.mem_of_getElem? hx])
                                have cx : ∀ q, (w6.drewN q).cell? ⟨g, p, none⟩ = some (.int .i64 jx) := fun _ => hc p _ (by rw [← jx2]; simp [ids, hx])
                                have lx : ∀ q, (w6.drewN q).cell? ⟨bf, jx, none⟩ = some (.int .i64 x.2) := fun _ => by rw [← jx3]; exact W6.out.af.cell jx1
                                have hlt : ilt x y := by
                                  obtain ⟨ha, e1⟩ := List.getElem?_eq_some_iff.1 hx
                                  obtain ⟨hb, e2⟩ := List.getElem?_eq_some_iff.1 hy
                                  rw [← e1, ← e2]
                                  have sd : Srt D := SRT.out.sublist (List.sublist_append_left D E)
                                  exact List.pairwise_iff_getElem.1 sd p k ha hb (by omega)
                                unfold ilt at hlt
                                rw [← hty] at hlt
                                obtain ⟨tx, htx⟩ : ∃ tx, tx = x.2 := ⟨_, rfl⟩
                                rw [← htx] at lx hlt
                                have i0x : (0 : Int) ≤ (jx : Int) := by omega
                                have i50x : (jx : Int) < 50 := by omega
                                have m3 : decide (ty < tx) = false := by rw [decide_eq_false_iff_not]; omega
                                have HP := Lib.hid hp
                                by_cases eq : tx = ty
                                · have m4 : (tx == ty) = true := by rw [beq_iff_eq]; exact eq
                                  have m5 : decide ((jy : Int) ≤ (jx : Int)) = false := by rw [decide_eq_false_iff_not]; omega
                                  have m6 : decide (jy ≤ jx) = false := by rw [decide_eq_false_iff_not]; omega
                                  clear hc hy hty hx htx hlt eq hp jx2 jx3 jy2 jy3
                                  go_wp2_with fail
                                  go_quiet (fail)
                                  go_wp2_with fail
                                  go_roundw
                                  case rel => exact ⟨k + 1, _, by go_num, by omega, by trivial⟩
                                  case measure => simp [intOf]; omega
                                · have m4 : (tx == ty) = false := by rw [beq_eq_false_iff_ne]; exact eq
                                  clear hc hy hty hx htx hlt eq hp jx2 jx3 jy2 jy3
                                  go_wp2_with fail
                                  go_quiet (fail)
                                  go_wp2_with fail
                                  go_roundw
                                  case rel => exact ⟨k + 1, _, by go_num, by omega, by trivial⟩
                                  case measure => simp [intOf]; omega
                            · have W7 := Lib.hid (W6.out.drewN q)
                              have R7 := Lib.hid (R6.out.kept (only_drewN (only_refl w6 none) q) (by cases (Value.slice X n cX).ownBlock <;> simp))
                              clear W6 R6
                              generalize hV7 : w6.drewN q = V7 at W7 R7
                              clear hV7
                              go_wp2_with fail
                              go_loopw [16] (fun sk wx => ∃ (k : Nat) (f : Nat → Int), sk = .int .i64 k ∧ k ≤ n ∧ Hid (Oc f (D.drop k ++ E)) ∧ Hid (OcW w wx B bf f E (fun k => k = bf ∨ (Value.slice X n cX).ownBlock = some k)) ∧ Hid (wx.ownsRow w.heap.size 3 1 (.slice X n cX) n (ns (ids D)))) (fun sk _ => n - (intOf sk).toNat)
                              case atStart => exact ⟨0, f, rfl, Nat.zero_le _, OCD, W7, R7⟩
                              case round =>
                                clear W7 R7 OCD k1 hk kes
                                obtain ⟨k, f, rfl, hk, OCD, W7, R7⟩ := hrel
                                have kes : IntKind.i64.wrap ((k : Int) + 1) = (k : Int) + 1 := by rw [IntKind.wrap_i64]; omega
                                by_cases k1 : (k : Int) < (n : Int)
                                · have k0 : (0 : Int) ≤ (k : Int) := by omega
                                  obtain ⟨g, cg, hX, _, _, hc⟩ := row_form R7.out (by omega)
                                  injection hX with hX1 hX2 hX3
                                  subst hX1; subst hX3
                                  obtain ⟨y, hy⟩ : ∃ y, D[k]? = some y := ⟨D[k]'(by rw [← HN.out]; omega), by simp⟩
                                  have hdr : D.drop k = y :: D.drop (k + 1) := by
                                    obtain ⟨hh, rr⟩ := List.getElem?_eq_some_iff.1 hy
                                    rw [List.drop_eq_getElem_cons hh, rr]
                                  have oc1 := OCD.out
                                  rw [hdr] at oc1
                                  obtain ⟨jy, jy1, jy2, jy3⟩ := oc1.tm y (by simp)
                                  have nd1 : (ids (y :: (D.drop (k + 1) ++ E))).Nodup := by
                                    have h1 := NOD.out
                                    have h2 : ids (D.drop k ++ E) = (ids (D ++ E)).drop k := by
                                      unfold ids
                                      rw [← List.map_drop, List.drop_append_of_le_length (by rw [← HN.out]; omega)]
                                    have h3 : (ids (D.drop k ++ E)).Nodup := by rw [h2]; exact h1.sublist (List.drop_sublist _ _)
                                    rw [hdr] at h3
                                    exact h3
                                  have OC2 := Lib.hid (oc1.tell nd1 jy jy2)
                                  have cy : wr.cell? ⟨g, k, none⟩ = some (.int .i64 jy) := hc k _ (by rw [← jy2]; simp [ids, hy])
                                  have ly : wr.cell? ⟨bf, jy, none⟩ = some (.int .i64 (f jy)) := W7.out.af.cell jy1
                                  have zy : wr.frozen? ⟨bf, jy, none⟩ = false := W7.out.af.thaw jy
                                  have W8 := Lib.hid (W7.out.put jy jy1 (-1))
                                  have R8 := Lib.hid (row_keep R7.out (fun k hk => heap_other wr (FAR.out k hk) jy (.int .i64 (-1))))
                                  have j0 : (0 : Int) ≤ (jy : Int) := by omega
                                  have j50 : (jy : Int) < 50 := by omega
                                  clear hc hy hdr oc1 nd1 jy2 jy3
                                  go_wp2_with fail
                                  go_roundw
                                  case rel => exact ⟨k + 1, _, by go_num, by omega, OC2, W8, R8⟩
                                  case measure => simp [intOf]; omega
                                · obtain rfl : k = n := by omega
                                  have OCE : Hid (Oc f E) := Lib.hid (by
                                    have h := OCD.out
                                    rw [List.drop_eq_nil_of_le (by rw [← HN.out]; exact Nat.le_refl _), List.nil_append] at h
                                    exact h)
                                  obtain ⟨V8, hV8⟩ : ∃ V8, V8 = wr := ⟨_, rfl⟩
                                  subst hV8
                                  go_wp2_with fail
                                  go_loopw [17] (fun sq wx => ∃ (q : Nat), sq = .int .i64 q ∧ q ≤ 50 ∧ V8 = wx) (fun sq _ => 50 - (intOf sq).toNat)
                                  case atStart => exact ⟨0, rfl, Nat.zero_le _, by trivial⟩
                                  case round =>
                                    obtain ⟨q, rfl, hq, rfl⟩ := hrel
                                    have qes : IntKind.i64.wrap ((q : Int) + 1) = (q : Int) + 1 := by rw [IntKind.wrap_i64]; omega
                                    by_cases q1 : (q : Int) < 50
                                    · have q0 : (0 : Int) ≤ (q : Int) := by omega
                                      have cq : V8.cell? ⟨bf, q, none⟩ = some (.int .i64 (f q)) := W7.out.af.cell (by omega)
                                      obtain ⟨v, hv⟩ : ∃ v, v = f q := ⟨_, rfl⟩
                                      rw [← hv] at cq
                                      by_cases vz : 0 ≤ v
                                      · have m1 : decide (v ≤ NOW) = false := by
                                          rw [decide_eq_false_iff_not]
                                          obtain ⟨y, hy, ey⟩ := isIn_iff.1 ((OCE.out.on q (by omega)).1 (by rw [← hv]; exact vz))
                                          obtain ⟨j, j1, j2, j3⟩ := OCE.out.tm y hy
                                          have : j = q := by omega
                                          subst this
                                          have := LATE.out y hy
                                          omega
                                        have m0 : decide (0 ≤ v) = true := by rw [decide_eq_true_iff]; exact vz
                                        clear hv vz
                                        go_wp2_with fail
                                        go_roundw
                                        case rel => exact ⟨q + 1, by go_num, by omega, by trivial⟩
                                        case measure => simp [intOf]; omega
                                      · have m0 : decide (0 ≤ v) = false := by rw [decide_eq_false_iff_not]; exact vz
                                        clear hv vz
                                        go_wp2_with fail
                                        go_roundw
                                        case rel => exact ⟨q + 1, by go_num, by omega, by trivial⟩
                                        case measure => simp [intOf]; omega
                                    · have W9 : Hid (OcW w V8 B bf f E (fun k => k = bf)) := Lib.hid ⟨W7.out.one.less (fun k hk => .inl hk), W7.out.af, rfl, W7.out.lf⟩
                                      go_wp2_with fail
                                      go_roundw
                                      case rel => exact ⟨NOW, i + 1, f, E, rfl, by go_num, N2.out.1, N2.out.2, by omega, by omega, ELAST, EL, OCE, W9⟩
                                      case measure => simp [intOf]; omega
                    · have SE : S = [] := HE0.out.elim (fun h => by omega) (fun h => h)
                      subst SE
                      go_wp2_with fail
                      refine (one_next T.out.one).mono ?_
                      rintro e w9 ⟨rfl, s9, gr9⟩
                      have S9 := Lib.hid s9
                      clear s9 gr9
                      go_wp2_with fail
                      refine (one_len S9.out).mono ?_
                      rintro e w10 ⟨rfl, rfl⟩
                      go_wp2_with fail
                      go_ret
                      exact ⟨rfl, S9.out.at_.end⟩
                  · have SE : S = [] := HE0.out.elim (fun h => by omega) (fun h => h)
                    subst SE
                    go_wp2_with fail
                    refine (one_next T.out.one).mono ?_
                    rintro e w9 ⟨rfl, s9, gr9⟩
                    have S9 := Lib.hid s9
                    clear s9 gr9
                    go_wp2_with fail
                    refine (one_len S9.out).mono ?_
                    rintro e w10 ⟨rfl, rfl⟩
                    go_wp2_with fail
                    go_ret
                    exact ⟨rfl, S9.out.at_.end⟩
          · skip
            as_aux_lemma =>
              have SL : Hid (S.length ≤ 100) := Lib.hid (by omega)
              clear hS
              go_wp2_with fail
              go_loopw [12, 13] (fun sn si wr => ∃ (now : Int) (i : Nat) (f : Nat → Int) (S : List It), sn = .int .i64 now ∧ si = .int .i64 i ∧ 0 ≤ now ∧ now ≤ 9 * (i : Int) + 100 ∧ i ≤ z2.length + 1 ∧ i ≤ 31 ∧ Hid ((i ≤ z2.length ∧ i ≤ 30) ∨ S = []) ∧ Hid (S.length ≤ 100) ∧ Hid (Oc f S) ∧ Hid (OcW w wr B bf f S (fun k => k = bf))) (fun _ si _ => 31 - (intOf si).toNat)
              case atStart => exact ⟨0, 0, f, S, rfl, rfl, by omega, by omega, Nat.zero_le _, Nat.zero_le _, Lib.hid (.inl ⟨Nat.zero_le _, Nat.zero_le _⟩), SL, OC, T⟩
              case round =>
                clear OC T SL hi hi1 hi100
                clear f S
                obtain ⟨now, i, f, S, rfl, rfl, now0, now9, hi, hi31, HE0, SL, OC, T⟩ := hrel
                have hes : IntKind.i64.wrap ((i : Int) + 1) = (i : Int) + 1 := by rw [IntKind.wrap_i64]; omega
                have i0 : (0 : Int) ≤ (i : Int) := by omega
                by_cases v1 : (i : Int) ≤ (z2.length : Int)
                · by_cases v2 : (i : Int) ≤ 30
                  · by_cases u1 : (i : Int) < (z2.length : Int)
                    · by_cases u2 : (i : Int) < 30
                      · obtain ⟨q, hq⟩ : ∃ q, z2[i]? = some q := ⟨z2[i]'(by omega), by simp⟩
                        obtain ⟨b, off, rfl, _, cq⟩ := (HH2.out.mine T.out.one.only).int hq
                        have Q1 := HZ2.out q (List.mem_of_getElem? hq)
                        have q0 := Int.emod_nonneg q (show (9 : Int) ≠ 0 by decide)
                        have q9 := Int.emod_lt_of_pos q (show (0 : Int) < 9 by decide)
                        obtain ⟨d, hd⟩ : ∃ d, d = q % 9 := ⟨_, rfl⟩
                        rw [← hd] at q0 q9
                        obtain ⟨NOW, hn2⟩ : ∃ NOW, NOW = now + d := ⟨_, rfl⟩
                        have hw : IntKind.i64.wrap (now + d) = NOW := by rw [hn2, IntKind.wrap_i64]; omega
                        have N2 := Lib.hid (show 0 ≤ NOW ∧ NOW ≤ 9 * ((i + 1 : Nat) : Int) + 100 by omega)
                        have LAST : Hid (((i + 1 ≤ z2.length ∧ i + 1 ≤ 30) ∨ ∀ y ∈ S, y.2 ≤ NOW)) := Lib.hid (.inl ⟨by omega, by omega⟩)
                        have HDD := Lib.hid hd
                        clear hq hn2 hd q0 q9 now0 now9
                        go_wp2_with fail
                        refine (within_eq q 9 Q1 (by omega) (by omega) wr).mono ?_
                        rintro e w5 ⟨rfl, rfl⟩
                        rw [← HDD.out]
                        clear HDD
                        go_wp2_with fail
                        as_aux_lemma =>
                          refine (one_due T.out.one (by have := SL.out; omega) NOW (l := ids (S.takeWhile (isDue NOW))) (C := S.dropWhile (isDue NOW)) rfl rfl).mono ?_
                          rintro e w6 ⟨X, cX, rfl, r6, s6, k6, z6⟩
                          have DUE0 := take_due S NOW
                          have LATE0 := rest_late T.out.one.srt NOW
                          obtain ⟨D, hD⟩ : ∃ D, D = S.takeWhile (isDue NOW) := ⟨_, rfl⟩
                          obtain ⟨E, hE⟩ : ∃ E, E = S.dropWhile (isDue NOW) := ⟨_, rfl⟩
                          have hC : S = D ++ E := by rw [hD, hE]; exact List.takeWhile_append_dropWhile.symm
                          rw [← hD] at r6 s6 DUE0 ⊢
                          rw [← hE] at s6 LATE0
                          have SRT := Lib.hid (show Srt (D ++ E) by rw [← hC]; exact T.out.one.srt)
                          have NOD := Lib.hid (show (ids (D ++ E)).Nodup by rw [← hC]; exact T.out.one.nodup)
                          have OCD := Lib.hid (show Oc f (D ++ E) by rw [← hC]; exact OC.out)
                          have ELAST : Hid ((i + 1 ≤ z2.length ∧ i + 1 ≤ 30) ∨ E = []) := Lib.hid (by
                            rcases LAST.out with h | h
                            · exact .inl h
                            · right
                              cases E with
                              | nil => rfl
                              | cons y r =>
                                have a := LATE0 y (by simp)
                                have b := h y (by rw [hC]; simp)
                                omega)
                          have EL : Hid (E.length ≤ 100) := Lib.hid (by have h1 := congrArg List.length hC; rw [List.length_append] at h1; have := SL.out; omega)
                          obtain ⟨n, hn⟩ : ∃ n, n = (ids D).length := ⟨_, rfl⟩
                          rw [← hn] at r6 s6 ⊢
                          have HN : Hid (n = D.length) := Lib.hid (by rw [hn]; simp [ids])
                          have W6 : Hid (OcW w w6 B bf f E (fun k => k = bf ∨ (Value.slice X n cX).ownBlock = some k)) := Lib.hid ⟨s6, T.out.af.of (k6 bf rfl), .inl rfl, T.out.lf⟩
                          have FAR : Hid (∀ k, (Value.slice X n cX).ownBlock = some k → k ≠ bf) := Lib.hid (fun k hk e => by have := row_ge r6 k hk; have := T.out.lt (k := bf) rfl; omega)
                          have R6 := Lib.hid (own_less r6 T.out.one.only.size)
                          have DUE := Lib.hid DUE0
                          have LATE := Lib.hid LATE0
                          have n100 : n ≤ 100 := by rw [HN.out]; have h1 := congrArg List.length hC; rw [List.length_append] at h1; have := SL.out; omega
                          clear r6 s6 k6 z6 hD hE hC hn DUE0 LATE0 LAST SL OC T HE0
                          go_wp2_with fail
                          go_loopw [15] (fun sk wx => ∃ (k q : Nat), sk = .int .i64 k ∧ k ≤ n ∧ w6.drewN q = wx) (fun sk _ => n - (intOf sk).toNat)
                          case atStart => exact ⟨0, 0, rfl, Nat.zero_le _, by trivial⟩
                          case round =>
                            obtain ⟨k, q, rfl, hk, rfl⟩ := hrel
                            have kes : IntKind.i64.wrap ((k : Int) + 1) = (k : Int) + 1 := by rw [IntKind.wrap_i64]; omega
                            by_cases k1 : (k : Int) < (n : Int)
                            · have k0 : (0 : Int) ≤ (k : Int) := by omega
                              obtain ⟨g, cg, hX, _, _, hc⟩ := row_form R6.out (by omega)
                              injection hX with hX1 hX2 hX3
                              subst hX1; subst hX3
                              obtain ⟨y, hy⟩ : ∃ y, D[k]? = some y := ⟨D[k]'(by rw [← HN.out]; omega), by simp⟩
                              obtain ⟨jy, jy1, jy2, jy3⟩ := OCD.out.tm y (by simp [List.mem_of_getElem? hy])
                              have dy := DUE.out y (List.mem_of_getElem? hy)
                              have ry := OCD.out.rng y (by simp [List.mem_of_getElem? hy])
                              have cy : ∀ q, (w6.drewN q).cell? ⟨g, k, none⟩ = some (.int .i64 jy) := fun _ => hc k _ (by rw [← jy2]; simp [ids, hy])
                              have ly : ∀ q, (w6.drewN q).cell? ⟨bf, jy, none⟩ = some (.int .i64 y.2) := fun _ => by rw [← jy3]; exact W6.out.af.cell jy1
                              obtain ⟨ty, hty⟩ : ∃ ty, ty = y.2 := ⟨_, rfl⟩
                              rw [← hty] at ly dy ry
                              have m1 : decide (ty < 0) = false := by rw [decide_eq_false_iff_not]; omega
                              have m2 : decide (NOW < ty) = false := by rw [decide_eq_false_iff_not]; omega
                              have j0 : (0 : Int) ≤ (jy : Int) := by omega
                              have j50 : (jy : Int) < 50 := by omega
                              by_cases kz : k = 0
                              · subst kz
                                clear hc hy hty
                                go_wp2_with fail
                                go_quiet (fail)
                                go_wp2_with fail
                                go_roundw
                                case rel => exact ⟨1, _, by go_num, by omega, by trivial⟩
                                case measure => simp [intOf]; omega
                              · obtain ⟨p, hp⟩ : ∃ p : Nat, p + 1 = k := ⟨k - 1, by omega⟩
                                have kw : IntKind.i64.wrap ((k : Int) - 1) = (p : Int) := by rw [IntKind.wrap_i64]; omega
                                have p0 : (0 : Int) ≤ (p : Int) := by omega
                                have p1 : (p : Int) < (n : Int) := by omega
                                have kp : (0 : Int) < (k : Int) := by omega
                                have kpn : 0 < k := by omega
                                have kpb : decide ((0 : Int) < (k : Int)) = true := by rw [decide_eq_true_iff]; exact kp
                                have kpc : decide (0 < k) = true := by rw [decide_eq_true_iff]; exact kpn
                                obtain ⟨x, hx⟩ : ∃ x, D[p]? = some x := ⟨D[p]'(by rw [← HN.out]; omega), by simp⟩
                                obtain ⟨jx, jx1, jx2, jx3⟩ := OCD.out.tm x (by simp [List.mem_of_getElem? hx])
                                have cx : ∀ q, (w6.drewN q).cell? ⟨g, p, none⟩ = some (.int .i64 jx) := fun _ => hc p _ (by rw [← jx2]; simp [ids, hx])
                                have lx : ∀ q, (w6.drewN q).cell? ⟨bf, jx, none⟩ = some (.int .i64 x.2) := fun _ => by rw [← jx3]; exact W6.out.af.cell jx1
                                have hlt : ilt x y := by
                                  obtain ⟨ha, e1⟩ := List.getElem?_eq_some_iff.1 hx
                                  obtain ⟨hb, e2⟩ := List.getElem?_eq_some_iff.1 hy
                                  rw [← e1, ← e2]
                                  have sd : Srt D := SRT.out.sublist (List.sublist_append_left D E)
                                  exact List.pairwise_iff_getElem.1 sd p k ha hb (by omega)
                                unfold ilt at hlt
                                rw [← hty] at hlt
                                obtain ⟨tx, htx⟩ : ∃ tx, tx = x.2 := ⟨_, rfl⟩
                                rw [← htx] at lx hlt
                                have i0x : (0 : Int) ≤ (jx : Int) := by omega
                                have i50x : (jx : Int) < 50 := by omega
                                have m3 : decide (ty < tx) = false := by rw [decide_eq_false_iff_not]; omega
                                have HP := Lib.hid hp
                                by_cases eq : tx = ty
                                · have m4 : (tx == ty) = true := by rw [beq_iff_eq]; exact eq
                                  have m5 : decide ((jy : Int) ≤ (jx : Int)) = false := by rw [decide_eq_false_iff_not]; omega
                                  have m6 : decide (jy ≤ jx) = false := by rw [decide_eq_false_iff_not]; omega
                                  clear hc hy hty hx htx hlt eq hp jx2 jx3 jy2 jy3
                                  go_wp2_with fail
                                  go_quiet (fail)
                                  go_wp2_with fail
                                  go_roundw
                                  case rel => exact ⟨k + 1, _, by go_num, by omega, by trivial⟩
                                  case measure => simp [intOf]; omega
                                · have m4 : (tx == ty) = false := by rw [beq_eq_false_iff_ne]; exact eq
                                  clear hc hy hty hx htx hlt eq hp jx2 jx3 jy2 jy3
                                  go_wp2_with fail
                                  go_quiet (fail)
                                  go_wp2_with fail
                                  go_roundw
                                  case rel => exact ⟨k + 1, _, by go_num, by omega, by trivial⟩
                                  case measure => simp [intOf]; omega
                            · have W7 := Lib.hid (W6.out.drewN q)
                              have R7 := Lib.hid (R6.out.kept (only_drewN (only_refl w6 none) q) (by cases (Value.slice X n cX).ownBlock <;> simp))
                              clear W6 R6
                              generalize hV7 : w6.drewN q = V7 at W7 R7
                              clear hV7
                              go_wp2_with fail
                              go_loopw [16] (fun sk wx => ∃ (k : Nat) (f : Nat → Int), sk = .int .i64 k ∧ k ≤ n ∧ Hid (Oc f (D.drop k ++ E)) ∧ Hid (OcW w wx B bf f E (fun k => k = bf ∨ (Value.slice X n cX).ownBlock = some k)) ∧ Hid (wx.ownsRow w.heap.size 3 1 (.slice X n cX) n (ns (ids D)))) (fun sk _ => n - (intOf sk).toNat)
                              case atStart => exact ⟨0, f, rfl, Nat.zero_le _, OCD, W7, R7⟩
                              case round =>
                                clear W7 R7 OCD k1 hk kes
                                obtain ⟨k, f, rfl, hk, OCD, W7, R7⟩ := hrel
                                have kes : IntKind.i64.wrap ((k : Int) + 1) = (k : Int) + 1 := by rw [IntKind.wrap_i64]; omega
                                by_cases k1 : (k : Int) < (n : Int)
                                · have k0 : (0 : Int) ≤ (k : Int) := by omega
                                  obtain ⟨g, cg, hX, _, _, hc⟩ := row_form R7.out (by omega)
                                  injection hX with hX1 hX2 hX3
                                  subst hX1; subst hX3
                                  obtain ⟨y, hy⟩ : ∃ y, D[k]? = some y := ⟨D[k]'(by rw [← HN.out]; omega), by simp⟩
                                  have hdr : D.drop k = y :: D.drop (k + 1) := by
                                    obtain ⟨hh, rr⟩ := List.getElem?_eq_some_iff.1 hy
                                    rw [List.drop_eq_getElem_cons hh, rr]
                                  have oc1 := OCD.out
                                  rw [hdr] at oc1
                                  obtain ⟨jy, jy1, jy2, jy3⟩ := oc1.tm y (by simp)
                                  have nd1 : (ids (y :: (D.drop (k + 1) ++ E))).Nodup := by
                                    have h1 := NOD.out
                                    have h2 : ids (D.drop k ++ E) = (ids (D ++ E)).drop k := by
                                      unfold ids
                                      rw [← List.map_drop, List.drop_append_of_le_length (by rw [← HN.out]; omega)]
                                    have h3 : (ids (D.drop k ++ E)).Nodup := by rw [h2]; exact h1.sublist (List.drop_sublist _ _)
                                    rw [hdr] at h3
                                    exact h3
                                  have OC2 := Lib.hid (oc1.tell nd1 jy jy2)
                                  have cy : wr.cell? ⟨g, k, none⟩ = some (.int .i64 jy) := hc k _ (by rw [← jy2]; simp [ids, hy])
                                  have ly : wr.cell? ⟨bf, jy, none⟩ = some (.int .i64 (f jy)) := W7.out.af.cell jy1
                                  have zy : wr.frozen? ⟨bf, jy, none⟩ = false := W7.out.af.thaw jy
                                  have W8 := Lib.hid (W7.out.put jy jy1 (-1))
                                  have R8 := Lib.hid (row_keep R7.out (fun k hk => heap_other wr (FAR.out k hk) jy (.int .i64 (-1))))
                                  have j0 : (0 : Int) ≤ (jy : Int) := by omega
                                  have j50 : (jy : Int) < 50 := by omega
                                  clear hc hy hdr oc1 nd1 jy2 jy3
                                  go_wp2_with fail
                                  go_roundw
                                  case rel => exact ⟨k + 1, _, by go_num, by omega, OC2, W8, R8⟩
                                  case measure => simp [intOf]; omega
                                · obtain rfl : k = n := by omega
                                  have OCE : Hid (Oc f E) := Lib.hid (by
                                    have h := OCD.out
                                    rw [List.drop_eq_nil_of_le (by rw [← HN.out]; exact Nat.le_refl _), List.nil_append] at h
                                    exact h)
                                  obtain ⟨V8, hV8⟩ : ∃ V8, V8 = wr := ⟨_, rfl⟩
                                  subst hV8
                                  go_wp2_with fail
                                  go_loopw [17] (fun sq wx => ∃ (q : Nat), sq = .int .i64 q ∧ q ≤ 50 ∧ V8 = wx) (fun sq _ => 50 - (intOf sq).toNat)
                                  case atStart => exact ⟨0, rfl, Nat.zero_le _, by trivial⟩
                                  case round =>
                                    obtain ⟨q, rfl, hq, rfl⟩ := hrel
                                    have qes : IntKind.i64.wrap ((q : Int) + 1) = (q : Int) + 1 := by rw [IntKind.wrap_i64]; omega
                                    by_cases q1 : (q : Int) < 50
                                    · have q0 : (0 : Int) ≤ (q : Int) := by omega
                                      have cq : V8.cell? ⟨bf, q, none⟩ = some (.int .i64 (f q)) := W7.out.af.cell (by omega)
                                      obtain ⟨v, hv⟩ : ∃ v, v = f q := ⟨_, rfl⟩
                                      rw [← hv] at cq
                                      by_cases vz : 0 ≤ v
                                      · have m1 : decide (v ≤ NOW) = false := by
                                          rw [decide_eq_false_iff_not]
                                          obtain ⟨y, hy, ey⟩ := isIn_iff.1 ((OCE.out.on q (by omega)).1 (by rw [← hv]; exact vz))
                                          obtain ⟨j, j1, j2, j3⟩ := OCE.out.tm y hy
                                          have : j = q := by omega
                                          subst this
                                          have := LATE.out y hy
                                          omega
                                        have m0 : decide (0 ≤ v) = true := by rw [decide_eq_true_iff]; exact vz
                                        clear hv vz
                                        go_wp2_with fail
                                        go_roundw
                                        case rel => exact ⟨q + 1, by go_num, by omega, by trivial⟩
                                        case measure => simp [intOf]; omega
                                      · have m0 : decide (0 ≤ v) = false := by rw [decide_eq_false_iff_not]; exact vz
                                        clear hv vz
                                        go_wp2_with fail
                                        go_roundw
                                        case rel => exact ⟨q + 1, by go_num, by omega, by trivial⟩
                                        case measure => simp [intOf]; omega
                                    · have W9 : Hid (OcW w V8 B bf f E (fun k => k = bf)) := Lib.hid ⟨W7.out.one.less (fun k hk => .inl hk), W7.out.af, rfl, W7.out.lf⟩
                                      go_wp2_with fail
                                      go_roundw
                                      case rel => exact ⟨NOW, i + 1, f, E, rfl, by go_num, N2.out.1, N2.out.2, by omega, by omega, ELAST, EL, OCE, W9⟩
                                      case measure => simp [intOf]; omega
                      · obtain ⟨NOW, hn2⟩ : ∃ NOW : Int, NOW = 100 := ⟨_, rfl⟩
                        have N2 := Lib.hid (show 0 ≤ NOW ∧ NOW ≤ 9 * ((i + 1 : Nat) : Int) + 100 by omega)
                        have LAST : Hid (((i + 1 ≤ z2.length ∧ i + 1 ≤ 30) ∨ ∀ y ∈ S, y.2 ≤ NOW)) := Lib.hid (.inr (fun y hy => by have := (OC.out.rng y hy).2; omega))
                        have HDD := Lib.hid hn2
                        clear now0 now9 hn2
                        go_wp2_with fail
                        rw [← HDD.out]
                        clear HDD
                        as_aux_lemma =>
                          refine (one_due T.out.one (by have := SL.out; omega) NOW (l := ids (S.takeWhile (isDue NOW))) (C := S.dropWhile (isDue NOW)) rfl rfl).mono ?_
                          rintro e w6 ⟨X, cX, rfl, r6, s6, k6, z6⟩
                          have DUE0 := take_due S NOW
                          have LATE0 := rest_late T.out.one.srt NOW
                          obtain ⟨D, hD⟩ : ∃ D, D = S.takeWhile (isDue NOW) := ⟨_, rfl⟩
                          obtain ⟨E, hE⟩ : ∃ E, E = S.dropWhile (isDue NOW) := ⟨_, rfl⟩
                          have hC : S = D ++ E := by rw [hD, hE]; exact List.takeWhile_append_dropWhile.symm
                          rw [← hD] at r6 s6 DUE0 ⊢
                          rw [← hE] at s6 LATE0
                          have SRT := Lib.hid (show Srt (D ++ E) by rw [← hC]; exact T.out.one.srt)
                          have NOD := Lib.hid (show (ids (D ++ E)).Nodup by rw [← hC]; exact T.out.one.nodup)
                          have OCD := Lib.hid (show Oc f (D ++ E) by rw [← hC]; exact OC.out)
                          have ELAST : Hid ((i + 1 ≤ z2.length ∧ i + 1 ≤ 30) ∨ E = []) := Lib.hid (by
                            rcases LAST.out with h | h
                            · exact .inl h
                            · right
                              cases E with
                              | nil => rfl
                              | cons y r =>
                                have a := LATE0 y (by simp)
                                have b := h y (by rw [hC]; simp)
                                omega)
                          have EL : Hid (E.length ≤ 100) := Lib.hid (by have h1 := congrArg List.length hC; rw [List.length_append] at h1; have := SL.out; omega)
                          obtain ⟨n, hn⟩ : ∃ n, n = (ids D).length := ⟨_, rfl⟩
                          rw [← hn] at r6 s6 ⊢
                          have HN : Hid (n = D.length) := Lib.hid (by rw [hn]; simp [ids])
                          have W6 : Hid (OcW w w6 B bf f E (fun k => k = bf ∨ (Value.slice X n cX).ownBlock = some k)) := Lib.hid ⟨s6, T.out.af.of (k6 bf rfl), .inl rfl, T.out.lf⟩
                          have FAR : Hid (∀ k, (Value.slice X n cX).ownBlock = some k → k ≠ bf) := Lib.hid (fun k hk e => by have := row_ge r6 k hk; have := T.out.lt (k := bf) rfl; omega)
                          have R6 := Lib.hid (own_less r6 T.out.one.only.size)
                          have DUE := Lib.hid DUE0
                          have LATE := Lib.hid LATE0
                          have n100 : n ≤ 100 := by rw [HN.out]; have h1 := congrArg List.length hC; rw [List.length_append] at h1; have := SL.out; omega
                          clear r6 s6 k6 z6 hD hE hC hn DUE0 LATE0 LAST SL OC T HE0
                          go_wp2_with fail
                          go_loopw [15] (fun sk wx => ∃ (k q : Nat), sk = .int .i64 k ∧ k ≤ n ∧ w6.drewN q = wx) (fun sk _ => n - (intOf sk).toNat)
                          case atStart => exact ⟨0, 0, rfl, Nat.zero_le _, by trivial⟩
                          case round =>
                            obtain ⟨k, q, rfl, hk, rfl⟩ := hrel
                            have kes : IntKind.i64.wrap ((k : Int) + 1) = (k : Int) + 1 := by rw [IntKind.wrap_i64]; omega
                            by_cases k1 : (k : Int) < (n : Int)
                            · have k0 : (0 : Int) ≤ (k : Int) := by omega
                              obtain ⟨g, cg, hX, _, _, hc⟩ := row_form R6.out (by omega)
                              injection hX with hX1 hX2 hX3
                              subst hX1; subst hX3
                              obtain ⟨y, hy⟩ : ∃ y, D[k]? = some y := ⟨D[k]'(by rw [← HN.out]; omega), by simp⟩
                              obtain ⟨jy, jy1, jy2, jy3⟩ := OCD.out.tm y (by simp [List.mem_of_getElem? hy])
                              have dy := DUE.out y (List.mem_of_getElem? hy)
                              have ry := OCD.out.rng y (by simp [List.mem_of_getElem? hy])
                              have cy : ∀ q, (w6.drewN q).cell? ⟨g, k, none⟩ = some (.int .i64 jy) := fun _ => hc k _ (by rw [← jy2]; simp [ids, hy])
                              have ly : ∀ q, (w6.drewN q).cell? ⟨bf, jy, none⟩ = some (.int .i64 y.2) := fun _ => by rw [← jy3]; exact W6.out.af.cell jy1
                              obtain ⟨ty, hty⟩ : ∃ ty, ty = y.2 := ⟨_, rfl⟩
                              rw [← hty] at ly dy ry
                              have m1 : decide (ty < 0) = false := by rw [decide_eq_false_iff_not]; omega
                              have m2 : decide (NOW < ty) = false := by rw [decide_eq_false_iff_not]; omega
                              have j0 : (0 : Int) ≤ (jy : Int) := by omega
                              have j50 : (jy : Int) < 50 := by omega
                              by_cases kz : k = 0
                              · subst kz
                                clear hc hy hty
                                go_wp2_with fail
                                go_quiet (fail)
                                go_wp2_with fail
                                go_roundw
                                case rel => exact ⟨1, _, by go_num, by omega, by trivial⟩
                                case measure => simp [intOf]; omega
                              · obtain ⟨p, hp⟩ : ∃ p : Nat, p + 1 = k := ⟨k - 1, by omega⟩
                                have kw : IntKind.i64.wrap ((k : Int) - 1) = (p : Int) := by rw [IntKind.wrap_i64]; omega
                                have p0 : (0 : Int) ≤ (p : Int) := by omega
                                have p1 : (p : Int) < (n : Int) := by omega
                                have kp : (0 : Int) < (k : Int) := by omega
                                have kpn : 0 < k := by omega
                                have kpb : decide ((0 : Int) < (k : Int)) = true := by rw [decide_eq_true_iff]; exact kp
                                have kpc : decide (0 < k) = true := by rw [decide_eq_true_iff]; exact kpn
                                obtain ⟨x, hx⟩ : ∃ x, D[p]? = some x := ⟨D[p]'(by rw [← HN.out]; omega), by simp⟩
                                obtain ⟨jx, jx1, jx2, jx3⟩ := OCD.out.tm x (by simp [List.mem_of_getElem? hx])
                                have cx : ∀ q, (w6.drewN q).cell? ⟨g, p, none⟩ = some (.int .i64 jx) := fun _ => hc p _ (by rw [← jx2]; simp [ids, hx])
                                have lx : ∀ q, (w6.drewN q).cell? ⟨bf, jx, none⟩ = some (.int .i64 x.2) := fun _ => by rw [← jx3]; exact W6.out.af.cell jx1
                                have hlt : ilt x y := by
                                  obtain ⟨ha, e1⟩ := List.getElem?_eq_some_iff.1 hx
                                  obtain ⟨hb, e2⟩ := List.getElem?_eq_some_iff.1 hy
                                  rw [← e1, ← e2]
                                  have sd : Srt D := SRT.out.sublist (List.sublist_append_left D E)
                                  exact List.pairwise_iff_getElem.1 sd p k ha hb (by omega)
                                unfold ilt at hlt
                                rw [← hty] at hlt
                                obtain ⟨tx, htx⟩ : ∃ tx, tx = x.2 := ⟨_, rfl⟩
                                rw [← htx] at lx hlt
                                have i0x : (0 : Int) ≤ (jx : Int) := by omega
                                have i50x : (jx : Int) < 50 := by omega
                                have m3 : decide (ty < tx) = false := by rw [decide_eq_false_iff_not]; omega
                                have HP := Lib.hid hp
                                by_cases eq : tx = ty
                                · have m4 : (tx == ty) = true := by rw [beq_iff_eq]; exact eq
                                  have m5 : decide ((jy : Int) ≤ (jx : Int)) = false := by rw [decide_eq_false_iff_not]; omega
                                  have m6 : decide (jy ≤ jx) = false := by rw [decide_eq_false_iff_not]; omega
                                  clear hc hy hty hx htx hlt eq hp jx2 jx3 jy2 jy3
                                  go_wp2_with fail
                                  go_quiet (fail)
                                  go_wp2_with fail
                                  go_roundw
                                  case rel => exact ⟨k + 1, _, by go_num, by omega, by trivial⟩
                                  case measure => simp [intOf]; omega
                                · have m4 : (tx == ty) = false := by rw [beq_eq_false_iff_ne]; exact eq
                                  clear hc hy hty hx htx hlt eq hp jx2 jx3 jy2 jy3
                                  go_wp2_with fail
                                  go_quiet (fail)
                                  go_wp2_with fail
                                  go_roundw
                                  case rel => exact ⟨k + 1, _, by go_num, by omega, by trivial⟩
                                  case measure => simp [intOf]; omega
                            · have W7 := Lib.hid (W6.out.drewN q)
                              have R7 := Lib.hid (R6.out.kept (only_drewN (only_refl w6 none) q) (by cases (Value.slice X n cX).ownBlock <;> simp))
                              clear W6 R6
                              generalize hV7 : w6.drewN q = V7 at W7 R7
                              clear hV7
                              go_wp2_with fail
                              go_loopw [16] (fun sk wx => ∃ (k : Nat) (f : Nat → Int), sk = .int .i64 k ∧ k ≤ n ∧ Hid (Oc f (D.drop k ++ E)) ∧ Hid (OcW w wx B bf f E (fun k => k = bf ∨ (Value.slice X n cX).ownBlock = some k)) ∧ Hid (wx.ownsRow w.heap.size 3 1 (.slice X n cX) n (ns (ids D)))) (fun sk _ => n - (intOf sk).toNat)
                              case atStart => exact ⟨0, f, rfl, Nat.zero_le _, OCD, W7, R7⟩
                              case round =>
                                clear W7 R7 OCD k1 hk kes
                                obtain ⟨k, f, rfl, hk, OCD, W7, R7⟩ := hrel
                                have kes : IntKind.i64.wrap ((k : Int) + 1) = (k : Int) + 1 := by rw [IntKind.wrap_i64]; omega
                                by_cases k1 : (k : Int) < (n : Int)
                                · have k0 : (0 : Int) ≤ (k : Int) := by omega
                                  obtain ⟨g, cg, hX, _, _, hc⟩ := row_form R7.out (by omega)
                                  injection hX with hX1 hX2 hX3
                                  subst hX1; subst hX3
                                  obtain ⟨y, hy⟩ : ∃ y, D[k]? = some y := ⟨D[k]'(by rw [← HN.out]; omega), by simp⟩
                                  have hdr : D.drop k = y :: D.drop (k + 1) := by
                                    obtain ⟨hh, rr⟩ := List.getElem?_eq_some_iff.1 hy
                                    rw [List.drop_eq_getElem_cons hh, rr]
                                  have oc1 := OCD.out
                                  rw [hdr] at oc1
                                  obtain ⟨jy, jy1, jy2, jy3⟩ := oc1.tm y (by simp)
                                  have nd1 : (ids (y :: (D.drop (k + 1) ++ E))).Nodup := by
                                    have h1 := NOD.out
                                    have h2 : ids (D.drop k ++ E) = (ids (D ++ E)).drop k := by
                                      unfold ids
                                      rw [← List.map_drop, List.drop_append_of_le_length (by rw [← HN.out]; omega)]
                                    have h3 : (ids (D.drop k ++ E)).Nodup := by rw [h2]; exact h1.sublist (List.drop_sublist _ _)
                                    rw [hdr] at h3
                                    exact h3
                                  have OC2 := Lib.hid (oc1.tell nd1 jy jy2)
                                  have cy : wr.cell? ⟨g, k, none⟩ = some (.int .i64 jy) := hc k _ (by rw [← jy2]; simp [ids, hy])
                                  have ly : wr.cell? ⟨bf, jy, none⟩ = some (.int .i64 (f jy)) := W7.out.af.cell jy1
                                  have zy : wr.frozen? ⟨bf, jy, none⟩ = false := W7.out.af.thaw jy
                                  have W8 := Lib.hid (W7.out.put jy jy1 (-1))
                                  have R8 := Lib.hid (row_keep R7.out (fun k hk => heap_other wr (FAR.out k hk) jy (.int .i64 (-1))))
                                  have j0 : (0 : Int) ≤ (jy : Int) := by omega
                                  have j50 : (jy : Int) < 50 := by omega
                                  clear hc hy hdr oc1 nd1 jy2 jy3
                                  go_wp2_with fail
                                  go_roundw
                                  case rel => exact ⟨k + 1, _, by go_num, by omega, OC2, W8, R8⟩
                                  case measure => simp [intOf]; omega
                                · obtain rfl : k = n := by omega
                                  have OCE : Hid (Oc f E) := Lib.hid (by
                                    have h := OCD.out
                                    rw [List.drop_eq_nil_of_le (by rw [← HN.out]; exact Nat.le_refl _), List.nil_append] at h
                                    exact h)
                                  obtain ⟨V8, hV8⟩ : ∃ V8, V8 = wr := ⟨_, rfl⟩
                                  subst hV8
                                  go_wp2_with fail
                                  go_loopw [17] (fun sq wx => ∃ (q : Nat), sq = .int .i64 q ∧ q ≤ 50 ∧ V8 = wx) (fun sq _ => 50 - (intOf sq).toNat)
                                  case atStart => exact ⟨0, rfl, Nat.zero_le _, by trivial⟩
                                  case round =>
                                    obtain ⟨q, rfl, hq, rfl⟩ := hrel
                                    have qes : IntKind.i64.wrap ((q : Int) + 1) = (q : Int) + 1 := by rw [IntKind.wrap_i64]; omega
                                    by_cases q1 : (q : Int) < 50
                                    · have q0 : (0 : Int) ≤ (q : Int) := by omega
                                      have cq : V8.cell? ⟨bf, q, none⟩ = some (.int .i64 (f q)) := W7.out.af.cell (by omega)
                                      obtain ⟨v, hv⟩ : ∃ v, v = f q := ⟨_, rfl⟩
                                      rw [← hv] at cq
                                      by_cases vz : 0 ≤ v
                                      · have m1 : decide (v ≤ NOW) = false := by
                                          rw [decide_eq_false_iff_not]
                                          obtain ⟨y, hy, ey⟩ := isIn_iff.1 ((OCE.out.on q (by omega)).1 (by rw [← hv]; exact vz))
                                          obtain ⟨j, j1, j2, j3⟩ := OCE.out.tm y hy
                                          have : j = q := by omega
                                          subst this
                                          have := LATE.out y hy
                                          omega
                                        have m0 : decide (0 ≤ v) = true := by rw [decide_eq_true_iff]; exact vz
                                        clear hv vz
                                        go_wp2_with fail
                                        go_roundw
                                        case rel => exact ⟨q + 1, by go_num, by omega, by trivial⟩
                                        case measure => simp [intOf]; omega
                                      · have m0 : decide (0 ≤ v) = false := by rw [decide_eq_false_iff_not]; exact vz
                                        clear hv vz
                                        go_wp2_with fail
                                        go_roundw
                                        case rel => exact ⟨q + 1, by go_num, by omega, by trivial⟩
                                        case measure => simp [intOf]; omega
                                    · have W9 : Hid (OcW w V8 B bf f E (fun k => k = bf)) := Lib.hid ⟨W7.out.one.less (fun k hk => .inl hk), W7.out.af, rfl, W7.out.lf⟩
                                      go_wp2_with fail
                                      go_roundw
                                      case rel => exact ⟨NOW, i + 1, f, E, rfl, by go_num, N2.out.1, N2.out.2, by omega, by omega, ELAST, EL, OCE, W9⟩
                                      case measure => simp [intOf]; omega
                    · obtain ⟨NOW, hn2⟩ : ∃ NOW : Int, NOW = 100 := ⟨_, rfl⟩
                      have N2 := Lib.hid (show 0 ≤ NOW ∧ NOW ≤ 9 * ((i + 1 : Nat) : Int) + 100 by omega)
                      have LAST : Hid (((i + 1 ≤ z2.length ∧ i + 1 ≤ 30) ∨ ∀ y ∈ S, y.2 ≤ NOW)) := Lib.hid (.inr (fun y hy => by have := (OC.out.rng y hy).2; omega))
                      have HDD := Lib.hid hn2
                      clear now0 now9 hn2
                      go_wp2_with fail
                      rw [← HDD.out]
                      clear HDD
                      as_aux_lemma =>
                        refine (one_due T.out.one (by have := SL.out; omega) NOW (l := ids (S.takeWhile (isDue NOW))) (C := S.dropWhile (isDue NOW)) rfl rfl).mono ?_
                        rintro e w6 ⟨X, cX, rfl, r6, s6, k6, z6⟩
                        have DUE0 := take_due S NOW
                        have LATE0 := rest_late T.out.one.srt NOW
                        obtain ⟨D, hD⟩ : ∃ D, D = S.takeWhile (isDue NOW) := ⟨_, rfl⟩
                        obtain ⟨E, hE⟩ : ∃ E, E = S.dropWhile (isDue NOW) := ⟨_, rfl⟩
                        have hC : S = D ++ E := by rw [hD, hE]; exact List.takeWhile_append_dropWhile.symm
                        rw [← hD] at r6 s6 DUE0 ⊢
                        rw [← hE] at s6 LATE0
                        have SRT := Lib.hid (show Srt (D ++ E) by rw [← hC]; exact T.out.one.srt)
                        have NOD := Lib.hid (show (ids (D ++ E)).Nodup by rw [← hC]; exact T.out.one.nodup)
                        have OCD := Lib.hid (show Oc f (D ++ E) by rw [← hC]; exact OC.out)
                        have ELAST : Hid ((i + 1 ≤ z2.length ∧ i + 1 ≤ 30) ∨ E = []) := Lib.hid (by
                          rcases LAST.out with h | h
                          · exact .inl h
                          · right
                            cases E with
                            | nil => rfl
                            | cons y r =>
                              have a := LATE0 y (by simp)
                              have b := h y (by rw [hC]; simp)
                              omega)
                        have EL : Hid (E.length ≤ 100) := Lib.hid (by have h1 := congrArg List.length hC; rw [List.length_append] at h1; have := SL.out; omega)
                        obtain ⟨n, hn⟩ : ∃ n, n = (ids D).length := ⟨_, rfl⟩
                        rw [← hn] at r6 s6 ⊢
                        have HN : Hid (n = D.length) := Lib.hid (by rw [hn]; simp [ids])
                        have W6 : Hid (OcW w w6 B bf f E (fun k => k = bf ∨ (Value.slice X n cX).ownBlock = some k)) := Lib.hid ⟨s6, T.out.af.of (k6 bf rfl), .inl rfl, T.out.lf⟩
                        have FAR : Hid (∀ k, (Value.slice X n cX).ownBlock = some k → k ≠ bf) := Lib.hid (fun k hk e => by have := row_ge r6 k hk; have := T.out.lt (k := bf) rfl; omega)
                        have R6 := Lib.hid (own_less r6 T.out.one.only.size)
                        have DUE := Lib.hid DUE0
                        have LATE := Lib.hid LATE0
                        have n100 : n ≤ 100 := by rw [HN.out]; have h1 := congrArg List.length hC; rw [List.length_append] at h1; have := SL.out; omega
                        clear r6 s6 k6 z6 hD hE hC hn DUE0 LATE0 LAST SL OC T HE0
                        go_wp2_with fail
                        go_loopw [15] (fun sk wx => ∃ (k q : Nat), sk = .int .i64 k ∧ k ≤ n ∧ w6.drewN q = wx) (fun sk _ => n - (intOf sk).toNat)
                        case atStart => exact ⟨0, 0, rfl, Nat.zero_le _, by trivial⟩
                        case round =>
                          obtain ⟨k, q, rfl, hk, rfl⟩ := hrel
                          have kes : IntKind.i64.wrap ((k : Int) + 1) = (k : Int) + 1 := by rw [IntKind.wrap_i64]; omega
                          by_cases k1 : (k : Int) < (n : Int)
                          · have k0 : (0 : Int) ≤ (k : Int) := by omega
                            obtain ⟨g, cg, hX, _, _, hc⟩ := row_form R6.out (by omega)
                            injection hX with hX1 hX2 hX3
                            subst hX1; subst hX3
                            obtain ⟨y, hy⟩ : ∃ y, D[k]? = some y := ⟨D[k]'(by rw [← HN.out]; omega), by simp⟩
                            obtain ⟨jy, jy1, jy2, jy3⟩ := OCD.out.tm y (by simp [List.mem_of_getElem? hy])
                            have dy := DUE.out y (List.mem_of_getElem? hy)
                            have ry := OCD.out.rng y (by simp [List.mem_of_getElem? hy])
                            have cy : ∀ q, (w6.drewN q).cell? ⟨g, k, none⟩ = some (.int .i64 jy) := fun _ => hc k _ (by rw [← jy2]; simp [ids, hy])
                            have ly : ∀ q, (w6.drewN q).cell? ⟨bf, jy, none⟩ = some (.int .i64 y.2) := fun _ => by rw [← jy3]; exact W6.out.af.cell jy1
                            obtain ⟨ty, hty⟩ : ∃ ty, ty = y.2 := ⟨_, rfl⟩
                            rw [← hty] at ly dy ry
                            have m1 : decide (ty < 0) = false := by rw [decide_eq_false_iff_not]; omega
                            have m2 : decide (NOW < ty) = false := by rw [decide_eq_false_iff_not]; omega
                            have j0 : (0 : Int) ≤ (jy : Int) := by omega
                            have j50 : (jy : Int) < 50 := by omega
                            by_cases kz : k = 0
                            · subst kz
                              clear hc hy hty
                              go_wp2_with fail
                              go_quiet (fail)
                              go_wp2_with fail
                              go_roundw
                              case rel => exact ⟨1, _, by go_num, by omega, by trivial⟩
                              case measure => simp [intOf]; omega
                            · obtain ⟨p, hp⟩ : ∃ p : Nat, p + 1 = k := ⟨k - 1, by omega⟩
                              have kw : IntKind.i64.wrap ((k : Int) - 1) = (p : Int) := by rw [IntKind.wrap_i64]; omega
                              have p0 : (0 : Int) ≤ (p : Int) := by omega
                              have p1 : (p : Int) < (n : Int) := by omega
                              have kp : (0 : Int) < (k : Int) := by omega
                              have kpn : 0 < k := by omega
                              have kpb : decide ((0 : Int) < (k : Int)) = true := by rw [decide_eq_true_iff]; exact kp
                              have kpc : decide (0 < k) = true := by rw [decide_eq_true_iff]; exact kpn
                              obtain ⟨x, hx⟩ : ∃ x, D[p]? = some x := ⟨D[p]'(by rw [← HN.out]; omega), by simp⟩
                              obtain ⟨jx, jx1, jx2, jx3⟩ := OCD.out.tm x (by simp [List.mem_of_getElem? hx])
                              have cx : ∀ q, (w6.drewN q).cell? ⟨g, p, none⟩ = some (.int .i64 jx) := fun _ => hc p _ (by rw [← jx2]; simp [ids, hx])
                              have lx : ∀ q, (w6.drewN q).cell? ⟨bf, jx, none⟩ = some (.int .i64 x.2) := fun _ => by rw [← jx3]; exact W6.out.af.cell jx1
                              have hlt : ilt x y := by
                                obtain ⟨ha, e1⟩ := List.getElem?_eq_some_iff.1 hx
                                obtain ⟨hb, e2⟩ := List.getElem?_eq_some_iff.1 hy
                                rw [← e1, ← e2]
                                have sd : Srt D := SRT.out.sublist (List.sublist_append_left D E)
                                exact List.pairwise_iff_getElem.1 sd p k ha hb (by omega)
                              unfold ilt at hlt
                              rw [← hty] at hlt
                              obtain ⟨tx, htx⟩ : ∃ tx, tx = x.2 := ⟨_, rfl⟩
                              rw [← htx] at lx hlt
                              have i0x : (0 : Int) ≤ (jx : Int) := by omega
                              have i50x : (jx : Int) < 50 := by omega
                              have m3 : decide (ty < tx) = false := by rw [decide_eq_false_iff_not]; omega
                              have HP := Lib.hid hp
                              by_cases eq : tx = ty
                              · have m4 : (tx == ty) = true := by rw [beq_iff_eq]; exact eq
                                have m5 : decide ((jy : Int) ≤ (jx : Int)) = false := by rw [decide_eq_false_iff_not]; omega
                                have m6 : decide (jy ≤ jx) = false := by rw [decide_eq_false_iff_not]; omega
                                clear hc hy hty hx htx hlt eq hp jx2 jx3 jy2 jy3
                                go_wp2_with fail
                                go_quiet (fail)
                                go_wp2_with fail
                                go_roundw
                                case rel => exact ⟨k + 1, _, by go_num, by omega, by trivial⟩
                                case measure => simp [intOf]; omega
                              · have m4 : (tx == ty) = false := by rw [beq_eq_false_iff_ne]; exact eq
                                clear hc hy hty hx htx hlt eq hp jx2 jx3 jy2 jy3
                                go_wp2_with fail
                                go_quiet (fail)
                                go_wp2_with fail
                                go_roundw
                                case rel => exact ⟨k + 1, _, by go_num, by omega, by trivial⟩
                                case measure => simp [intOf]; omega
                          · have W7 := Lib.hid (W6.out.drewN q)
                            have R7 := Lib.hid (R6.out.kept (only_drewN (only_refl w6 none) q) (by cases (Value.slice X n cX).ownBlock <;> simp))
                            clear W6 R6
                            generalize hV7 : w6.drewN q = V7 at W7 R7
                            clear hV7
                            go_wp2_with fail
                            go_loopw [16] (fun sk wx => ∃ (k : Nat) (f : Nat → Int), sk = .int .i64 k ∧ k ≤ n ∧ Hid (Oc f (D.drop k ++ E)) ∧ Hid (OcW w wx B bf f E (fun k => k = bf ∨ (Value.slice X n cX).ownBlock = some k)) ∧ Hid (wx.ownsRow w.heap.size 3 1 (.slice X n cX) n (ns (ids D)))) (fun sk _ => n - (intOf sk).toNat)
                            case atStart => exact ⟨0, f, rfl, Nat.zero_le _, OCD, W7, R7⟩
                            case round =>
                              clear W7 R7 OCD k1 hk kes
                              obtain ⟨k, f, rfl, hk, OCD, W7, R7⟩ := hrel
                              have kes : IntKind.i64.wrap ((k : Int) + 1) = (k : Int) + 1 := by rw [IntKind.wrap_i64]; omega
                              by_cases k1 : (k : Int) < (n : Int)
                              · have k0 : (0 : Int) ≤ (k : Int) := by omega
                                obtain ⟨g, cg, hX, _, _, hc⟩ := row_form R7.out (by omega)
                                injection hX with hX1 hX2 hX3
                                subst hX1; subst hX3
                                obtain ⟨y, hy⟩ : ∃ y, D[k]? = some y := ⟨D[k]'(by rw [← HN.out]; omega), by simp⟩
                                have hdr : D.drop k = y :: D.drop (k + 1) := by
                                  obtain ⟨hh, rr⟩ := List.getElem?_eq_some_iff.1 hy
                                  rw [List.drop_eq_getElem_cons hh, rr]
                                have oc1 := OCD.out
                                rw [hdr] at oc1
                                obtain ⟨jy, jy1, jy2, jy3⟩ := oc1.tm y (by simp)
                                have nd1 : (ids (y :: (D.drop (k + 1) ++ E))).Nodup := by
                                  have h1 := NOD.out
                                  have h2 : ids (D.drop k ++ E) = (ids (D ++ E)).drop k := by
                                    unfold ids
                                    rw [← List.map_drop, List.drop_append_of_le_length (by rw [← HN.out]; omega)]
                                  have h3 : (ids (D.drop k ++ E)).Nodup := by rw [h2]; exact h1.sublist (List.drop_sublist _ _)
                                  rw [hdr] at h3
                                  exact h3
                                have OC2 := Lib.hid (oc1.tell nd1 jy jy2)
                                have cy : wr.cell? ⟨g, k, none⟩ = some (.int .i64 jy) := hc k _ (by rw [← jy2]; simp [ids, hy])
                                have ly : wr.cell? ⟨bf, jy, none⟩ = some (.int .i64 (f jy)) := W7.out.af.cell jy1
                                have zy : wr.frozen? ⟨bf, jy, none⟩ = false := W7.out.af.thaw jy
                                have W8 := Lib.hid (W7.out.put jy jy1 (-1))
                                have R8 := Lib.hid (row_keep R7.out (fun k hk => heap_other wr (FAR.out k hk) jy (.int .i64 (-1))))
                                have j0 : (0 : Int) ≤ (jy : Int) := by omega
                                have j50 : (jy : Int) < 50 := by omega
                                clear hc hy hdr oc1 nd1 jy2 jy3
                                go_wp2_with fail
                                go_roundw
                                case rel => exact ⟨k + 1, _, by go_num, by omega, OC2, W8, R8⟩
                                case measure => simp [intOf]; omega
                              · obtain rfl : k = n := by omega
                                have OCE : Hid (Oc f E) := Lib.hid (by
                                  have h := OCD.out
                                  rw [List.drop_eq_nil_of_le (by rw [← HN.out]; exact Nat.le_refl _), List.nil_append] at h
                                  exact h)
                                obtain ⟨V8, hV8⟩ : ∃ V8, V8 = wr := ⟨_, rfl⟩
                                subst hV8
                                go_wp2_with fail
                                go_loopw [17] (fun sq wx => ∃ (q : Nat), sq = .int .i64 q ∧ q ≤ 50 ∧ V8 = wx) (fun sq _ => 50 - (intOf sq).toNat)
                                case atStart => exact ⟨0, rfl, Nat.zero_le _, by trivial⟩
                                case round =>
                                  obtain ⟨q, rfl, hq, rfl⟩ := hrel
                                  have qes : IntKind.i64.wrap ((q : Int) + 1) = (q : Int) + 1 := by rw [IntKind.wrap_i64]; omega
                                  by_cases q1 : (q : Int) < 50
                                  · have q0 : (0 : Int) ≤ (q : Int) := by omega
                                    have cq : V8.cell? ⟨bf, q, none⟩ = some (.int .i64 (f q)) := W7.out.af.cell (by omega)
                                    obtain ⟨v, hv⟩ : ∃ v, v = f q := ⟨_, rfl⟩
                                    rw [← hv] at cq
                                    by_cases vz : 0 ≤ v
                                    · have m1 : decide (v ≤ NOW) = false := by
                                        rw [decide_eq_false_iff_not]
                                        obtain ⟨y, hy, ey⟩ := isIn_iff.1 ((OCE.out.on q (by omega)).1 (by rw [← hv]; exact vz))
                                        obtain ⟨j, j1, j2, j3⟩ := OCE.out.tm y hy
                                        have : j = q := by omega
                                        subst this
                                        have := LATE.out y hy
                                        omega
                                      have m0 : decide (0 ≤ v) = true := by rw [decide_eq_true_iff]; exact vz
                                      clear hv vz
                                      go_wp2_with fail
                                      go_roundw
                                      case rel => exact ⟨q + 1, by go_num, by omega, by trivial⟩
                                      case measure => simp [intOf]; omega
                                    · have m0 : decide (0 ≤ v) = false := by rw [decide_eq_false_iff_not]; exact vz
                                      clear hv vz
                                      go_wp2_with fail
                                      go_roundw
                                      case rel => exact ⟨q + 1, by go_num, by omega, by trivial⟩
                                      case measure => simp [intOf]; omega
                                  · have W9 : Hid (OcW w V8 B bf f E (fun k => k = bf)) := Lib.hid ⟨W7.out.one.less (fun k hk => .inl hk), W7.out.af, rfl, W7.out.lf⟩
                                    go_wp2_with fail
                                    go_roundw
                                    case rel => exact ⟨NOW, i + 1, f, E, rfl, by go_num, N2.out.1, N2.out.2, by omega, by omega, ELAST, EL, OCE, W9⟩
                                    case measure => simp [intOf]; omega
                  · have SE : S = [] := HE0.out.elim (fun h => by omega) (fun h => h)
                    subst SE
                    go_wp2_with fail
                    refine (one_next T.out.one).mono ?_
                    rintro e w9 ⟨rfl, s9, gr9⟩
                    have S9 := Lib.hid s9
                    clear s9 gr9
                    go_wp2_with fail
                    refine (one_len S9.out).mono ?_
                    rintro e w10 ⟨rfl, rfl⟩
                    go_wp2_with fail
                    go_ret
                    exact ⟨rfl, S9.out.at_.end⟩
                · have SE : S = [] := HE0.out.elim (fun h => by omega) (fun h => h)
                  subst SE
                  go_wp2_with fail
                  refine (one_next T.out.one).mono ?_
                  rintro e w9 ⟨rfl, s9, gr9⟩
                  have S9 := Lib.hid s9
                  clear s9 gr9
                  go_wp2_with fail
                  refine (one_len S9.out).mono ?_
                  rintro e w10 ⟨rfl, rfl⟩
                  go_wp2_with fail
                  go_ret
                  exact ⟨rfl, S9.out.at_.end⟩
        · skip
          as_aux_lemma =>
            have SL : Hid (S.length ≤ 100) := Lib.hid (by omega)
            clear hS
            go_wp2_with fail
            go_loopw [12, 13] (fun sn si wr => ∃ (now : Int) (i : Nat) (f : Nat → Int) (S : List It), sn = .int .i64 now ∧ si = .int .i64 i ∧ 0 ≤ now ∧ now ≤ 9 * (i : Int) + 100 ∧ i ≤ z2.length + 1 ∧ i ≤ 31 ∧ Hid ((i ≤ z2.length ∧ i ≤ 30) ∨ S = []) ∧ Hid (S.length ≤ 100) ∧ Hid (Oc f S) ∧ Hid (OcW w wr B bf f S (fun k => k = bf))) (fun _ si _ => 31 - (intOf si).toNat)
            case atStart => exact ⟨0, 0, f, S, rfl, rfl, by omega, by omega, Nat.zero_le _, Nat.zero_le _, Lib.hid (.inl ⟨Nat.zero_le _, Nat.zero_le _⟩), SL, OC, T⟩
            case round =>
              clear OC T SL hi hi1 hi100
              clear f S
              obtain ⟨now, i, f, S, rfl, rfl, now0, now9, hi, hi31, HE0, SL, OC, T⟩ := hrel
              have hes : IntKind.i64.wrap ((i : Int) + 1) = (i : Int) + 1 := by rw [IntKind.wrap_i64]; omega
              have i0 : (0 : Int) ≤ (i : Int) := by omega
              by_cases v1 : (i : Int) ≤ (z2.length : Int)
              · by_cases v2 : (i : Int) ≤ 30
                · by_cases u1 : (i : Int) < (z2.length : Int)
                  · by_cases u2 : (i : Int) < 30
                    · obtain ⟨q, hq⟩ : ∃ q, z2[i]? = some q := ⟨z2[i]'(by omega), by simp⟩
                      obtain ⟨b, off, rfl, _, cq⟩ := (HH2.out.mine T.out.one.only).int hq
                      have Q1 := HZ2.out q (List.mem_of_getElem? hq)
                      have q0 := Int.emod_nonneg q (show (9 : Int) ≠ 0 by decide)
                      have q9 := Int.emod_lt_of_pos q (show (0 : Int) < 9 by decide)
                      obtain ⟨d, hd⟩ : ∃ d, d = q % 9 := ⟨_, rfl⟩
                      rw [← hd] at q0 q9
                      obtain ⟨NOW, hn2⟩ : ∃ NOW, NOW = now + d := ⟨_, rfl⟩
                      have hw : IntKind.i64.wrap (now + d) = NOW := by rw [hn2, IntKind.wrap_i64]; omega
                      have N2 := Lib.hid (show 0 ≤ NOW ∧ NOW ≤ 9 * ((i + 1 : Nat) : Int) + 100 by omega)
                      have LAST : Hid (((i + 1 ≤ z2.length ∧ i + 1 ≤ 30) ∨ ∀ y ∈ S, y.2 ≤ NOW)) := Lib.hid (.inl ⟨by omega, by omega⟩)
                      have HDD := Lib.hid hd
                      clear hq hn2 hd q0 q9 now0 now9
                      go_wp2_with fail
                      refine (within_eq q 9 Q1 (by omega) (by omega) wr).mono ?_
                      rintro e w5 ⟨rfl, rfl⟩
                      rw [← HDD.out]
                      clear HDD
                      go_wp2_with fail
                      as_aux_lemma =>
                        refine (one_due T.out.one (by have := SL.out; omega) NOW (l := ids (S.takeWhile (isDue NOW))) (C := S.dropWhile (isDue NOW)) rfl rfl).mono ?_
                        rintro e w6 ⟨X, cX, rfl, r6, s6, k6, z6⟩
                        have DUE0 := take_due S NOW
                        have LATE0 := rest_late T.out.one.srt NOW
                        obtain ⟨D, hD⟩ : ∃ D, D = S.takeWhile (isDue NOW) := ⟨_, rfl⟩
                        obtain ⟨E, hE⟩ : ∃ E, E = S.dropWhile (isDue NOW) := ⟨_, rfl⟩
                        have hC : S = D ++ E := by rw [hD, hE]; exact List.takeWhile_append_dropWhile.symm
                        rw [← hD] at r6 s6 DUE0 ⊢
                        rw [← hE] at s6 LATE0
                        have SRT := Lib.hid (show Srt (D ++ E) by rw [← hC]; exact T.out.one.srt)
                        have NOD := Lib.hid (show (ids (D ++ E)).Nodup by rw [← hC]; exact T.out.one.nodup)
                        have OCD := Lib.hid (show Oc f (D ++ E) by rw [← hC]; exact OC.out)
                        have ELAST : Hid ((i + 1 ≤ z2.length ∧ i + 1 ≤ 30) ∨ E = []) := Lib.hid (by
                          rcases LAST.out with h | h
                          · exact .inl h
                          · right
                            cases E with
                            | nil => rfl
                            | cons y r =>
                              have a := LATE0 y (by simp)
                              have b := h y (by rw [hC]; simp)
                              omega)
                        have EL : Hid (E.length ≤ 100) := Lib.hid (by have h1 := congrArg List.length hC; rw [List.length_append] at h1; have := SL.out; omega)
                        obtain ⟨n, hn⟩ : ∃ n, n = (ids D).length := ⟨_, rfl⟩
                        rw [← hn] at r6 s6 ⊢
                        have HN : Hid (n = D.length) := Lib.hid (by rw [hn]; simp [ids])
                        have W6 : Hid (OcW w w6 B bf f E (fun k => k = bf ∨ (Value.slice X n cX).ownBlock = some k)) := Lib.hid ⟨s6, T.out.af.of (k6 bf rfl), .inl rfl, T.out.lf⟩
                        have FAR : Hid (∀ k, (Value.slice X n cX).ownBlock = some k → k ≠ bf) := Lib.hid (fun k hk e => by have := row_ge r6 k hk; have := T.out.lt (k := bf) rfl; omega)
                        have R6 := Lib.hid (own_less r6 T.out.one.only.size)
                        have DUE := Lib.hid DUE0
                        have LATE := Lib.hid LATE0
                        have n100 : n ≤ 100 := by rw [HN.out]; have h1 := congrArg List.length hC; rw [List.length_append] at h1; have := SL.out; omega
                        clear r6 s6 k6 z6 hD hE hC hn DUE0 LATE0 LAST SL OC T HE0
                        go_wp2_with fail
                        go_loopw [15] (fun sk wx => ∃ (k q : Nat), sk = .int .i64 k ∧ k ≤ n ∧ w6.drewN q = wx) (fun sk _ => n - (intOf sk).toNat)
                        case atStart => exact ⟨0, 0, rfl, Nat.zero_le _, by trivial⟩
                        case round =>
                          obtain ⟨k, q, rfl, hk, rfl⟩ := hrel
                          have kes : IntKind.i64.wrap ((k : Int) + 1) = (k : Int) + 1 := by rw [IntKind.wrap_i64]; omega
                          by_cases k1 : (k : Int) < (n : Int)
                          · have k0 : (0 : Int) ≤ (k : Int) := by omega
                            obtain ⟨g, cg, hX, _, _, hc⟩ := row_form R6.out (by omega)
                            injection hX with hX1 hX2 hX3
                            subst hX1; subst hX3
                            obtain ⟨y, hy⟩ : ∃ y, D[k]? = some y := ⟨D[k]'(by rw [← HN.out]; omega), by simp⟩
                            obtain ⟨jy, jy1, jy2, jy3⟩ := OCD.out.tm y (by simp [List.mem_of_getElem? hy])
                            have dy := DUE.out y (List.mem_of_getElem? hy)
                            have ry := OCD.out.rng y (by simp [List.mem_of_getElem? hy])
                            have cy : ∀ q, (w6.drewN q).cell? ⟨g, k, none⟩ = some (.int .i64 jy) := fun _ => hc k _ (by rw [← jy2]; simp [ids, hy])
                            have ly : ∀ q, (w6.drewN q).cell? ⟨bf, jy, none⟩ = some (.int .i64 y.2) := fun _ => by rw [← jy3]; exact W6.out.af.cell jy1
                            obtain ⟨ty, hty⟩ : ∃ ty, ty = y.2 := ⟨_, rfl⟩
                            rw [← hty] at ly dy ry
                            have m1 : decide (ty < 0) = false := by rw [decide_eq_false_iff_not]; omega
                            have m2 : decide (NOW < ty) = false := by rw [decide_eq_false_iff_not]; omega
                            have j0 : (0 : Int) ≤ (jy : Int) := by omega
                            have j50 : (jy : Int) < 50 := by omega
                            by_cases kz : k = 0
                            · subst kz
                              clear hc hy hty
                              go_wp2_with fail
                              go_quiet (fail)
                              go_wp2_with fail
                              go_roundw
                              case rel => exact ⟨1, _, by go_num, by omega, by trivial⟩
                              case measure => simp [intOf]; omega
                            · obtain ⟨p, hp⟩ : ∃ p : Nat, p + 1 = k := ⟨k - 1, by omega⟩
                              have kw : IntKind.i64.wrap ((k : Int) - 1) = (p : Int) := by rw [IntKind.wrap_i64]; omega
                              have p0 : (0 : Int) ≤ (p : Int) := by omega
                              have p1 : (p : Int) < (n : Int) := by omega
                              have kp : (0 : Int) < (k : Int) := by omega
                              have kpn : 0 < k := by omega
                              have kpb : decide ((0 : Int) < (k : Int)) = true := by rw [decide_eq_true_iff]; exact kp
                              have kpc : decide (0 < k) = true := by rw [decide_eq_true_iff]; exact kpn
                              obtain ⟨x, hx⟩ : ∃ x, D[p]? = some x := ⟨D[p]'(by rw [← HN.out]; omega), by simp⟩
                              obtain ⟨jx, jx1, jx2, jx3⟩ := OCD.out.tm x (by simp [List.mem_of_getElem? hx])
                              have cx : ∀ q, (w6.drewN q).cell? ⟨g, p, none⟩ = some (.int .i64 jx) := fun _ => hc p _ (by rw [← jx2]; simp [ids, hx])
                              have lx : ∀ q, (w6.drewN q).cell? ⟨bf, jx, none⟩ = some (.int .i64 x.2) := fun _ => by rw [← jx3]; exact W6.out.af.cell jx1
                              have hlt : ilt x y := by
                                obtain ⟨ha, e1⟩ := List.getElem?_eq_some_iff.1 hx
                                obtain ⟨hb, e2⟩ := List.getElem?_eq_some_iff.1 hy
                                rw [← e1, ← e2]
                                have sd : Srt D := SRT.out.sublist (List.sublist_append_left D E)
                                exact List.pairwise_iff_getElem.1 sd p k ha hb (by omega)
                              unfold ilt at hlt
                              rw [← hty] at hlt
                              obtain ⟨tx, htx⟩ : ∃ tx, tx = x.2 := ⟨_, rfl⟩
                              rw [← htx] at lx hlt
                              have i0x : (0 : Int) ≤ (jx : Int) := by omega
                              have i50x : (jx : Int) < 50 := by omega
                              have m3 : decide (ty < tx) = false := by rw [decide_eq_false_iff_not]; omega
                              have HP := Lib.hid hp
                              by_cases eq : tx = ty
                              · have m4 : (tx == ty) = true := by rw [beq_iff_eq]; exact eq
                                have m5 : decide ((jy : Int) ≤ (jx : Int)) = false := by rw [decide_eq_false_iff_not]; omega
                                have m6 : decide (jy ≤ jx) = false := by rw [decide_eq_false_iff_not]; omega
                                clear hc hy hty hx htx hlt eq hp jx2 jx3 jy2 jy3
                                go_wp2_with fail
                                go_quiet (fail)
                                go_wp2_with fail
                                go_roundw
                                case rel => exact ⟨k + 1, _, by go_num, by omega, by trivial⟩
                                case measure => simp [intOf]; omega
                              · have m4 : (tx == ty) = false := by rw [beq_eq_false_iff_ne]; exact eq
                                clear hc hy hty hx htx hlt eq hp jx2 jx3 jy2 jy3
                                go_wp2_with fail
                                go_quiet (fail)
                                go_wp2_with fail
                                go_roundw
                                case rel => exact ⟨k + 1, _, by go_num, by omega, by trivial⟩
                                case measure => simp [intOf]; omega
                          · have W7 := Lib.hid (W6.out.drewN q)
                            have R7 := Lib.hid (R6.out.kept (only_drewN (only_refl w6 none) q) (by cases (Value.slice X n cX).ownBlock <;> simp))
                            clear W6 R6
                            generalize hV7 : w6.drewN q = V7 at W7 R7
                            clear hV7
                            go_wp2_with fail
                            go_loopw [16] (fun sk wx => ∃ (k : Nat) (f : Nat → Int), sk = .int .i64 k ∧ k ≤ n ∧ Hid (Oc f (D.drop k ++ E)) ∧ Hid (OcW w wx B bf f E (fun k => k = bf ∨ (Value.slice X n cX).ownBlock = some k)) ∧ Hid (wx.ownsRow w.heap.size 3 1 (.slice X n cX) n (ns (ids D)))) (fun sk _ => n - (intOf sk).toNat)
                            case atStart => exact ⟨0, f, rfl, Nat.zero_le _, OCD, W7, R7⟩
                            case round =>
                              clear W7 R7 OCD k1 hk kes
                              obtain ⟨k, f, rfl, hk, OCD, W7, R7⟩ := hrel
                              have kes : IntKind.i64.wrap ((k : Int) + 1) = (k : Int) + 1 := by rw [IntKind.wrap_i64]; omega
                              by_cases k1 : (k : Int) < (n : Int)
                              · have k0 : (0 : Int) ≤ (k : Int) := by omega
                                obtain ⟨g, cg, hX, _, _, hc⟩ := row_form R7.out (by omega)
                                injection hX with hX1 hX2 hX3
                                subst hX1; subst hX3
                                obtain ⟨y, hy⟩ : ∃ y, D[k]? = some y := ⟨D[k]'(by rw [← HN.out]; omega), by simp⟩
                                have hdr : D.drop k = y :: D.drop (k + 1) := by
                                  obtain ⟨hh, rr⟩ := List.getElem?_eq_some_iff.1 hy
                                  rw [List.drop_eq_getElem_cons hh, rr]
                                have oc1 := OCD.out
                                rw [hdr] at oc1
                                obtain ⟨jy, jy1, jy2, jy3⟩ := oc1.tm y (by simp)
                                have nd1 : (ids (y :: (D.drop (k + 1) ++ E))).Nodup := by
                                  have h1 := NOD.out
                                  have h2 : ids (D.drop k ++ E) = (ids (D ++ E)).drop k := by
                                    unfold ids
                                    rw [← List.map_drop, List.drop_append_of_le_length (by rw [← HN.out]; omega)]
                                  have h3 : (ids (D.drop k ++ E)).Nodup := by rw [h2]; exact h1.sublist (List.drop_sublist _ _)
                                  rw [hdr] at h3
                                  exact h3
                                have OC2 := Lib.hid (oc1.tell nd1 jy jy2)
                                have cy : wr.cell? ⟨g, k, none⟩ = some (.int .i64 jy) := hc k _ (by rw [← jy2]; simp [ids, hy])
                                have ly : wr.cell? ⟨bf, jy, none⟩ = some (.int .i64 (f jy)) := W7.out.af.cell jy1
                                have zy : wr.frozen? ⟨bf, jy, none⟩ = false := W7.out.af.thaw jy
                                have W8 := Lib.hid (W7.out.put jy jy1 (-1))
                                have R8 := Lib.hid (row_keep R7.out (fun k hk => heap_other wr (FAR.out k hk) jy (.int .i64 (-1))))
                                have j0 : (0 : Int) ≤ (jy : Int) := by omega
                                have j50 : (jy : Int) < 50 := by omega
                                clear hc hy hdr oc1 nd1 jy2 jy3
                                go_wp2_with fail
                                go_roundw
                                case rel => exact ⟨k + 1, _, by go_num, by omega, OC2, W8, R8⟩
                                case measure => simp [intOf]; omega
                              · obtain rfl : k = n := by omega
                                have OCE : Hid (Oc f E) := Lib.hid (by
                                  have h := OCD.out
                                  rw [List.drop_eq_nil_of_le (by rw [← HN.out]; exact Nat.le_refl _), List.nil_append] at h
                                  exact h)
                                obtain ⟨V8, hV8⟩ : ∃ V8, V8 = wr := ⟨_, rfl⟩
                                subst hV8
                                go_wp2_with fail
                                go_loopw [17] (fun sq wx => ∃ (q : Nat), sq = .int .i64 q ∧ q ≤ 50 ∧ V8 = wx) (fun sq _ => 50 - (intOf sq).toNat)
                                case atStart => exact ⟨0, rfl, Nat.zero_le _, by trivial⟩
                                case round =>
                                  obtain ⟨q, rfl, hq, rfl⟩ := hrel
                                  have qes : IntKind.i64.wrap ((q : Int) + 1) = (q : Int) + 1 := by rw [IntKind.wrap_i64]; omega
                                  by_cases q1 : (q : Int) < 50
                                  · have q0 : (0 : Int) ≤ (q : Int) := by omega
                                    have cq : V8.cell? ⟨bf, q, none⟩ = some (.int .i64 (f q)) := W7.out.af.cell (by omega)
                                    obtain ⟨v, hv⟩ : ∃ v, v = f q := ⟨_, rfl⟩
                                    rw [← hv] at cq
                                    by_cases vz : 0 ≤ v
                                    · have m1 : decide (v ≤ NOW) = false := by
                                        rw [decide_eq_false_iff_not]
                                        obtain ⟨y, hy, ey⟩ := isIn_iff.1 ((OCE.out.on q (by omega)).1 (by rw [← hv]; exact vz))
                                        obtain ⟨j, j1, j2, j3⟩ := OCE.out.tm y hy
                                        have : j = q := by omega
                                        subst this
                                        have := LATE.out y hy
                                        omega
                                      have m0 : decide (0 ≤ v) = true := by rw [decide_eq_true_iff]; exact vz
                                      clear hv vz
                                      go_wp2_with fail
                                      go_roundw
                                      case rel => exact ⟨q + 1, by go_num, by omega, by trivial⟩
                                      case measure => simp [intOf]; omega
                                    · have m0 : decide (0 ≤ v) = false := by rw [decide_eq_false_iff_not]; exact vz
                                      clear hv vz
                                      go_wp2_with fail
                                      go_roundw
                                      case rel => exact ⟨q + 1, by go_num, by omega, by trivial⟩
                                      case measure => simp [intOf]; omega
                                  · have W9 : Hid (OcW w V8 B bf f E (fun k => k = bf)) := Lib.hid ⟨W7.out.one.less (fun k hk => .inl hk), W7.out.af, rfl, W7.out.lf⟩
                                    go_wp2_with fail
                                    go_roundw
                                    case rel => exact ⟨NOW, i + 1, f, E, rfl, by go_num, N2.out.1, N2.out.2, by omega, by omega, ELAST, EL, OCE, W9⟩
                                    case measure => simp [intOf]; omega
                    · obtain ⟨NOW, hn2⟩ : ∃ NOW : Int, NOW = 100 := ⟨_, rfl⟩
                      have N2 := Lib.hid (show 0 ≤ NOW ∧ NOW ≤ 9 * ((i + 1 : Nat) : Int) + 100 by omega)
                      have LAST : Hid (((i + 1 ≤ z2.length ∧ i + 1 ≤ 30) ∨ ∀ y ∈ S, y.2 ≤ NOW)) := Lib.hid (.inr (fun y hy => by have := (OC.out.rng y hy).2; omega))
                      have HDD := Lib.hid hn2
                      clear now0 now9 hn2
                      go_wp2_with fail
                      rw [← HDD.out]
                      clear HDD
                      as_aux_lemma =>
                        refine (one_due T.out.one (by have := SL.out; omega) NOW (l := ids (S.takeWhile (isDue NOW))) (C := S.dropWhile (isDue NOW)) rfl rfl).mono ?_
                        rintro e w6 ⟨X, cX, rfl, r6, s6, k6, z6⟩
                        have DUE0 := take_due S NOW
                        have LATE0 := rest_late T.out.one.srt NOW
                        obtain ⟨D, hD⟩ : ∃ D, D = S.takeWhile (isDue NOW) := ⟨_, rfl⟩
                        obtain ⟨E, hE⟩ : ∃ E, E = S.dropWhile (isDue NOW) := ⟨_, rfl⟩
                        have hC : S = D ++ E := by rw [hD, hE]; exact List.takeWhile_append_dropWhile.symm
                        rw [← hD] at r6 s6 DUE0 ⊢
                        rw [← hE] at s6 LATE0
                        have SRT := Lib.hid (show Srt (D ++ E) by rw [← hC]; exact T.out.one.srt)
                        have NOD := Lib.hid (show (ids (D ++ E)).Nodup by rw [← hC]; exact T.out.one.nodup)
                        have OCD := Lib.hid (show Oc f (D ++ E) by rw [← hC]; exact OC.out)
                        have ELAST : Hid ((i + 1 ≤ z2.length ∧ i + 1 ≤ 30) ∨ E = []) := Lib.hid (by
                          rcases LAST.out with h | h
                          · exact .inl h
                          · right
                            cases E with
                            | nil => rfl
                            | cons y r =>
                              have a := LATE0 y (by simp)
                              have b := h y (by rw [hC]; simp)
                              omega)
                        have EL : Hid (E.length ≤ 100) := Lib.hid (by have h1 := congrArg List.length hC; rw [List.length_append] at h1; have := SL.out; omega)
                        obtain ⟨n, hn⟩ : ∃ n, n = (ids D).length := ⟨_, rfl⟩
                        rw [← hn] at r6 s6 ⊢
                        have HN : Hid (n = D.length) := Lib.hid (by rw [hn]; simp [ids])
                        have W6 : Hid (OcW w w6 B bf f E (fun k => k = bf ∨ (Value.slice X n cX).ownBlock = some k)) := Lib.hid ⟨s6, T.out.af.of (k6 bf rfl), .inl rfl, T.out.lf⟩
                        have FAR : Hid (∀ k, (Value.slice X n cX).ownBlock = some k → k ≠ bf) := Lib.hid (fun k hk e => by have := row_ge r6 k hk; have := T.out.lt (k := bf) rfl; omega)
                        have R6 := Lib.hid (own_less r6 T.out.one.only.size)
                        have DUE := Lib.hid DUE0
                        have LATE := Lib.hid LATE0
                        have n100 : n ≤ 100 := by rw [HN.out]; have h1 := congrArg List.length hC; rw [List.length_append] at h1; have := SL.out; omega
                        clear r6 s6 k6 z6 hD hE hC hn DUE0 LATE0 LAST SL OC T HE0
                        go_wp2_with fail
                        go_loopw [15] (fun sk wx => ∃ (k q : Nat), sk = .int .i64 k ∧ k ≤ n ∧ w6.drewN q = wx) (fun sk _ => n - (intOf sk).toNat)
                        case atStart => exact ⟨0, 0, rfl, Nat.zero_le _, by trivial⟩
                        case round =>
                          obtain ⟨k, q, rfl, hk, rfl⟩ := hrel
                          have kes : IntKind.i64.wrap ((k : Int) + 1) = (k : Int) + 1 := by rw [IntKind.wrap_i64]; omega
                          by_cases k1 : (k : Int) < (n : Int)
                          · have k0 : (0 : Int) ≤ (k : Int) := by omega
                            obtain ⟨g, cg, hX, _, _, hc⟩ := row_form R6.out (by omega)
                            injection hX with hX1 hX2 hX3
                            subst hX1; subst hX3
                            obtain ⟨y, hy⟩ : ∃ y, D[k]? = some y := ⟨D[k]'(by rw [← HN.out]; omega), by simp⟩
                            obtain ⟨jy, jy1, jy2, jy3⟩ := OCD.out.tm y (by simp [List.mem_of_getElem? hy])
                            have dy := DUE.out y (List.mem_of_getElem? hy)
                            have ry := OCD.out.rng y (by simp [List.mem_of_getElem? hy])
                            have cy : ∀ q, (w6.drewN q).cell? ⟨g, k, none⟩ = some (.int .i64 jy) := fun _ => hc k _ (by rw [← jy2]; simp [ids, hy])
                            have ly : ∀ q, (w6.drewN q).cell? ⟨bf, jy, none⟩ = some (.int .i64 y.2) := fun _ => by rw [← jy3]; exact W6.out.af.cell jy1
                            obtain ⟨ty, hty⟩ : ∃ ty, ty = y.2 := ⟨_, rfl⟩
                            rw [← hty] at ly dy ry
                            have m1 : decide (ty < 0) = false := by rw [decide_eq_false_iff_not]; omega
                            have m2 : decide (NOW < ty) = false := by rw [decide_eq_false_iff_not]; omega
                            have j0 : (0 : Int) ≤ (jy : Int) := by omega
                            have j50 : (jy : Int) < 50 := by omega
                            by_cases kz : k = 0
                            · subst kz
                              clear hc hy hty
                              go_wp2_with fail
                              go_quiet (fail)
                              go_wp2_with fail
                              go_roundw
                              case rel => exact ⟨1, _, by go_num, by omega, by trivial⟩
                              case measure => simp [intOf]; omega
                            · obtain ⟨p, hp⟩ : ∃ p : Nat, p + 1 = k := ⟨k - 1, by omega⟩
                              have kw : IntKind.i64.wrap ((k : Int) - 1) = (p : Int) := by rw [IntKind.wrap_i64]; omega
                              have p0 : (0 : Int) ≤ (p : Int) := by omega
                              have p1 : (p : Int) < (n : Int) := by omega
                              have kp : (0 : Int) < (k : Int) := by omega
                              have kpn : 0 < k := by omega
                              have kpb : decide ((0 : Int) < (k : Int)) = true := by rw [decide_eq_true_iff]; exact kp
                              have kpc : decide (0 < k) = true := by rw [decide_eq_true_iff]; exact kpn
                              obtain ⟨x, hx⟩ : ∃ x, D[p]? = some x := ⟨D[p]'(by rw [← HN.out]; omega), by simp⟩
                              obtain ⟨jx, jx1, jx2, jx3⟩ := OCD.out.tm x (by simp [List.mem_of_getElem? hx])
                              have cx : ∀ q, (w6.drewN q).cell? ⟨g, p, none⟩ = some (.int .i64 jx) := fun _ => hc p _ (by rw [← jx2]; simp [ids, hx])
                              have lx : ∀ q, (w6.drewN q).cell? ⟨bf, jx, none⟩ = some (.int .i64 x.2) := fun _ => by rw [← jx3]; exact W6.out.af.cell jx1
                              have hlt : ilt x y := by
                                obtain ⟨ha, e1⟩ := List.getElem?_eq_some_iff.1 hx
                                obtain ⟨hb, e2⟩ := List.getElem?_eq_some_iff.1 hy
                                rw [← e1, ← e2]
                                have sd : Srt D := SRT.out.sublist (List.sublist_append_left D E)
                                exact List.pairwise_iff_getElem.1 sd p k ha hb (by omega)
                              unfold ilt at hlt
                              rw [← hty] at hlt
                              obtain ⟨tx, htx⟩ : ∃ tx, tx = x.2 := ⟨_, rfl⟩
                              rw [← htx] at lx hlt
                              have i0x : (0 : Int) ≤ (jx : Int) := by omega
                              have i50x : (jx : Int) < 50 := by omega
                              have m3 : decide (ty < tx) = false := by rw [decide_eq_false_iff_not]; omega
                              have HP := Lib.hid hp
                              by_cases eq : tx = ty
                              · have m4 : (tx == ty) = true := by rw [beq_iff_eq]; exact eq
                                have m5 : decide ((jy : Int) ≤ (jx : Int)) = false := by rw [decide_eq_false_iff_not]; omega
                                have m6 : decide (jy ≤ jx) = false := by rw [decide_eq_false_iff_not]; omega
                                clear hc hy hty hx htx hlt eq hp jx2 jx3 jy2 jy3
                                go_wp2_with fail
                                go_quiet (fail)
                                go_wp2_with fail
                                go_roundw
                                case rel => exact ⟨k + 1, _, by go_num, by omega, by trivial⟩
                                case measure => simp [intOf]; omega
                              · have m4 : (tx == ty) = false := by rw [beq_eq_false_iff_ne]; exact eq
                                clear hc hy hty hx htx hlt eq hp jx2 jx3 jy2 jy3
                                go_wp2_with fail
                                go_quiet (fail)
                                go_wp2_with fail
                                go_roundw
                                case rel => exact ⟨k + 1, _, by go_num, by omega, by trivial⟩
                                case measure => simp [intOf]; omega
                          · have W7 := Lib.hid (W6.out.drewN q)
                            have R7 := Lib.hid (R6.out.kept (only_drewN (only_refl w6 none) q) (by cases (Value.slice X n cX).ownBlock <;> simp))
                            clear W6 R6
                            generalize hV7 : w6.drewN q = V7 at W7 R7
                            clear hV7
                            go_wp2_with fail
                            go_loopw [16] (fun sk wx => ∃ (k : Nat) (f : Nat → Int), sk = .int .i64 k ∧ k ≤ n ∧ Hid (Oc f (D.drop k ++ E)) ∧ Hid (OcW w wx B bf f E (fun k => k = bf ∨ (Value.slice X n cX).ownBlock = some k)) ∧ Hid (wx.ownsRow w.heap.size 3 1 (.slice X n cX) n (ns (ids D)))) (fun sk _ => n - (intOf sk).toNat)
                            case atStart => exact ⟨0, f, rfl, Nat.zero_le _, OCD, W7, R7⟩
                            case round =>
                              clear W7 R7 OCD k1 hk kes
                              obtain ⟨k, f, rfl, hk, OCD, W7, R7⟩ := hrel
                              have kes : IntKind.i64.wrap ((k : Int) + 1) = (k : Int) + 1 := by rw [IntKind.wrap_i64]; omega
                              by_cases k1 : (k : Int) < (n : Int)
                              · have k0 : (0 : Int) ≤ (k : Int) := by omega
                                obtain ⟨g, cg, hX, _, _, hc⟩ := row_form R7.out (by omega)
                                injection hX with hX1 hX2 hX3
                                subst hX1; subst hX3
                                obtain ⟨y, hy⟩ : ∃ y, D[k]? = some y := ⟨D[k]'(by rw [← HN.out]; omega), by simp⟩
                                have hdr : D.drop k = y :: D.drop (k + 1) := by
                                  obtain ⟨hh, rr⟩ := List.getElem?_eq_some_iff.1 hy
                                  rw [List.drop_eq_getElem_cons hh, rr]
                                have oc1 := OCD.out
                                rw [hdr] at oc1
                                obtain ⟨jy, jy1, jy2, jy3⟩ := oc1.tm y (by simp)
                                have nd1 : (ids (y :: (D.drop (k + 1) ++ E))).Nodup := by
                                  have h1 := NOD.out
                                  have h2 : ids (D.drop k ++ E) = (ids (D ++ E)).drop k := by
                                    unfold ids
                                    rw [← List.map_drop, List.drop_append_of_le_length (by rw [← HN.out]; omega)]
                                  have h3 : (ids (D.drop k ++ E)).Nodup := by rw [h2]; exact h1.sublist (List.drop_sublist _ _)
                                  rw [hdr] at h3
                                  exact h3
                                have OC2 := Lib.hid (oc1.tell nd1 jy jy2)
                                have cy : wr.cell? ⟨g, k, none⟩ = some (.int .i64 jy) := hc k _ (by rw [← jy2]; simp [ids, hy])
                                have ly : wr.cell? ⟨bf, jy, none⟩ = some (.int .i64 (f jy)) := W7.out.af.cell jy1
                                have zy : wr.frozen? ⟨bf, jy, none⟩ = false := W7.out.af.thaw jy
                                have W8 := Lib.hid (W7.out.put jy jy1 (-1))
                                have R8 := Lib.hid (row_keep R7.out (fun k hk => heap_other wr (FAR.out k hk) jy (.int .i64 (-1))))
                                have j0 : (0 : Int) ≤ (jy : Int) := by omega
                                have j50 : (jy : Int) < 50 := by omega
                                clear hc hy hdr oc1 nd1 jy2 jy3
                                go_wp2_with fail
                                go_roundw
                                case rel => exact ⟨k + 1, _, by go_num, by omega, OC2, W8, R8⟩
                                case measure => simp [intOf]; omega
                              · obtain rfl : k = n := by omega
                                have OCE : Hid (Oc f E) := Lib.hid (by
                                  have h := OCD.out
                                  rw [List.drop_eq_nil_of_le (by rw [← HN.out]; exact Nat.le_refl _), List.nil_append] at h
                                  exact h)
                                obtain ⟨V8, hV8⟩ : ∃ V8, V8 = wr := ⟨_, rfl⟩
                                subst hV8
                                go_wp2_with fail
                                go_loopw [17] (fun sq wx => ∃ (q : Nat), sq = .int .i64 q ∧ q ≤ 50 ∧ V8 = wx) (fun sq _ => 50 - (intOf sq).toNat)
                                case atStart => exact ⟨0, rfl, Nat.zero_le _, by trivial⟩
                                case round =>
                                  obtain ⟨q, rfl, hq, rfl⟩ := hrel
                                  have qes : IntKind.i64.wrap ((q : Int) + 1) = (q : Int) + 1 := by rw [IntKind.wrap_i64]; omega
                                  by_cases q1 : (q : Int) < 50
                                  · have q0 : (0 : Int) ≤ (q : Int) := by omega
                                    have cq : V8.cell? ⟨bf, q, none⟩ = some (.int .i64 (f q)) := W7.out.af.cell (by omega)
                                    obtain ⟨v, hv⟩ : ∃ v, v = f q := ⟨_, rfl⟩
                                    rw [← hv] at cq
                                    by_cases vz : 0 ≤ v
                                    · have m1 : decide (v ≤ NOW) = false := by
                                        rw [decide_eq_false_iff_not]
                                        obtain ⟨y, hy, ey⟩ := isIn_iff.1 ((OCE.out.on q (by omega)).1 (by rw [← hv]; exact vz))
                                        obtain ⟨j, j1, j2, j3⟩ := OCE.out.tm y hy
                                        have : j = q := by omega
                                        subst this
                                        have := LATE.out y hy
                                        omega
                                      have m0 : decide (0 ≤ v) = true := by rw [decide_eq_true_iff]; exact vz
                                      clear hv vz
                                      go_wp2_with fail
                                      go_roundw
                                      case rel => exact ⟨q + 1, by go_num, by omega, by trivial⟩
                                      case measure => simp [intOf]; omega
                                    · have m0 : decide (0 ≤ v) = false := by rw [decide_eq_false_iff_not]; exact vz
                                      clear hv vz
                                      go_wp2_with fail
                                      go_roundw
                                      case rel => exact ⟨q + 1, by go_num, by omega, by trivial⟩
                                      case measure => simp [intOf]; omega
                                  · have W9 : Hid (OcW w V8 B bf f E (fun k => k = bf)) := Lib.hid ⟨W7.out.one.less (fun k hk => .inl hk), W7.out.af, rfl, W7.out.lf⟩
                                    go_wp2_with fail
                                    go_roundw
                                    case rel => exact ⟨NOW, i + 1, f, E, rfl, by go_num, N2.out.1, N2.out.2, by omega, by omega, ELAST, EL, OCE, W9⟩
                                    case measure => simp [intOf]; omega
                  · obtain ⟨NOW, hn2⟩ : ∃ NOW : Int, NOW = 100 := ⟨_, rfl⟩
                    have N2 := Lib.hid (show 0 ≤ NOW ∧ NOW ≤ 9 * ((i + 1 : Nat) : Int) + 100 by omega)
                    have LAST : Hid (((i + 1 ≤ z2.length ∧ i + 1 ≤ 30) ∨ ∀ y ∈ S, y.2 ≤ NOW)) := Lib.hid (.inr (fun y hy => by have := (OC.out.rng y hy).2; omega))
                    have HDD := Lib.hid hn2
                    clear now0 now9 hn2
                    go_wp2_with fail
                    rw [← HDD.out]
                    clear HDD
                    as_aux_lemma =>
                      refine (one_due T.out.one (by have := SL.out; omega) NOW (l := ids (S.takeWhile (isDue NOW))) (C := S.dropWhile (isDue NOW)) rfl rfl).mono ?_
                      rintro e w6 ⟨X, cX, rfl, r6, s6, k6, z6⟩
                      have DUE0 := take_due S NOW
                      have LATE0 := rest_late T.out.one.srt NOW
                      obtain ⟨D, hD⟩ : ∃ D, D = S.takeWhile (isDue NOW) := ⟨_, rfl⟩
                      obtain ⟨E, hE⟩ : ∃ E, E = S.dropWhile (isDue NOW) := ⟨_, rfl⟩
                      have hC : S = D ++ E := by rw [hD, hE]; exact List.takeWhile_append_dropWhile.symm
                      rw [← hD] at r6 s6 DUE0 ⊢
                      rw [← hE] at s6 LATE0
                      have SRT := Lib.hid (show Srt (D ++ E) by rw [← hC]; exact T.out.one.srt)
                      have NOD := Lib.hid (show (ids (D ++ E)).Nodup by rw [← hC]; exact T.out.one.nodup)
                      have OCD := Lib.hid (show Oc f (D ++ E) by rw [← hC]; exact OC.out)
                      have ELAST : Hid ((i + 1 ≤ z2.length ∧ i + 1 ≤ 30) ∨ E = []) := Lib.hid (by
                        rcases LAST.out with h | h
                        · exact .inl h
                        · right
                          cases E with
                          | nil => rfl
                          | cons y r =>
                            have a := LATE0 y (by simp)
                            have b := h y (by rw [hC]; simp)
                            omega)
                      have EL : Hid (E.length ≤ 100) := Lib.hid (by have h1 := congrArg List.length hC; rw [List.length_append] at h1; have := SL.out; omega)
                      obtain ⟨n, hn⟩ : ∃ n, n = (ids D).length := ⟨_, rfl⟩
                      rw [← hn] at r6 s6 ⊢
                      have HN : Hid (n = D.length) := Lib.hid (by rw [hn]; simp [ids])
                      have W6 : Hid (OcW w w6 B bf f E (fun k => k = bf ∨ (Value.slice X n cX).ownBlock = some k)) := Lib.hid ⟨s6, T.out.af.of (k6 bf rfl), .inl rfl, T.out.lf⟩
                      have FAR : Hid (∀ k, (Value.slice X n cX).ownBlock = some k → k ≠ bf) := Lib.hid (fun k hk e => by have := row_ge r6 k hk; have := T.out.lt (k := bf) rfl; omega)
                      have R6 := Lib.hid (own_less r6 T.out.one.only.size)
                      have DUE := Lib.hid DUE0
                      have LATE := Lib.hid LATE0
                      have n100 : n ≤ 100 := by rw [HN.out]; have h1 := congrArg List.length hC; rw [List.length_append] at h1; have := SL.out; omega
                      clear r6 s6 k6 z6 hD hE hC hn DUE0 LATE0 LAST SL OC T HE0
                      go_wp2_with fail
                      go_loopw [15] (fun sk wx => ∃ (k q : Nat), sk = .int .i64 k ∧ k ≤ n ∧ w6.drewN q = wx) (fun sk _ => n - (intOf sk).toNat)
                      case atStart => exact ⟨0, 0, rfl, Nat.zero_le _, by trivial⟩
                      case round =>
                        obtain ⟨k, q, rfl, hk, rfl⟩ := hrel
                        have kes : IntKind.i64.wrap ((k : Int) + 1) = (k : Int) + 1 := by rw [IntKind.wrap_i64]; omega
                        by_cases k1 : (k : Int) < (n : Int)
                        · have k0 : (0 : Int) ≤ (k : Int) := by omega
                          obtain ⟨g, cg, hX, _, _, hc⟩ := row_form R6.out (by omega)
                          injection hX with hX1 hX2 hX3
                          subst hX1; subst hX3
                          obtain ⟨y, hy⟩ : ∃ y, D[k]? = some y := ⟨D[k]'(by rw [← HN.out]; omega), by simp⟩
                          obtain ⟨jy, jy1, jy2, jy3⟩ := OCD.out.tm y (by simp [List.mem_of_getElem? hy])
                          have dy := DUE.out y (List.mem_of_getElem? hy)
                          have ry := OCD.out.rng y (by simp [List.mem_of_getElem? hy])
                          have cy : ∀ q, (w6.drewN q).cell? ⟨g, k, none⟩ = some (.int .i64 jy) := fun _ => hc k _ (by rw [← jy2]; simp [ids, hy])
                          have ly : ∀ q, (w6.drewN q).cell? ⟨bf, jy, none⟩ = some (.int .i64 y.2) := fun _ => by rw [← jy3]; exact W6.out.af.cell jy1
                          obtain ⟨ty, hty⟩ : ∃ ty, ty = y.2 := ⟨_, rfl⟩
                          rw [← hty] at ly dy ry
                          have m1 : decide (ty < 0) = false := by rw [decide_eq_false_iff_not]; omega
                          have m2 : decide (NOW < ty) = false := by rw [decide_eq_false_iff_not]; omega
                          have j0 : (0 : Int) ≤ (jy : Int) := by omega
                          have j50 : (jy : Int) < 50 := by omega
                          by_cases kz : k = 0
                          · subst kz
                            clear hc hy hty
                            go_wp2_with fail
                            go_quiet (fail)
                            go_wp2_with fail
                            go_roundw
                            case rel => exact ⟨1, _, by go_num, by omega, by trivial⟩
                            case measure => simp [intOf]; omega
                          · obtain ⟨p, hp⟩ : ∃ p : Nat, p + 1 = k := ⟨k - 1, by omega⟩
                            have kw : IntKind.i64.wrap ((k : Int) - 1) = (p : Int) := by rw [IntKind.wrap_i64]; omega
                            have p0 : (0 : Int) ≤ (p : Int) := by omega
                            have p1 : (p : Int) < (n : Int) := by omega
                            have kp : (0 : Int) < (k : Int) := by omega
                            have kpn : 0 < k := by omega
                            have kpb : decide ((0 : Int) < (k : Int)) = true := by rw [decide_eq_true_iff]; exact kp
                            have kpc : decide (0 < k) = true := by rw [decide_eq_true_iff]; exact kpn
                            obtain ⟨x, hx⟩ : ∃ x, D[p]? = some x := ⟨D[p]'(by rw [← HN.out]; omega), by simp⟩
                            obtain ⟨jx, jx1, jx2, jx3⟩ := OCD.out.tm x (by simp [List.mem_of_getElem? hx])
                            have cx : ∀ q, (w6.drewN q).cell? ⟨g, p, none⟩ = some (.int .i64 jx) := fun _ => hc p _ (by rw [← jx2]; simp [ids, hx])
                            have lx : ∀ q, (w6.drewN q).cell? ⟨bf, jx, none⟩ = some (.int .i64 x.2) := fun _ => by rw [← jx3]; exact W6.out.af.cell jx1
                            have hlt : ilt x y := by
                              obtain ⟨ha, e1⟩ := List.getElem?_eq_some_iff.1 hx
                              obtain ⟨hb, e2⟩ := List.getElem?_eq_some_iff.1 hy
                              rw [← e1, ← e2]
                              have sd : Srt D := SRT.out.sublist (List.sublist_append_left D E)
                              exact List.pairwise_iff_getElem.1 sd p k ha hb (by omega)
                            unfold ilt at hlt
                            rw [← hty] at hlt
                            obtain ⟨tx, htx⟩ : ∃ tx, tx = x.2 := ⟨_, rfl⟩
                            rw [← htx] at lx hlt
                            have i0x : (0 : Int) ≤ (jx : Int) := by omega
                            have i50x : (jx : Int) < 50 := by omega
                            have m3 : decide (ty < tx) = false := by rw [decide_eq_false_iff_not]; omega
                            have HP := Lib.hid hp
                            by_cases eq : tx = ty
                            · have m4 : (tx == ty) = true := by rw [beq_iff_eq]; exact eq
                              have m5 : decide ((jy : Int) ≤ (jx : Int)) = false := by rw [decide_eq_false_iff_not]; omega
                              have m6 : decide (jy ≤ jx) = false := by rw [decide_eq_false_iff_not]; omega
                              clear hc hy hty hx htx hlt eq hp jx2 jx3 jy2 jy3
                              go_wp2_with fail
                              go_quiet (fail)
                              go_wp2_with fail
                              go_roundw
                              case rel => exact ⟨k + 1, _, by go_num, by omega, by trivial⟩
                              case measure => simp [intOf]; omega
                            · have m4 : (tx == ty) = false := by rw [beq_eq_false_iff_ne]; exact eq
                              clear hc hy hty hx htx hlt eq hp jx2 jx3 jy2 jy3
                              go_wp2_with fail
                              go_quiet (fail)
                              go_wp2_with fail
                              go_roundw
                              case rel => exact ⟨k + 1, _, by go_num, by omega, by trivial⟩
                              case measure => simp [intOf]; omega
                        · have W7 := Lib.hid (W6.out.drewN q)
                          have R7 := Lib.hid (R6.out.kept (only_drewN (only_refl w6 none) q) (by cases (Value.slice X n cX).ownBlock <;> simp))
                          clear W6 R6
                          generalize hV7 : w6.drewN q = V7 at W7 R7
                          clear hV7
                          go_wp2_with fail
                          go_loopw [16] (fun sk wx => ∃ (k : Nat) (f : Nat → Int), sk = .int .i64 k ∧ k ≤ n ∧ Hid (Oc f (D.drop k ++ E)) ∧ Hid (OcW w wx B bf f E (fun k => k = bf ∨ (Value.slice X n cX).ownBlock = some k)) ∧ Hid (wx.ownsRow w.heap.size 3 1 (.slice X n cX) n (ns (ids D)))) (fun sk _ => n - (intOf sk).toNat)
                          case atStart => exact ⟨0, f, rfl, Nat.zero_le _, OCD, W7, R7⟩
                          case round =>
                            clear W7 R7 OCD k1 hk kes
                            obtain ⟨k, f, rfl, hk, OCD, W7, R7⟩ := hrel
                            have kes : IntKind.i64.wrap ((k : Int) + 1) = (k : Int) + 1 := by rw [IntKind.wrap_i64]; omega
                            by_cases k1 : (k : Int) < (n : Int)
                            · have k0 : (0 : Int) ≤ (k : Int) := by omega
                              obtain ⟨g, cg, hX, _, _, hc⟩ := row_form R7.out (by omega)
                              injection hX with hX1 hX2 hX3
                              subst hX1; subst hX3
                              obtain ⟨y, hy⟩ : ∃ y, D[k]? = some y := ⟨D[k]'(by rw [← HN.out]; omega), by simp⟩
                              have hdr : D.drop k = y :: D.drop (k + 1) := by
                                obtain ⟨hh, rr⟩ := List.getElem?_eq_some_iff.1 hy
                                rw [List.drop_eq_getElem_cons hh, rr]
                              have oc1 := OCD.out
                              rw [hdr] at oc1
                              obtain ⟨jy, jy1, jy2, jy3⟩ := oc1.tm y (by simp)
                              have nd1 : (ids (y :: (D.drop (k + 1) ++ E))).Nodup := by
                                have h1 := NOD.out
                                have h2 : ids (D.drop k ++ E) = (ids (D ++ E)).drop k := by
                                  unfold ids
                                  rw [← List.map_drop, List.drop_append_of_le_length (by rw [← HN.out]; omega)]
                                have h3 : (ids (D.drop k ++ E)).Nodup := by rw [h2]; exact h1.sublist (List.drop_sublist _ _)
                                rw [hdr] at h3
                                exact h3
                              have OC2 := Lib.hid (oc1.tell nd1 jy jy2)
                              have cy : wr.cell? ⟨g, k, none⟩ = some (.int .i64 jy) := hc k _ (by rw [← jy2]; simp [ids, hy])
                              have ly : wr.cell? ⟨bf, jy, none⟩ = some (.int .i64 (f jy)) := W7.out.af.cell jy1
                              have zy : wr.frozen? ⟨bf, jy, none⟩ = false := W7.out.af.thaw jy
                              have W8 := Lib.hid (W7.out.put jy jy1 (-1))
                              have R8 := Lib.hid (row_keep R7.out (fun k hk => heap_other wr (FAR.out k hk) jy (.int .i64 (-1))))
                              have j0 : (0 : Int) ≤ (jy : Int) := by omega
                              have j50 : (jy : Int) < 50 := by omega
                              clear hc hy hdr oc1 nd1 jy2 jy3
                              go_wp2_with fail
                              go_roundw
                              case rel => exact ⟨k + 1, _, by go_num, by omega, OC2, W8, R8⟩
                              case measure => simp [intOf]; omega
                            · obtain rfl : k = n := by omega
                              have OCE : Hid (Oc f E) := Lib.hid (by
                                have h := OCD.out
                                rw [List.drop_eq_nil_of_le (by rw [← HN.out]; exact Nat.le_refl _), List.nil_append] at h
                                exact h)
                              obtain ⟨V8, hV8⟩ : ∃ V8, V8 = wr := ⟨_, rfl⟩
                              subst hV8
                              go_wp2_with fail
                              go_loopw [17] (fun sq wx => ∃ (q : Nat), sq = .int .i64 q ∧ q ≤ 50 ∧ V8 = wx) (fun sq _ => 50 - (intOf sq).toNat)
                              case atStart => exact ⟨0, rfl, Nat.zero_le _, by trivial⟩
                              case round =>
                                obtain ⟨q, rfl, hq, rfl⟩ := hrel
                                have qes : IntKind.i64.wrap ((q : Int) + 1) = (q : Int) + 1 := by rw [IntKind.wrap_i64]; omega
                                by_cases q1 : (q : Int) < 50
                                · have q0 : (0 : Int) ≤ (q : Int) := by omega
                                  have cq : V8.cell? ⟨bf, q, none⟩ = some (.int .i64 (f q)) := W7.out.af.cell (by omega)
                                  obtain ⟨v, hv⟩ : ∃ v, v = f q := ⟨_, rfl⟩
                                  rw [← hv] at cq
                                  by_cases vz : 0 ≤ v
                                  · have m1 : decide (v ≤ NOW) = false := by
                                      rw [decide_eq_false_iff_not]
                                      obtain ⟨y, hy, ey⟩ := isIn_iff.1 ((OCE.out.on q (by omega)).1 (by rw [← hv]; exact vz))
                                      obtain ⟨j, j1, j2, j3⟩ := OCE.out.tm y hy
                                      have : j = q := by omega
                                      subst this
                                      have := LATE.out y hy
                                      omega
                                    have m0 : decide (0 ≤ v) = true := by rw [decide_eq_true_iff]; exact vz
                                    clear hv vz
                                    go_wp2_with fail
                                    go_roundw
                                    case rel => exact ⟨q + 1, by go_num, by omega, by trivial⟩
                                    case measure => simp [intOf]; omega
                                  · have m0 : decide (0 ≤ v) = false := by rw [decide_eq_false_iff_not]; exact vz
                                    clear hv vz
                                    go_wp2_with fail
                                    go_roundw
                                    case rel => exact ⟨q + 1, by go_num, by omega, by trivial⟩
                                    case measure => simp [intOf]; omega
                                · have W9 : Hid (OcW w V8 B bf f E (fun k => k = bf)) := Lib.hid ⟨W7.out.one.less (fun k hk => .inl hk), W7.out.af, rfl, W7.out.lf⟩
                                  go_wp2_with fail
                                  go_roundw
                                  case rel => exact ⟨NOW, i + 1, f, E, rfl, by go_num, N2.out.1, N2.out.2, by omega, by omega, ELAST, EL, OCE, W9⟩
                                  case measure => simp [intOf]; omega
                · have SE : S = [] := HE0.out.elim (fun h => by omega) (fun h => h)
                  subst SE
                  go_wp2_with fail
                  refine (one_next T.out.one).mono ?_
                  rintro e w9 ⟨rfl, s9, gr9⟩
                  have S9 := Lib.hid s9
                  clear s9 gr9
                  go_wp2_with fail
                  refine (one_len S9.out).mono ?_
                  rintro e w10 ⟨rfl, rfl⟩
                  go_wp2_with fail
                  go_ret
                  exact ⟨rfl, S9.out.at_.end⟩
              · have SE : S = [] := HE0.out.elim (fun h => by omega) (fun h => h)
                subst SE
                go_wp2_with fail
                refine (one_next T.out.one).mono ?_
                rintro e w9 ⟨rfl, s9, gr9⟩
                have S9 := Lib.hid s9
                clear s9 gr9
                go_wp2_with fail
                refine (one_len S9.out).mono ?_
                rintro e w10 ⟨rfl, rfl⟩
                go_wp2_with fail
                go_ret
                exact ⟨rfl, S9.out.at_.end⟩
end Go.Proofs.Ytgfpogmipennaaa
