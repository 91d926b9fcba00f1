/- The walk of RangesPieces: it returns true for every input. No condition. -/
import Derived.Test.YtnljccmchmclnaaRu
import Derived.Test.YtnljccmchmclnaaRs
namespace Go.Proofs.Ytnljccmchmclnaa
open Go.RowKit Go.Deep

/-- What is back, what is the rest. -/
structure Pst (l R K : List E2) (n : Int) (i : Nat) : Prop where
  rk : RW K
  rr : RW R
  mem_ : ∀ x, mem l x ↔ mem K x ∨ mem R x
  lt : ∀ a b, mem K a → mem R b → a < b
  len : rlen R = rlen l - n
  nR : R.length ≤ l.length
  nK : K.length ≤ 20 * i
  n0 : 0 ≤ n
  n1 : n ≤ 8 * i
theorem Pst.start {l : List E2} (h : RW l) : Pst l l [] 0 0 :=
  ⟨RW.nil, h, fun x => by rw [mem_nil, false_or], fun a b ha _ => ((mem_nil a).1 ha).elim, by omega, Nat.le_refl _, Nat.le_refl _, Int.le_refl _, by omega⟩
theorem Pst.skip {l R K : List E2} {n : Int} {i : Nat} (h : Pst l R K n i) : Pst l R K n (i + 1) :=
  ⟨h.rk, h.rr, h.mem_, h.lt, h.len, h.nR, by have := h.nK; omega, h.n0, by have := h.n1; omega⟩
theorem Pst.step {l R K T S : List E2} {n k : Int} {i : Nat} (h : Pst l R K n i) (hl : l.length ≤ 20) (t : TakeOk R T S k) (k0 : 0 ≤ k) (k8 : k ≤ 8) : Pst l S (addAll K T) (n + k) (i + 1) := by
  obtain ⟨a, b, c⟩ := addAll_ok T K h.rk t.t.ok
  refine ⟨a, t.s, fun x => by rw [h.mem_ x, t.mem_ x, b x, or_assoc], fun x y hx hy => ?_, by rw [t.lenS, h.len]; omega, by have := t.nS; have := h.nR; omega, by have := t.nT; have := h.nR; have := h.nK; omega, by have := h.n0; omega, by have := h.n1; omega⟩
  rcases (b x).1 hx with q | q
  · exact h.lt x y q ((t.mem_ y).2 (.inr hy))
  · exact t.lt x y q hy
theorem Pst.guard {l R K T S : List E2} {n k : Int} {i : Nat} (h : Pst l R K n i) (t : TakeOk R T S k) {j : Nat} {y z : E2} (hy : T[j]? = some y) (hz : z ∈ addAll K (T.take j)) : ¬ y.1 < z.2 := by
  obtain ⟨a, b, _⟩ := addAll_ok (T.take j) K h.rk (ok_take t.t j)
  have hz1 := (a.ok z hz).2.1
  have hy1 := (t.t.ok y (List.mem_of_getElem? hy)).2.1
  rcases (b (z.2 - 1)).1 ⟨z, hz, by omega, by omega⟩ with q | ⟨u, hu, q1, q2⟩
  · have := h.lt (z.2 - 1) y.1 q ((t.mem_ _).2 (.inl ⟨y, List.mem_of_getElem? hy, Int.le_refl _, hy1⟩))
    omega
  · obtain ⟨hj, rfl⟩ := List.getElem?_eq_some_iff.1 hy
    obtain ⟨m, hm⟩ := List.getElem?_of_mem hu
    have hmj : m < j := by have := (List.getElem?_eq_some_iff.1 hm).1; rw [List.length_take] at this; omega
    rw [List.getElem?_take, if_pos hmj] at hm
    obtain ⟨hm1, rfl⟩ := List.getElem?_eq_some_iff.1 hm
    have := List.pairwise_iff_getElem.1 t.t.far m j hm1 hj hmj
    omega
theorem Pst.done {l R K : List E2} {n : Int} {i : Nat} (h : Pst l R K n i) (hl : RW l) : addAll K R = l := by
  obtain ⟨a, b, _⟩ := addAll_ok R K h.rk h.rr.ok
  exact rext _ _ a hl fun x => by rw [b x, h.mem_ x]
theorem lv_nil (w : World) : Lv w none 0 [] := fun _ _ => ⟨Has.nil, Nat.le_refl _, fun _ => rfl⟩
set_option maxRecDepth 100000 in
set_option maxHeartbeats 4000000 in
theorem take_err (A : Option Addr) (c : Nat) (l : List E2) (k : Int) (w : World) (h : Vw w w.heap.size A c l) (hl : l.length ≤ 1000000) (hw : RW l) (hk : rlen l < k) :
    Calls Try.prog 13 #[.slice A l.length c, .int .i64 k] w fun e w' => e = .returned (.tuple #[.slice none 0 0, .slice none 0 0, .int .i64 14]) ∧ w.grownBy w' none := by
  have LN := Lib.hid (len_any A c l w h hl hw)
  have kb := rlen_bound l hw.ok
  have k0 := rlen_nn l hw
  obtain ⟨q, hq⟩ : ∃ q, q = rlen l := ⟨_, rfl⟩
  rw [← hq] at hk LN kb k0
  have t0 : ¬ k < 0 := by omega
  clear h hw hq
  go_enter Try.func13, Try.ntmps13
  go_wp2_with fail
  refine LN.out.mono ?_
  rintro _ w1 ⟨rfl, g1⟩
  have G1 := Lib.hid g1
  clear g1 LN
  go_wp2_with fail
  refine bodyPost_ret (ret3 rfl _ _ _) rfl ?_
  exact ⟨rfl, G1.out⟩
theorem take_lv {w : World} {A : Option Addr} {c : Nat} {l : List E2} (h : Lv w A c l) (hl : l.length ≤ 1000000) (hw : RW l) (k : Int) (h0 : 0 ≤ k) (h1 : k ≤ rlen l) {V : World} (g : w.grownBy V none) :
    Calls Try.prog 13 #[.slice A l.length c, .int .i64 k] V (GotT V (takeP l k).1 (takeP l k).2) := take_any A c l k V (h V g) hl hw h0 h1
theorem err_lv {w : World} {A : Option Addr} {c : Nat} {l : List E2} (h : Lv w A c l) (hl : l.length ≤ 1000000) (hw : RW l) (k : Int) (h1 : rlen l < k) {V : World} (g : w.grownBy V none) :
    Calls Try.prog 13 #[.slice A l.length c, .int .i64 k] V fun e w' => e = .returned (.tuple #[.slice none 0 0, .slice none 0 0, .int .i64 14]) ∧ V.grownBy w' none := take_err A c l k V (h V g) hl hw h1
set_option maxRecDepth 100000 in
set_option maxHeartbeats 8000000 in
theorem rangesPieces_walk (A0 : Option Addr) (c0 : Nat) (ns : List Int) (A1 : Option Addr) (c1 : Nat) (ms : List Int) (w : World) (h : Has w w.heap.size A0 (is_ ns)) (hb : ∀ n ∈ ns, -9223372036854775808 ≤ n ∧ n ≤ 9223372036854775807) (h1 : Has w w.heap.size A1 (is_ ms)) (hb1 : ∀ n ∈ ms, -9223372036854775808 ≤ n ∧ n ≤ 9223372036854775807) :
    Calls Try.prog 7 #[.slice A0 ns.length c0, .slice A1 ms.length c1] w fun e w' => e = .returned (.bool true) ∧ w.grownBy w' none := by
  have HA := Lib.hid h
  have HB := Lib.hid hb
  have HA1 := Lib.hid h1
  have HB1 := Lib.hid hb1
  clear h hb h1 hb1
  go_enter Try.func7, Try.ntmps7
  go_wp2_with fail
  refine (known_any _).mono ?_
  rintro _ w1 ⟨rfl, g1⟩
  have G1 := Lib.hid g1
  go_wp2_with fail
  refine (of_lv A0 c0 ns w1 (HA.out.up G1.out) HB.out).mono ?_
  rintro _ w2 ⟨Al, cl, l, rfl, ll, ok, g2⟩
  have LL := Lib.hid ll
  have OL := Lib.hid ok
  have al : l.length ≤ 20 := ok.len
  have G2 := Lib.hid (grow2 g1 g2)
  clear ll ok g1 g2 HA HB G1
  go_wp2_with fail
  go_loopw [6, 7, 8, 9] (fun sr sk sn si wr => ∃ (i : Nat) (R K : List E2) (n : Int) (Ar : Option Addr) (cr : Nat) (Ak : Option Addr) (ck : Nat), i ≤ 20 ∧ i ≤ ms.length ∧ si = .int .i64 i ∧ sn = .int .i64 n ∧ sr = .slice Ar R.length cr ∧ sk = .slice Ak K.length ck ∧ Hid (Pst l R K n i) ∧ Hid (Lv wr Ar cr R) ∧ Hid (Lv wr Ak ck K) ∧ Hid (w2.grownBy wr none)) (fun _ _ _ si _ => 20 - (intOf si).toNat)
  case atStart => exact ⟨0, l, [], 0, Al, cl, none, 0, by omega, Nat.zero_le _, rfl, rfl, rfl, rfl, Pst.start OL.out.rw_, LL.out, lv_nil _, only_refl _ _⟩
  case round =>
    obtain ⟨i, R, K, n, Ar, cr, Ak, ck, hi20, hi, rfl, rfl, rfl, rfl, HP, LR, LK, hG⟩ := hrel
    by_cases hlt : i < ms.length
    · have u1 : (i : Int) < (ms.length : Int) := by omega
      have u0 : (0 : Int) ≤ (i : Int) := by omega
      by_cases h20 : i < 20
      · have u2 : (i : Int) < 20 := by omega
        have hes : IntKind.i64.wrap ((i : Int) + 1) = (i : Int) + 1 := by rw [IntKind.wrap_i64]; omega
        obtain ⟨x, hx⟩ : ∃ x, ms[i]? = some x := ⟨_, List.getElem?_eq_getElem hlt⟩
        have hxb := HB1.out x (List.mem_of_getElem? hx)
        obtain ⟨b, off, rfl, hb, hc⟩ : ∃ b off, A1 = some ⟨b, off, none⟩ ∧ b < w.heap.size ∧ w.cell? ⟨b, off + i, none⟩ = some (.int .i64 x) := by
          rcases HA1.out with h0 | ⟨b, off, hA, hb, hc⟩
          · have := congrArg List.length h0; simp [is_] at this; rw [this] at hlt; simp at hlt
          · exact ⟨b, off, hA, hb, hc i _ (by simp [is_, hx])⟩
        have GW := Lib.hid (grow2 G2.out hG.out)
        have hcr : wr.cell? ⟨b, off + i, none⟩ = some (.int .i64 x) := (World.cell?_of_block (GW.out.block b hb (by simp))).trans hc
        obtain ⟨k, hk⟩ : ∃ k, k = x % 9 := ⟨_, rfl⟩
        have N0 : ∀ W, Hid (Calls Try.prog 10 #[.int .i64 x, .int .i64 9] W fun e w' => e = .returned (.int .i64 k) ∧ W = w') := fun W => by rw [hk]; exact within_any x 9 hxb.1 hxb.2 (by omega) (by omega) W
        have k0 : 0 ≤ k := by omega
        have k8 : k ≤ 8 := by omega
        have NR := HP.out.nR
        have NK := HP.out.nK
        clear hc hk hx hxb
        go_wp2_with fail
        refine (N0 _).out.mono ?_
        rintro _ w4 ⟨rfl, rfl⟩
        by_cases hkq : k ≤ rlen R
        · have TK0 := take_ok R k HP.out.rr k0 hkq
          have TC := Lib.hid (take_lv LR.out (by omega) HP.out.rr k k0 hkq (only_refl wr none))
          have CR : ∀ V, wr.grownBy V none → Hid (Calls Try.prog 12 #[.slice Ar R.length cr] V fun e w' => e = .returned (.int .i64 (rlen R)) ∧ V.grownBy w' none) := fun V hV => len_lv (LR.out.on hV) (by omega) HP.out.rr (only_refl V none)
          obtain ⟨T, hT⟩ : ∃ T, T = (takeP R k).1 := ⟨_, rfl⟩
          obtain ⟨S, hS⟩ : ∃ S, S = (takeP R k).2 := ⟨_, rfl⟩
          obtain ⟨q, hq⟩ : ∃ q, q = rlen R := ⟨_, rfl⟩
          rw [← hT, ← hS] at TK0 TC
          rw [← hq] at CR hkq
          have nT := TK0.nT
          have TK := Lib.hid TK0
          clear hT hS hq TK0 N0 hcr
          go_wp2_with fail
          refine TC.out.mono ?_
          rintro _ w5 ⟨At, ct, As, cs, rfl, lt, ls, g5⟩
          have LT := Lib.hid lt
          have LS := Lib.hid ls
          have G5 := Lib.hid g5
          clear lt ls g5 TC
          go_wp2_with fail
          refine (CR _ G5.out).out.mono ?_
          rintro _ w6 ⟨rfl, g6⟩
          have LT := Lib.hid (LT.out.on g6)
          have LS := Lib.hid (LS.out.on g6)
          have g6 := grow2 G5.out g6
          have G6 := Lib.hid (grow2 hG.out g6)
          have LK6 := Lib.hid (LK.out.on g6)
          clear g6 CR G5 LK
          go_wp2_with fail
          go_loopw [7, 14] (fun sk sj wr => ∃ (j : Nat) (Ak : Option Addr) (ck : Nat), j ≤ T.length ∧ sj = .int .i64 j ∧ sk = .slice Ak (addAll K (T.take j)).length ck ∧ Hid (Lv wr Ak ck (addAll K (T.take j))) ∧ Hid (w6.grownBy wr none)) (fun _ sj _ => T.length - (intOf sj).toNat)
          case atStart => exact ⟨0, Ak, ck, Nat.zero_le _, rfl, rfl, LK6.out, only_refl _ _⟩
          case round =>
            obtain ⟨j, Aj, cj, hj, rfl, rfl, LB, hG2⟩ := hrel
            by_cases hlt2 : j < T.length
            · have v1 : (j : Int) < (T.length : Int) := by omega
              have v0 : (0 : Int) ≤ (j : Int) := by omega
              have hes : IntKind.i64.wrap ((j : Int) + 1) = (j : Int) + 1 := by rw [IntKind.wrap_i64]; omega
              obtain ⟨y, hy⟩ : ∃ y, T[j]? = some y := ⟨_, List.getElem?_eq_getElem hlt2⟩
              obtain ⟨bb, off, e0, r1, r2⟩ := LT.out.at_ hy hG2.out
              have HN := Lib.hid (addAll_take K T j y hy)
              have okr : okR (y.1, y.2) := TK.out.t.ok y (List.mem_of_getElem? hy)
              have hbl2 := (addAll_ok (T.take j) K HP.out.rk (ok_take TK.out.t j)).2.2
              rw [List.length_take] at hbl2
              have hg : ∀ z ∈ addAll K (T.take j), ¬ y.1 < z.2 := fun z hz => HP.out.guard TK.out hy hz
              obtain ⟨B, hB⟩ : ∃ B, B = addAll K (T.take j) := ⟨_, rfl⟩
              rw [← hB] at LB HN hbl2 hg ⊢
              obtain ⟨bl, hbl⟩ : ∃ bl, bl = B.length := ⟨_, rfl⟩
              rw [← hbl] at hbl2 ⊢
              have q1 : ∀ n, (wr.drewN n).cell? ⟨bb, off + j * 2, none⟩ = some (.int .i64 y.1) := fun _ => r1
              have q2 : ∀ n, (wr.drewN n).cell? ⟨bb, off + j * 2 + 1, none⟩ = some (.int .i64 y.2) := fun _ => r2
              subst e0
              clear hy hB r1 r2
              by_cases hb0 : 0 < bl
              · obtain ⟨p, hp⟩ : ∃ p : Nat, p + 1 = bl := ⟨bl - 1, by omega⟩
                obtain ⟨z, hz⟩ : ∃ z, B[p]? = some z := ⟨_, List.getElem?_eq_getElem (by omega)⟩
                obtain ⟨bz, offz, ez, z1, z2⟩ := LB.out.at_ hz (only_refl _ none)
                have q3 : ∀ n, (wr.drewN n).cell? ⟨bz, offz + p * 2 + 1, none⟩ = some (.int .i64 z.2) := fun _ => z2
                have v2 : ¬ y.1 < z.2 := hg z (List.mem_of_getElem? hz)
                have v3 : IntKind.i64.wrap ((bl : Int) - 1) = (p : Int) := by rw [IntKind.wrap_i64]; omega
                have v4 : (p : Int) < (bl : Int) := by omega
                have v5 : (0 : Int) ≤ (p : Int) := by omega
                have v6 : (0 : Int) < (bl : Int) := by omega
                subst ez
                have HBL := Lib.hid hbl
                clear hz z1 z2 hg hp hbl
                go_wp2_with fail
                go_quiet (fail)
                go_wp2_with fail
                clear q3
                obtain ⟨w8, hw8⟩ : ∃ w8, w8 = wr.drewN nq := ⟨_, rfl⟩
                have g8 := Lib.hid (only_drewN hG2.out nq)
                have s1 := q1 nq
                have s2 := q2 nq
                rw [← hw8] at g8 s1 s2 ⊢
                have LB8 := Lib.hid (hw8 ▸ LB.out.on (only_drewN (only_refl wr none) nq))
                have AD := Lib.hid (add_lv LB8.out (by have := HBL.out; omega) y.1 y.2 okr (only_refl w8 none))
                rw [← HN.out, ← HBL.out] at AD
                clear hw8 q1 q2
                go_wp2_with fail
                refine AD.out.mono ?_
                rintro _ w9 ⟨A9, c9, rfl, l9, g9⟩
                have L9 := Lib.hid l9
                have G9 := Lib.hid (grow2 g8.out g9)
                clear l9 g9 AD
                go_wp2_with fail
                refine ⟨⟨j + 1, A9, c9, by omega, by go_num, rfl, L9, G9⟩, ?_⟩
                simp [intOf]; omega
              · have v6 : ¬ (0 : Int) < (bl : Int) := by omega
                have HBL := Lib.hid hbl
                clear hg hbl
                go_wp2_with fail
                go_quiet (fail)
                go_wp2_with fail
                obtain ⟨w8, hw8⟩ : ∃ w8, w8 = wr.drewN nq := ⟨_, rfl⟩
                have g8 := Lib.hid (only_drewN hG2.out nq)
                have s1 := q1 nq
                have s2 := q2 nq
                rw [← hw8] at g8 s1 s2 ⊢
                have LB8 := Lib.hid (hw8 ▸ LB.out.on (only_drewN (only_refl wr none) nq))
                have AD := Lib.hid (add_lv LB8.out (by have := HBL.out; omega) y.1 y.2 okr (only_refl w8 none))
                rw [← HN.out, ← HBL.out] at AD
                clear hw8 q1 q2
                go_wp2_with fail
                refine AD.out.mono ?_
                rintro _ w9 ⟨A9, c9, rfl, l9, g9⟩
                have L9 := Lib.hid l9
                have G9 := Lib.hid (grow2 g8.out g9)
                clear l9 g9 AD
                go_wp2_with fail
                refine ⟨⟨j + 1, A9, c9, by omega, by go_num, rfl, L9, G9⟩, ?_⟩
                simp [intOf]; omega
            · have v1 : ¬ (j : Int) < (T.length : Int) := by omega
              rw [List.take_of_length_le (show T.length ≤ j by omega)] at LB ⊢
              have HP2 := Lib.hid (HP.out.step al TK.out k0 k8)
              have n0 := HP.out.n0
              have n1 := HP.out.n1
              have y1 : IntKind.i64.wrap (n + k) = n + k := by rw [IntKind.wrap_i64]; omega
              have LS2 := Lib.hid (LS.out.on hG2.out)
              have G8 := Lib.hid (grow2 G6.out hG2.out)
              clear hG2
              go_wp2_with fail
              refine ⟨⟨i + 1, S, addAll K T, n + k, As, cs, Aj, cj, by omega, by omega, by go_num, rfl, rfl, rfl, HP2, LS2, LB, G8⟩, ?_⟩
              simp [intOf]; omega
        · have TC := Lib.hid (err_lv LR.out (by omega) HP.out.rr k (by omega) (only_refl wr none))
          have CR : ∀ V, wr.grownBy V none → Hid (Calls Try.prog 12 #[.slice Ar R.length cr] V fun e w' => e = .returned (.int .i64 (rlen R)) ∧ V.grownBy w' none) := fun V hV => len_lv (LR.out.on hV) (by omega) HP.out.rr (only_refl V none)
          obtain ⟨q, hq⟩ : ∃ q, q = rlen R := ⟨_, rfl⟩
          rw [← hq] at CR hkq
          clear hq N0 hcr
          go_wp2_with fail
          refine TC.out.mono ?_
          rintro _ w5 ⟨rfl, g5⟩
          have G5 := Lib.hid g5
          clear g5 TC
          go_wp2_with fail
          refine (CR _ G5.out).out.mono ?_
          rintro _ w6 ⟨rfl, g6⟩
          have g6 := grow2 G5.out g6
          have G6 := Lib.hid (grow2 hG.out g6)
          have LK6 := Lib.hid (LK.out.on g6)
          have LR6 := Lib.hid (LR.out.on g6)
          clear g6 CR G5 LK LR
          go_wp2_with fail
          refine ⟨⟨i + 1, R, K, n, Ar, cr, Ak, ck, by omega, by omega, by go_num, rfl, rfl, rfl, HP.out.skip, LR6, LK6, G6⟩, ?_⟩
          simp [intOf]; omega
      · have u2 : ¬ (i : Int) < 20 := by omega
        have NR := HP.out.nR
        have NK := HP.out.nK
        have G3 := Lib.hid (grow2 G2.out hG.out)
        have LL3 := Lib.hid (LL.out.on hG.out)
        have HD := Lib.hid (HP.out.done OL.out.rw_)
        obtain ⟨w4, hw4⟩ : ∃ w4, w4 = wr := ⟨_, rfl⟩
        rw [← hw4] at LR LK LL3 G3 ⊢
        clear hw4 hG LL G2
        go_wp2_with fail
        go_loopw [7, 15] (fun sk sj wr => ∃ (j : Nat) (Ak : Option Addr) (ck : Nat), j ≤ R.length ∧ sj = .int .i64 j ∧ sk = .slice Ak (addAll K (R.take j)).length ck ∧ Hid (Lv wr Ak ck (addAll K (R.take j))) ∧ Hid (w4.grownBy wr none)) (fun _ sj _ => R.length - (intOf sj).toNat)
        case atStart => exact ⟨0, Ak, ck, Nat.zero_le _, rfl, rfl, LK.out, only_refl _ _⟩
        case round =>
          obtain ⟨j, Aj, cj, hj, rfl, rfl, LB, hG2⟩ := hrel
          by_cases hlt2 : j < R.length
          · have v1 : (j : Int) < (R.length : Int) := by omega
            have v0 : (0 : Int) ≤ (j : Int) := by omega
            have hes : IntKind.i64.wrap ((j : Int) + 1) = (j : Int) + 1 := by rw [IntKind.wrap_i64]; omega
            obtain ⟨y, hy⟩ : ∃ y, R[j]? = some y := ⟨_, List.getElem?_eq_getElem hlt2⟩
            obtain ⟨bb, off, e0, r1, r2⟩ := LR.out.at_ hy hG2.out
            have HN := Lib.hid (addAll_take K R j y hy)
            have okr : okR (y.1, y.2) := HP.out.rr.ok y (List.mem_of_getElem? hy)
            have hbl2 := (addAll_ok (R.take j) K HP.out.rk (ok_take HP.out.rr j)).2.2
            rw [List.length_take] at hbl2
            obtain ⟨B, hB⟩ : ∃ B, B = addAll K (R.take j) := ⟨_, rfl⟩
            rw [← hB] at LB HN hbl2 ⊢
            have AD := Lib.hid (add_lv LB.out (by omega) y.1 y.2 okr (only_refl wr none))
            rw [← HN.out] at AD
            subst e0
            clear hy hB okr
            go_wp2_with fail
            refine AD.out.mono ?_
            rintro _ w9 ⟨A9, c9, rfl, l9, g9⟩
            have L9 := Lib.hid l9
            have G9 := Lib.hid (grow2 hG2.out g9)
            clear l9 g9 AD
            go_wp2_with fail
            refine ⟨⟨j + 1, A9, c9, by omega, by go_num, rfl, L9, G9⟩, ?_⟩
            simp [intOf]; omega
          · have v1 : ¬ (j : Int) < (R.length : Int) := by omega
            rw [List.take_of_length_le (show R.length ≤ j by omega)] at LB ⊢
            rw [HD.out] at LB ⊢
            have G9 := Lib.hid (grow2 G3.out hG2.out)
            have LL9 := Lib.hid (LL3.out.on hG2.out)
            have LR9 := Lib.hid (LR.out.on hG2.out)
            have kb := rlen_bound l OL.out.rw_.ok
            have kc := rlen_nn l OL.out.rw_
            have n0 := HP.out.n0
            have n1 := HP.out.n1
            have CS := Lib.hid (same_lv LB.out LL9.out (by omega) true (by simp) (only_refl wr none))
            have CR : ∀ V, wr.grownBy V none → Hid (Calls Try.prog 12 #[.slice Ar R.length cr] V fun e w' => e = .returned (.int .i64 (rlen R)) ∧ wr.grownBy w' none) := fun V hV => len_lv LR9.out (by omega) HP.out.rr hV
            have CL : ∀ V, wr.grownBy V none → Hid (Calls Try.prog 12 #[.slice Al l.length cl] V fun e w' => e = .returned (.int .i64 (rlen l)) ∧ wr.grownBy w' none) := fun V hV => len_lv LL9.out (by omega) OL.out.rw_ hV
            have hlen := HP.out.len
            obtain ⟨ql, hql⟩ : ∃ q, q = rlen l := ⟨_, rfl⟩
            obtain ⟨qr, hqr⟩ : ∃ q, q = rlen R := ⟨_, rfl⟩
            rw [← hql] at CL hlen kb kc
            rw [← hqr] at CR hlen
            have y1 : IntKind.i64.wrap (ql - n) = qr := by rw [IntKind.wrap_i64]; omega
            clear hql hqr hlen kb kc hG2
            go_wp2_with fail
            refine CS.out.mono ?_
            rintro _ w10 ⟨rfl, g10⟩
            have H10 := Lib.hid g10
            clear g10 CS
            go_wp2_with fail
            refine (CR _ H10.out).out.mono ?_
            rintro _ w11 ⟨rfl, g11⟩
            have H11 := Lib.hid g11
            clear g11 CR
            go_wp2_with fail
            refine (CL _ H11.out).out.mono ?_
            rintro _ w12 ⟨rfl, g12⟩
            have H12 := Lib.hid g12
            clear g12 CL
            go_wp2_with fail
            go_ret
            exact ⟨by simp, grow2 G9.out H12.out⟩
    · have u1 : ¬ (i : Int) < (ms.length : Int) := by omega
      have u0 : (0 : Int) ≤ (i : Int) := by omega
      have NR := HP.out.nR
      have NK := HP.out.nK
      have G3 := Lib.hid (grow2 G2.out hG.out)
      have LL3 := Lib.hid (LL.out.on hG.out)
      have HD := Lib.hid (HP.out.done OL.out.rw_)
      obtain ⟨w4, hw4⟩ : ∃ w4, w4 = wr := ⟨_, rfl⟩
      rw [← hw4] at LR LK LL3 G3 ⊢
      clear hw4 hG LL G2
      go_wp2_with fail
      go_loopw [7, 15] (fun sk sj wr => ∃ (j : Nat) (Ak : Option Addr) (ck : Nat), j ≤ R.length ∧ sj = .int .i64 j ∧ sk = .slice Ak (addAll K (R.take j)).length ck ∧ Hid (Lv wr Ak ck (addAll K (R.take j))) ∧ Hid (w4.grownBy wr none)) (fun _ sj _ => R.length - (intOf sj).toNat)
      case atStart => exact ⟨0, Ak, ck, Nat.zero_le _, rfl, rfl, LK.out, only_refl _ _⟩
      case round =>
        obtain ⟨j, Aj, cj, hj, rfl, rfl, LB, hG2⟩ := hrel
        by_cases hlt2 : j < R.length
        · have v1 : (j : Int) < (R.length : Int) := by omega
          have v0 : (0 : Int) ≤ (j : Int) := by omega
          have hes : IntKind.i64.wrap ((j : Int) + 1) = (j : Int) + 1 := by rw [IntKind.wrap_i64]; omega
          obtain ⟨y, hy⟩ : ∃ y, R[j]? = some y := ⟨_, List.getElem?_eq_getElem hlt2⟩
          obtain ⟨bb, off, e0, r1, r2⟩ := LR.out.at_ hy hG2.out
          have HN := Lib.hid (addAll_take K R j y hy)
          have okr : okR (y.1, y.2) := HP.out.rr.ok y (List.mem_of_getElem? hy)
          have hbl2 := (addAll_ok (R.take j) K HP.out.rk (ok_take HP.out.rr j)).2.2
          rw [List.length_take] at hbl2
          obtain ⟨B, hB⟩ : ∃ B, B = addAll K (R.take j) := ⟨_, rfl⟩
          rw [← hB] at LB HN hbl2 ⊢
          have AD := Lib.hid (add_lv LB.out (by omega) y.1 y.2 okr (only_refl wr none))
          rw [← HN.out] at AD
          subst e0
          clear hy hB okr
          go_wp2_with fail
          refine AD.out.mono ?_
          rintro _ w9 ⟨A9, c9, rfl, l9, g9⟩
          have L9 := Lib.hid l9
          have G9 := Lib.hid (grow2 hG2.out g9)
          clear l9 g9 AD
          go_wp2_with fail
          refine ⟨⟨j + 1, A9, c9, by omega, by go_num, rfl, L9, G9⟩, ?_⟩
          simp [intOf]; omega
        · have v1 : ¬ (j : Int) < (R.length : Int) := by omega
          rw [List.take_of_length_le (show R.length ≤ j by omega)] at LB ⊢
          rw [HD.out] at LB ⊢
          have G9 := Lib.hid (grow2 G3.out hG2.out)
          have LL9 := Lib.hid (LL3.out.on hG2.out)
          have LR9 := Lib.hid (LR.out.on hG2.out)
          have kb := rlen_bound l OL.out.rw_.ok
          have kc := rlen_nn l OL.out.rw_
          have n0 := HP.out.n0
          have n1 := HP.out.n1
          have CS := Lib.hid (same_lv LB.out LL9.out (by omega) true (by simp) (only_refl wr none))
          have CR : ∀ V, wr.grownBy V none → Hid (Calls Try.prog 12 #[.slice Ar R.length cr] V fun e w' => e = .returned (.int .i64 (rlen R)) ∧ wr.grownBy w' none) := fun V hV => len_lv LR9.out (by omega) HP.out.rr hV
          have CL : ∀ V, wr.grownBy V none → Hid (Calls Try.prog 12 #[.slice Al l.length cl] V fun e w' => e = .returned (.int .i64 (rlen l)) ∧ wr.grownBy w' none) := fun V hV => len_lv LL9.out (by omega) OL.out.rw_ hV
          have hlen := HP.out.len
          obtain ⟨ql, hql⟩ : ∃ q, q = rlen l := ⟨_, rfl⟩
          obtain ⟨qr, hqr⟩ : ∃ q, q = rlen R := ⟨_, rfl⟩
          rw [← hql] at CL hlen kb kc
          rw [← hqr] at CR hlen
          have y1 : IntKind.i64.wrap (ql - n) = qr := by rw [IntKind.wrap_i64]; omega
          clear hql hqr hlen kb kc hG2
          go_wp2_with fail
          refine CS.out.mono ?_
          rintro _ w10 ⟨rfl, g10⟩
          have H10 := Lib.hid g10
          clear g10 CS
          go_wp2_with fail
          refine (CR _ H10.out).out.mono ?_
          rintro _ w11 ⟨rfl, g11⟩
          have H11 := Lib.hid g11
          clear g11 CR
          go_wp2_with fail
          refine (CL _ H11.out).out.mono ?_
          rintro _ w12 ⟨rfl, g12⟩
          have H12 := Lib.hid g12
          clear g12 CL
          go_wp2_with fail
          go_ret
          exact ⟨by simp, grow2 G9.out H12.out⟩
end Go.Proofs.Ytnljccmchmclnaa
