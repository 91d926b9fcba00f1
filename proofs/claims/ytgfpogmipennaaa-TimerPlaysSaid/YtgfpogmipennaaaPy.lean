/- TimerPlays: whatever is set, cancelled, and due, is told as the document says. No condition of the program's own. -/
import Derived.Test.YtgfpogmipennaaaRd2
import Derived.Test.YtgfpogmipennaaaTz
namespace Go.Proofs.Ytgfpogmipennaaa
open Go.RowKit Go.Deep
/-- The blocks of the reference. -/
def Rb (Bx : Nat) (A : Option Addr) (k : Nat) : Prop := k = Bx ∨ ∃ off sp, A = some ⟨k, off, sp⟩
/-- Both hold the same. -/
structure Pl (w wr : World) (B Bx : Nat) (A : Option Addr) (c : Nat) (S : List It) : Prop where
  one : One w wr B S (Rb Bx A)
  rs : RS wr Bx A c S
  lx : w.heap.size ≤ Bx
theorem RS.stay {w w1 : World} {Bx : Nat} {A : Option Addr} {c : Nat} {S : List It} (h : RS w Bx A c S) (k : ∀ k, Rb Bx A k → w1.heap[k]? = w.heap[k]?) : RS w1 Bx A c S := by
  have lt : ∀ b, Rb Bx A b → b < w.heap.size → b < w1.heap.size := fun b hb hl => by
    have := k b hb
    rw [Array.getElem?_eq_getElem hl] at this
    exact (Array.getElem?_eq_some_iff.1 this).1
  refine ⟨(k Bx (.inl rfl)).trans h.blk, ⟨?_, h.vw.cap, h.vw.nil⟩, fun b off sp e => lt b (.inr ⟨off, sp, e⟩) (h.al b off sp e)⟩
  rcases h.vw.has with h0 | ⟨b, off, hA, hb, hc⟩
  · exact .inl h0
  · exact .inr ⟨b, off, hA, lt b (.inr ⟨off, none, hA⟩) hb, fun j u hu => (World.cell?_of_block (k b (.inr ⟨off, none, hA⟩))).trans (hc j u hu)⟩
/-- The program's own turn, then the reference's. -/
theorem Pl.both {w wr w1 w2 : World} {B Bx : Nat} {A A' : Option Addr} {c c' : Nat} {S S' : List It} (h : Pl w wr B Bx A c S) (o : One w w1 B S' (Rb Bx A)) (g : RG w1 w2 Bx A S' A' c') : Pl w w2 B Bx A' c' S' := by
  refine ⟨o.grow (OnlyF.of g.only (fun k e => by cases e; exact ⟨.inl rfl, h.lx⟩)) (fun k hk => ?_), g.rs, h.lx⟩
  rcases hk with rfl | ⟨off, sp, e⟩
  · exact ⟨g.rs.lt, .inl (.inl rfl)⟩
  · refine ⟨g.rs.al k off sp e, ?_⟩
    rcases g.blk k off sp e with ⟨o1, s1, e1⟩ | h1
    · exact .inl (.inr ⟨o1, s1, e1⟩)
    · exact .inr h1
theorem Pl.grow {w wr w1 : World} {B Bx : Nat} {A : Option Addr} {c : Nat} {S : List It} (h : Pl w wr B Bx A c S) (o : One w w1 B S (Rb Bx A)) (g : wr.grownBy w1 none) : Pl w w1 B Bx A c S := ⟨o, h.rs.keep g, h.lx⟩
theorem Pl.drewN {w wr : World} {B Bx : Nat} {A : Option Addr} {c : Nat} {S : List It} (h : Pl w wr B Bx A c S) (n : Nat) : Pl w (wr.drewN n) B Bx A c S := h.grow (h.one.drewN n) (only_drewN (only_refl _ _) n)
/-- Set, of both. -/
theorem pl_set {w wr : World} {B Bx : Nat} {A : Option Addr} {c : Nat} {S : List It} (h : Pl w wr B Bx A c S) (hl : S.length ≤ 1099511627770) (id t : Int) :
    Calls Try.prog 14 #[.pointer (some ⟨B, 0, none⟩), .int .i64 id, .int .i64 t] wr.drew fun e w1 => e = .returned (.int .i64 (setR id S)) ∧ OnlyF (Mine w) w w1 ∧
      Calls Try.prog 15 #[.pointer (some ⟨Bx, 0, none⟩), .int .i64 id, .int .i64 t] w1 fun e w2 => e = .returned (.int .i64 (setR id S)) ∧ OnlyF (Mine w) w w2 ∧ ∃ A' c', Pl w w2 B Bx A' c' (setT id t S) := by
  have hd := h.drewN 1
  refine (one_set hd.one hl id t).mono ?_
  rintro e w1 ⟨rfl, o1, k1⟩
  have r1 := hd.rs.stay k1
  refine ⟨rfl, o1.only, (rset Bx id t A c S w1 r1 hl).mono ?_⟩
  rintro e w2 ⟨rfl, A', c', g⟩
  have P := hd.both o1 g
  exact ⟨rfl, P.one.only, A', c', P⟩
theorem pl_cancel {w wr : World} {B Bx : Nat} {A : Option Addr} {c : Nat} {S : List It} (h : Pl w wr B Bx A c S) (hl : S.length ≤ 1099511627770) (id : Int) :
    Calls Try.prog 16 #[.pointer (some ⟨B, 0, none⟩), .int .i64 id] wr.drew fun e w1 => e = .returned (.bool (isIn id S)) ∧ OnlyF (Mine w) w w1 ∧
      Calls Try.prog 17 #[.pointer (some ⟨Bx, 0, none⟩), .int .i64 id] w1 fun e w2 => e = .returned (.bool (isIn id S)) ∧ OnlyF (Mine w) w w2 ∧ ∃ A' c', Pl w w2 B Bx A' c' (del id S) := by
  have hd := h.drewN 1
  refine (one_cancel hd.one hl id).mono ?_
  rintro e w1 ⟨rfl, o1, k1⟩
  refine ⟨rfl, o1.only, (rcancel Bx id A c S w1 (hd.rs.stay k1) hl).mono ?_⟩
  rintro e w2 ⟨rfl, A', c', g⟩
  have P := hd.both o1 g
  exact ⟨rfl, P.one.only, A', c', P⟩
theorem pl_due {w wr : World} {B Bx : Nat} {A : Option Addr} {c : Nat} {S : List It} (h : Pl w wr B Bx A c S) (hl : S.length ≤ 1099511627770) (now : Int) :
    Calls Try.prog 19 #[.pointer (some ⟨B, 0, none⟩), .int .i64 now] wr.drew fun e w1 => ∃ X1 d1, e = .returned (.slice X1 (ids (S.takeWhile (isDue now))).length d1) ∧ OnlyF (Mine w) w w1 ∧
      Calls Try.prog 20 #[.pointer (some ⟨Bx, 0, none⟩), .int .i64 now] w1 fun e w2 => ∃ X2 d2, e = .returned (.slice X2 (ids (S.takeWhile (isDue now))).length d2) ∧ OnlyF (Mine w) w w2 ∧
        Calls Try.prog 18 #[.slice X1 (ids (S.takeWhile (isDue now))).length d1, .slice X2 (ids (S.takeWhile (isDue now))).length d2] w2 fun e w3 => e = .returned (.bool true) ∧ OnlyF (Mine w) w w3 ∧ ∃ A' c', Pl w w3 B Bx A' c' (S.dropWhile (isDue now)) := by
  have hd := h.drewN 1
  refine (one_due hd.one hl now rfl rfl).mono ?_
  rintro e w1 ⟨X1, d1, rfl, r1, o1, k1, z1⟩
  have o1' := o1.less (Q := Rb Bx A) (fun k hk => .inl hk)
  refine ⟨X1, d1, rfl, o1.only, (rdue Bx now A c S w1 (hd.rs.stay k1) hl).mono ?_⟩
  rintro e w2 ⟨X2, d2, A', c', rfl, r2, g⟩
  have P := hd.both o1' g
  have r1' : w2.ownsRow wr.heap.size 3 1 (.slice X1 (ids (S.takeWhile (isDue now))).length d1) (ids (S.takeWhile (isDue now))).length (ns (ids (S.takeWhile (isDue now)))) :=
    row_keep r1 (fun k hk => g.only.block k (row_lt r1 k hk) (fun e => by injection e with e; have := row_ge r1 k hk; have := hd.rs.lt; subst e; exact absurd this (Nat.not_lt.2 (by assumption))))
  have a1 : Has w2 w2.heap.size X1 (ns (ids (S.takeWhile (isDue now)))) := Has.own (show w2.ownsRow wr.heap.size 3 1 (.slice X1 (ns (ids (S.takeWhile (isDue now)))).length d1) (ns (ids (S.takeWhile (isDue now)))).length (ns (ids (S.takeWhile (isDue now)))) by rw [ns_len]; exact r1')
  have a2 : Has w2 w2.heap.size X2 (ns (ids (S.takeWhile (isDue now)))) := Has.own (show w2.ownsRow w1.heap.size 3 1 (.slice X2 (ns (ids (S.takeWhile (isDue now)))).length d2) (ns (ids (S.takeWhile (isDue now)))).length (ns (ids (S.takeWhile (isDue now)))) by rw [ns_len]; exact r2)
  have hn : (ids (S.takeWhile (isDue now))).length ≤ 1099511627776 := by
    have h1 : (ids (S.takeWhile (isDue now))).length = (S.takeWhile (isDue now)).length := by simp [ids]
    have h2 := (List.takeWhile_sublist (isDue now) (l := S)).length_le
    omega
  refine ⟨X2, d2, rfl, P.one.only, (ints_same X1 X2 d1 d2 _ w2 w2.heap.size a1 a2 hn).mono ?_⟩
  rintro e w3 ⟨rfl, n, rfl⟩
  have P3 := P.drewN n
  exact ⟨rfl, P3.one.only, A', c', P3⟩
theorem setT_len (id t : Int) (S : List It) : (setT id t S).length ≤ S.length + 1 := by
  unfold setT
  split
  · unfold setS
    rw [(ins_perm _ _).length_eq, List.length_cons]
    have : (del id S).length ≤ S.length := List.length_filter_le _ _
    omega
  · omega
set_option maxRecDepth 100000 in
set_option maxHeartbeats 2000000 in
theorem timerPlays_walk (A : Option Addr) (c : Nat) (z : List Int) (A1 : Option Addr) (c1 : Nat) (z1 : List Int) (A2 : Option Addr) (c2 : Nat) (z2 : List Int) (w : World)
    (h : Has w w.heap.size A (ns z)) (hz : ∀ x ∈ z, -9223372036854775808 ≤ x ∧ x ≤ 9223372036854775807) (h1 : Has w w.heap.size A1 (ns z1)) (h2 : Has w w.heap.size A2 (ns z2)) :
    Calls Try.prog 3 #[.slice A z.length c, .slice A1 z1.length c1, .slice A2 z2.length c2] w fun e w' => e = .returned (.bool true) ∧ w.grownBy w' none := by
  have HH := Lib.hid h
  have HZ := Lib.hid hz
  have HH1 := Lib.hid h1
  have HH2 := Lib.hid h2
  clear h hz h1 h2
  go_enter Try.func3, Try.ntmps3
  go_wp2_with fail
  refine (known_any w).mono ?_
  rintro e w1 ⟨rfl, o1⟩
  go_wp2_with fail
  refine (one_new o1).mono ?_
  rintro e w2 ⟨B, rfl, T2⟩
  have T2 := Lib.hid T2
  clear o1
  go_wp2_with fail
  refine (rnew w2).mono ?_
  rintro e w3 ⟨Bx, rfl, hBx, r3, g3⟩
  have T3 : Hid (Pl w w3 B Bx none 0 []) := Lib.hid ⟨T2.out.grow (OnlyF.still g3) (fun k hk => by
    rcases hk with rfl | ⟨off, sp, e⟩
    · exact ⟨r3.lt, .inr (by omega)⟩
    · cases e), r3, by have := T2.out.only.size; omega⟩
  clear r3 g3 hBx T2
  go_wp2_with fail
  go_loopw [9] (fun si wr => ∃ (i : Nat) (A' : Option Addr) (c' : Nat) (S : List It), si = .int .i64 i ∧ i ≤ z.length ∧ i ≤ z1.length ∧ i ≤ z2.length ∧ i ≤ 300 ∧ S.length ≤ i ∧ Hid (Pl w wr B Bx A' c' S)) (fun si _ => 300 - (intOf si).toNat)
  case atStart => exact ⟨0, none, 0, [], rfl, Nat.zero_le _, Nat.zero_le _, Nat.zero_le _, Nat.zero_le _, Nat.le_refl _, T3⟩
  case round =>
    clear T3
    obtain ⟨i, A', c', S, rfl, hi, hi1, hi2, hi3, hS, T⟩ := hrel
    by_cases t1 : (i : Int) < (z.length : Int)
    · by_cases t2 : (i : Int) < (z1.length : Int)
      · by_cases t3 : (i : Int) < (z2.length : Int)
        · by_cases t4 : (i : Int) < 300
          · have t0 : (0 : Int) ≤ (i : Int) := by omega
            have hes : IntKind.i64.wrap ((i : Int) + 1) = (i : Int) + 1 := by rw [IntKind.wrap_i64]; omega
            obtain ⟨x, hx⟩ : ∃ x, z[i]? = some x := ⟨z[i]'(by omega), by simp⟩
            obtain ⟨y, hy⟩ : ∃ y, z1[i]? = some y := ⟨z1[i]'(by omega), by simp⟩
            obtain ⟨v, hv⟩ : ∃ v, z2[i]? = some v := ⟨z2[i]'(by omega), by simp⟩
            obtain ⟨b, off, rfl, _, cx⟩ := (HH.out.mine T.out.one.only).int hx
            obtain ⟨b1, off1, rfl, _, cy⟩ := (HH1.out.mine T.out.one.only).int hy
            obtain ⟨b2, off2, rfl, _, cv⟩ := (HH2.out.mine T.out.one.only).int hv
            have X1 := Lib.hid (HZ.out x (List.mem_of_getElem? hx))
            have CC : Hid (∀ W : World, OnlyF (Mine w) w W → W.cell? ⟨b1, off1 + i, none⟩ = some (.int .i64 y) ∧ W.cell? ⟨b2, off2 + i, none⟩ = some (.int .i64 v)) := Lib.hid (fun W o => by
              obtain ⟨b', off', hA, _, cy'⟩ := (HH1.out.mine o).int hy
              injection hA with hA; injection hA with hA1 hA2
              subst hA1; subst hA2
              obtain ⟨b'', off'', hA', _, cv'⟩ := (HH2.out.mine o).int hv
              injection hA' with hA'; injection hA' with hA1' hA2'
              subst hA1'; subst hA2'
              exact ⟨cy', cv'⟩)
            have CD := CC.out wr.drew (T.out.one.only.trans (OnlyF.still (only_drew (only_refl wr none))))
            have LS := Lib.hid (show S.length ≤ 1099511627770 by omega)
            obtain ⟨q, hq⟩ : ∃ q : Nat, x % 5 = (q : Int) := ⟨(x % 5).toNat, by have := Int.emod_nonneg x (show (5 : Int) ≠ 0 by decide); omega⟩
            have q5 : q < 5 := by have := Int.emod_lt_of_pos x (show (0 : Int) < 5 by decide); omega
            have HQ := Lib.hid hq
            clear hx hy hv hq
            go_wp2_with fail
            refine (within_eq x 5 X1.out (by omega) (by omega) wr).mono ?_
            rintro e w5 ⟨rfl, rfl⟩
            rw [HQ.out]
            clear HQ
            have q01 : q = 0 ∨ q = 1 ∨ q = 2 ∨ q = 3 ∨ q = 4 := by omega
            rcases q01 with rfl | rfl | rfl | rfl | rfl
            · have P1 := Lib.hid (pl_set T.out LS.out y v)
              obtain ⟨r, hr⟩ : ∃ r, r = setR y S := ⟨_, rfl⟩
              rw [← hr] at P1
              clear hr
              go_wp2_with fail
              go_region_held3 (fun U => U.cell? ⟨b1, off1 + i, none⟩ = some (.int .i64 y) ∧ U.cell? ⟨b2, off2 + i, none⟩ = some (.int .i64 v)) (first | exact CD | exact CA | exact CB) ((first
                | (go_at_call 14; refine P1.out.mono ?_; rintro e wa ⟨rfl, oa, pa⟩; have PA := Lib.hid pa; have CA := CC.out wa oa; clear pa oa)
                | (go_at_call 15; refine PA.out.mono ?_; rintro e wb ⟨rfl, ob, A3, c3, pb⟩; have PB := Lib.hid pb; have CB := CC.out wb ob; clear pb ob)))
              have LN := Lib.hid (setT_len y v S)
              obtain ⟨S2, hS2⟩ : ∃ S2, S2 = setT y v S := ⟨_, rfl⟩
              rw [← hS2] at PB LN
              clear hS2
              go_wp2_with fail
              refine (one_next PB.out.one).mono ?_
              rintro e w6 ⟨rfl, s6, g6⟩
              have P6 := Lib.hid (PB.out.grow s6 g6)
              clear s6 g6
              go_wp2_with fail
              refine (rnext Bx A3 c3 S2 w6 P6.out.rs).mono ?_
              rintro e w7 ⟨rfl, rfl⟩
              have cB := P6.out.rs.cell
              obtain ⟨hd, hhd⟩ : ∃ hd, hd = (S2.head?.map (·.2)).getD 0 := ⟨_, rfl⟩
              obtain ⟨em, hem⟩ : ∃ em, em = !S2.isEmpty := ⟨_, rfl⟩
              rw [← hhd, ← hem]
              have QL := Lib.hid (fun n => (one_len (P6.out.one.drewN n)).mono (fun _ _ h => (⟨h.1, h.2.symm⟩ : _ ∧ _)))
              have cB2 : ∀ n, (w6.drewN n).cell? ⟨Bx, 0, none⟩ = some (.slice A3 S2.length c3) := fun _ => cB
              clear hhd hem
              go_wp2_with fail
              go_quiet ((go_at_call 23; exact Calls.quiet_of_same (QL.out _)))
              go_wp2_with fail
              go_roundw
              case rel => exact ⟨i + 1, A3, c3, S2, by go_num, by omega, by omega, by omega, by omega, Nat.le_trans LN.out (by omega), Lib.hid (P6.out.drewN _)⟩
              case measure => simp [intOf]; omega
            · have P1 := Lib.hid (pl_set T.out LS.out y v)
              obtain ⟨r, hr⟩ : ∃ r, r = setR y S := ⟨_, rfl⟩
              rw [← hr] at P1
              clear hr
              go_wp2_with fail
              go_region_held3 (fun U => U.cell? ⟨b1, off1 + i, none⟩ = some (.int .i64 y) ∧ U.cell? ⟨b2, off2 + i, none⟩ = some (.int .i64 v)) (first | exact CD | exact CA | exact CB) ((first
                | (go_at_call 14; refine P1.out.mono ?_; rintro e wa ⟨rfl, oa, pa⟩; have PA := Lib.hid pa; have CA := CC.out wa oa; clear pa oa)
                | (go_at_call 15; refine PA.out.mono ?_; rintro e wb ⟨rfl, ob, A3, c3, pb⟩; have PB := Lib.hid pb; have CB := CC.out wb ob; clear pb ob)))
              have LN := Lib.hid (setT_len y v S)
              obtain ⟨S2, hS2⟩ : ∃ S2, S2 = setT y v S := ⟨_, rfl⟩
              rw [← hS2] at PB LN
              clear hS2
              go_wp2_with fail
              refine (one_next PB.out.one).mono ?_
              rintro e w6 ⟨rfl, s6, g6⟩
              have P6 := Lib.hid (PB.out.grow s6 g6)
              clear s6 g6
              go_wp2_with fail
              refine (rnext Bx A3 c3 S2 w6 P6.out.rs).mono ?_
              rintro e w7 ⟨rfl, rfl⟩
              have cB := P6.out.rs.cell
              obtain ⟨hd, hhd⟩ : ∃ hd, hd = (S2.head?.map (·.2)).getD 0 := ⟨_, rfl⟩
              obtain ⟨em, hem⟩ : ∃ em, em = !S2.isEmpty := ⟨_, rfl⟩
              rw [← hhd, ← hem]
              have QL := Lib.hid (fun n => (one_len (P6.out.one.drewN n)).mono (fun _ _ h => (⟨h.1, h.2.symm⟩ : _ ∧ _)))
              have cB2 : ∀ n, (w6.drewN n).cell? ⟨Bx, 0, none⟩ = some (.slice A3 S2.length c3) := fun _ => cB
              clear hhd hem
              go_wp2_with fail
              go_quiet ((go_at_call 23; exact Calls.quiet_of_same (QL.out _)))
              go_wp2_with fail
              go_roundw
              case rel => exact ⟨i + 1, A3, c3, S2, by go_num, by omega, by omega, by omega, by omega, Nat.le_trans LN.out (by omega), Lib.hid (P6.out.drewN _)⟩
              case measure => simp [intOf]; omega
            · have P1 := Lib.hid (pl_set T.out LS.out y v)
              obtain ⟨r, hr⟩ : ∃ r, r = setR y S := ⟨_, rfl⟩
              rw [← hr] at P1
              clear hr
              go_wp2_with fail
              go_region_held3 (fun U => U.cell? ⟨b1, off1 + i, none⟩ = some (.int .i64 y) ∧ U.cell? ⟨b2, off2 + i, none⟩ = some (.int .i64 v)) (first | exact CD | exact CA | exact CB) ((first
                | (go_at_call 14; refine P1.out.mono ?_; rintro e wa ⟨rfl, oa, pa⟩; have PA := Lib.hid pa; have CA := CC.out wa oa; clear pa oa)
                | (go_at_call 15; refine PA.out.mono ?_; rintro e wb ⟨rfl, ob, A3, c3, pb⟩; have PB := Lib.hid pb; have CB := CC.out wb ob; clear pb ob)))
              have LN := Lib.hid (setT_len y v S)
              obtain ⟨S2, hS2⟩ : ∃ S2, S2 = setT y v S := ⟨_, rfl⟩
              rw [← hS2] at PB LN
              clear hS2
              go_wp2_with fail
              refine (one_next PB.out.one).mono ?_
              rintro e w6 ⟨rfl, s6, g6⟩
              have P6 := Lib.hid (PB.out.grow s6 g6)
              clear s6 g6
              go_wp2_with fail
              refine (rnext Bx A3 c3 S2 w6 P6.out.rs).mono ?_
              rintro e w7 ⟨rfl, rfl⟩
              have cB := P6.out.rs.cell
              obtain ⟨hd, hhd⟩ : ∃ hd, hd = (S2.head?.map (·.2)).getD 0 := ⟨_, rfl⟩
              obtain ⟨em, hem⟩ : ∃ em, em = !S2.isEmpty := ⟨_, rfl⟩
              rw [← hhd, ← hem]
              have QL := Lib.hid (fun n => (one_len (P6.out.one.drewN n)).mono (fun _ _ h => (⟨h.1, h.2.symm⟩ : _ ∧ _)))
              have cB2 : ∀ n, (w6.drewN n).cell? ⟨Bx, 0, none⟩ = some (.slice A3 S2.length c3) := fun _ => cB
              clear hhd hem
              go_wp2_with fail
              go_quiet ((go_at_call 23; exact Calls.quiet_of_same (QL.out _)))
              go_wp2_with fail
              go_roundw
              case rel => exact ⟨i + 1, A3, c3, S2, by go_num, by omega, by omega, by omega, by omega, Nat.le_trans LN.out (by omega), Lib.hid (P6.out.drewN _)⟩
              case measure => simp [intOf]; omega
            · have P1 := Lib.hid (pl_cancel T.out LS.out y)
              obtain ⟨r, hr⟩ : ∃ r, r = isIn y S := ⟨_, rfl⟩
              rw [← hr] at P1
              clear hr
              go_wp2_with fail
              go_region_held3 (fun U => U.cell? ⟨b1, off1 + i, none⟩ = some (.int .i64 y) ∧ U.cell? ⟨b2, off2 + i, none⟩ = some (.int .i64 v)) (first | exact CD | exact CA | exact CB) ((first
                | (go_at_call 16; refine P1.out.mono ?_; rintro e wa ⟨rfl, oa, pa⟩; have PA := Lib.hid pa; have CA := CC.out wa oa; clear pa oa)
                | (go_at_call 17; refine PA.out.mono ?_; rintro e wb ⟨rfl, ob, A3, c3, pb⟩; have PB := Lib.hid pb; have CB := CC.out wb ob; clear pb ob)))
              have LN : Hid ((del y S).length ≤ S.length + 1) := Lib.hid (Nat.le_succ_of_le (List.length_filter_le _ _))
              obtain ⟨S2, hS2⟩ : ∃ S2, S2 = del y S := ⟨_, rfl⟩
              rw [← hS2] at PB LN
              clear hS2
              go_wp2_with fail
              refine (one_next PB.out.one).mono ?_
              rintro e w6 ⟨rfl, s6, g6⟩
              have P6 := Lib.hid (PB.out.grow s6 g6)
              clear s6 g6
              go_wp2_with fail
              refine (rnext Bx A3 c3 S2 w6 P6.out.rs).mono ?_
              rintro e w7 ⟨rfl, rfl⟩
              have cB := P6.out.rs.cell
              obtain ⟨hd, hhd⟩ : ∃ hd, hd = (S2.head?.map (·.2)).getD 0 := ⟨_, rfl⟩
              obtain ⟨em, hem⟩ : ∃ em, em = !S2.isEmpty := ⟨_, rfl⟩
              rw [← hhd, ← hem]
              have QL := Lib.hid (fun n => (one_len (P6.out.one.drewN n)).mono (fun _ _ h => (⟨h.1, h.2.symm⟩ : _ ∧ _)))
              have cB2 : ∀ n, (w6.drewN n).cell? ⟨Bx, 0, none⟩ = some (.slice A3 S2.length c3) := fun _ => cB
              clear hhd hem
              go_wp2_with fail
              go_quiet ((go_at_call 23; exact Calls.quiet_of_same (QL.out _)))
              go_wp2_with fail
              go_roundw
              case rel => exact ⟨i + 1, A3, c3, S2, by go_num, by omega, by omega, by omega, by omega, Nat.le_trans LN.out (by omega), Lib.hid (P6.out.drewN _)⟩
              case measure => simp [intOf]; omega
            · have P1 := Lib.hid (pl_due T.out LS.out v)
              go_wp2_with fail
              go_region_held3 (fun U => U.cell? ⟨b1, off1 + i, none⟩ = some (.int .i64 y) ∧ U.cell? ⟨b2, off2 + i, none⟩ = some (.int .i64 v)) (first | exact CD | exact CA | exact CB | exact CE) ((first
                | (go_at_call 19; refine P1.out.mono ?_; rintro e wa ⟨X1, d1, rfl, oa, pa⟩; have PA := Lib.hid pa; have CA := CC.out wa oa; clear pa oa)
                | (go_at_call 20; refine PA.out.mono ?_; rintro e wb ⟨X2, d2, rfl, ob, pb⟩; have PC := Lib.hid pb; have CB := CC.out wb ob; clear pb ob)
                | (go_at_call 18; refine PC.out.mono ?_; rintro e we ⟨rfl, oe, A3, c3, pe⟩; have PB := Lib.hid pe; have CE := CC.out we oe; clear pe oe)))
              have LN : Hid ((S.dropWhile (isDue v)).length ≤ S.length + 1) := Lib.hid (Nat.le_succ_of_le (List.dropWhile_sublist _).length_le)
              obtain ⟨S2, hS2⟩ : ∃ S2, S2 = S.dropWhile (isDue v) := ⟨_, rfl⟩
              rw [← hS2] at PB LN
              clear hS2
              go_wp2_with fail
              refine (one_next PB.out.one).mono ?_
              rintro e w6 ⟨rfl, s6, g6⟩
              have P6 := Lib.hid (PB.out.grow s6 g6)
              clear s6 g6
              go_wp2_with fail
              refine (rnext Bx A3 c3 S2 w6 P6.out.rs).mono ?_
              rintro e w7 ⟨rfl, rfl⟩
              have cB := P6.out.rs.cell
              obtain ⟨hd, hhd⟩ : ∃ hd, hd = (S2.head?.map (·.2)).getD 0 := ⟨_, rfl⟩
              obtain ⟨em, hem⟩ : ∃ em, em = !S2.isEmpty := ⟨_, rfl⟩
              rw [← hhd, ← hem]
              have QL := Lib.hid (fun n => (one_len (P6.out.one.drewN n)).mono (fun _ _ h => (⟨h.1, h.2.symm⟩ : _ ∧ _)))
              have cB2 : ∀ n, (w6.drewN n).cell? ⟨Bx, 0, none⟩ = some (.slice A3 S2.length c3) := fun _ => cB
              clear hhd hem
              go_wp2_with fail
              go_quiet ((go_at_call 23; exact Calls.quiet_of_same (QL.out _)))
              go_wp2_with fail
              go_roundw
              case rel => exact ⟨i + 1, A3, c3, S2, by go_num, by omega, by omega, by omega, by omega, Nat.le_trans LN.out (by omega), Lib.hid (P6.out.drewN _)⟩
              case measure => simp [intOf]; omega
          · go_wp2_with fail
            go_ret
            exact ⟨rfl, T.out.one.at_.end⟩
        · go_wp2_with fail
          go_ret
          exact ⟨rfl, T.out.one.at_.end⟩
      · go_wp2_with fail
        go_ret
        exact ⟨rfl, T.out.one.at_.end⟩
    · go_wp2_with fail
      go_ret
      exact ⟨rfl, T.out.one.at_.end⟩
end Go.Proofs.Ytgfpogmipennaaa
