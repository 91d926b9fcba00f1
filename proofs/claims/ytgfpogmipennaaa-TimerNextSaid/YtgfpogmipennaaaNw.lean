/- TimerNext: what is next is the least time of all that are due, whatever was set, and cancelled. No condition of the program's own. -/
import Derived.Test.YtgfpogmipennaaaNx
namespace Go.Proofs.Ytgfpogmipennaaa
open Go.RowKit Go.Deep
/-- The heap, and its two arrays. -/
structure NxW (w wr : World) (B bf bg i : Nat) (f : Nat → Int) (g : Nat → Bool) (S : List It) : Prop where
  one : One w wr B S (fun k => k = bf ∨ k = bg)
  af : Ar wr bf 20 45 (fun j => .int .i64 (f j))
  ag : Ar wr bg 20 46 (fun j => .bool (g j))
  ne : bf ≠ bg
  lf : w.heap.size ≤ bf
  lg : w.heap.size ≤ bg
  nx : Nx i f g S
theorem NxW.lt {w wr : World} {B bf bg i : Nat} {f : Nat → Int} {g : Nat → Bool} {S : List It} (h : NxW w wr B bf bg i f g S) : ∀ k, (k = bf ∨ k = bg) → k < wr.heap.size := fun k hk => by
  obtain ⟨F, _, _, f, _⟩ := h.one
  exact (f k hk).1
theorem NxW.grow {w wr w1 : World} {B bf bg i : Nat} {f : Nat → Int} {g : Nat → Bool} {S : List It} (h : NxW w wr B bf bg i f g S) (o : One w w1 B S (fun k => k = bf ∨ k = bg)) (gr : wr.grownBy w1 none) : NxW w w1 B bf bg i f g S :=
  ⟨o, h.af.of (gr.block bf (h.lt _ (.inl rfl)) (by simp)), h.ag.of (gr.block bg (h.lt _ (.inr rfl)) (by simp)), h.ne, h.lf, h.lg, h.nx⟩
/-- Both arrays are told what was set. -/
theorem NxW.put {w wr w1 : World} {B bf bg i : Nat} {f : Nat → Int} {g : Nat → Bool} {S : List It} (h : NxW w wr B bf bg i f g S) (hi : i < 60) (k : Nat) (hk : k < 20) (t : Int) (ht : 0 ≤ t ∧ t < 100)
    (o : One w w1 B (setT (k : Int) t S) (fun k => k = bf ∨ k = bg)) (kp : ∀ k, (k = bf ∨ k = bg) → w1.heap[k]? = wr.heap[k]?) :
    NxW w ((w1.setCell ⟨bf, k, none⟩ (.int .i64 t)).setCell ⟨bg, k, none⟩ (.bool true)) B bf bg (i + 1) (upd f k t) (upd g k true) (setT (k : Int) t S) := by
  have a1 : Ar w1 bf 20 45 (fun j => .int .i64 (f j)) := h.af.of (kp bf (.inl rfl))
  have a2 : Ar w1 bg 20 46 (fun j => .bool (g j)) := h.ag.of (kp bg (.inr rfl))
  refine ⟨(o.set (.inl rfl) h.lf k _).set (.inr rfl) h.lg k _, ?_, ?_, h.ne, h.lf, h.lg, (h.nx.set hi k hk t ht).2⟩
  · have := (a1.put hk (.int .i64 t)).of (heap_other _ h.ne k (.bool true))
    rw [upd_map (fun x => Value.int .i64 x)] at this
    exact this
  · have := (a2.of (heap_other w1 (Ne.symm h.ne) k (.int .i64 t))).put hk (.bool true)
    rw [upd_map (fun x => Value.bool x)] at this
    exact this
theorem NxW.off {w wr w1 : World} {B bf bg i : Nat} {f : Nat → Int} {g : Nat → Bool} {S : List It} (h : NxW w wr B bf bg i f g S) (c : Nat) (hc : c < 20)
    (o : One w w1 B (del (c : Int) S) (fun k => k = bf ∨ k = bg)) (kp : ∀ k, (k = bf ∨ k = bg) → w1.heap[k]? = wr.heap[k]?) :
    w1.frozen? ⟨bg, c, none⟩ = false ∧ NxW w (w1.setCell ⟨bg, c, none⟩ (.bool false)) B bf bg i f (upd g c false) (del (c : Int) S) := by
  have a1 : Ar w1 bf 20 45 (fun j => .int .i64 (f j)) := h.af.of (kp bf (.inl rfl))
  have a2 : Ar w1 bg 20 46 (fun j => .bool (g j)) := h.ag.of (kp bg (.inr rfl))
  refine ⟨a2.thaw c, o.set (.inr rfl) h.lg c _, a1.of (heap_other _ h.ne c _), ?_, h.ne, h.lf, h.lg, h.nx.cancel c⟩
  have := a2.put hc (.bool false)
  rw [upd_map (fun x => Value.bool x)] at this
  exact this
theorem two_new {w w2 : World} {B : Nat} (T : One w w2 B [] (fun _ => False)) {W : World} {a b : Array Value} (ha : a = arr 20 (fun _ => .int .i64 0)) (hb : b = arr 20 (fun _ => .bool false)) (hW : (w2.alloc (.cells a 45)).alloc (.cells b 46) = W) :
    NxW w W B w2.heap.size (w2.heap.size + 1) 0 (fun _ => 0) (fun _ => false) [] := by
  have z := T.only.size
  have s1 : (w2.alloc (.cells a 45)).heap.size = w2.heap.size + 1 := by simp
  have o2 := (T.alloc (.cells a 45)).alloc (.cells b 46)
  rw [hW, s1] at o2
  refine ⟨o2.less (fun k hk => ?_), ?_, ?_, by omega, z, by omega, ⟨Nat.le_refl _, (fun _ _ => rfl), (fun y hy => by cases hy), (fun y hy => by cases hy)⟩⟩
  · rcases hk with hk | hk
    · exact .inl (.inr hk)
    · exact .inr hk
  · rw [← hW]
    unfold Ar
    rw [heap_lt _ _ (by simp), heap_alloc_new, ha]
  · rw [← hW]
    unfold Ar
    rw [← s1, heap_alloc_new, hb]
theorem one_cancel_d {w wr : World} {B : Nat} {S : List It} {P : Nat → Prop} (h : One w wr B S P) (hl : S.length ≤ 1099511627770) (id : Int) :
    Calls Try.prog 16 #[.pointer (some ⟨B, 0, none⟩), .int .i64 id] wr.drew fun e w' => e = .returned (.bool (isIn id S)) ∧ One w w' B (del id S) P ∧ ∀ k, P k → w'.heap[k]? = wr.heap[k]? := one_cancel (h.drewN 1) hl id
set_option maxRecDepth 100000 in
set_option maxHeartbeats 1000000 in
theorem timerNext_walk (A : Option Addr) (c : Nat) (z : List Int) (A1 : Option Addr) (c1 : Nat) (z1 : List Int) (A2 : Option Addr) (c2 : Nat) (z2 : List Int) (w : World)
    (h : Has w w.heap.size A (ns z)) (hz : ∀ x ∈ z, -9223372036854775808 ≤ x ∧ x ≤ 9223372036854775807) (h1 : Has w w.heap.size A1 (ns z1)) (hz1 : ∀ x ∈ z1, -9223372036854775808 ≤ x ∧ x ≤ 9223372036854775807) (h2 : Has w w.heap.size A2 (ns z2)) (hz2 : ∀ x ∈ z2, -9223372036854775808 ≤ x ∧ x ≤ 9223372036854775807) :
    Calls Try.prog 9 #[.slice A z.length c, .slice A1 z1.length c1, .slice A2 z2.length c2] w fun e w' => e = .returned (.bool true) ∧ w.grownBy w' none := by
  have HH := Lib.hid h
  have HZ := Lib.hid hz
  have HH1 := Lib.hid h1
  have HZ1 := Lib.hid hz1
  have HH2 := Lib.hid h2
  have HZ2 := Lib.hid hz2
  clear h hz h1 hz1 h2 hz2
  go_enter Try.func9, Try.ntmps9
  go_wp2_with fail
  refine (known_any w).mono ?_
  rintro e w1 ⟨rfl, o1⟩
  go_wp2_with fail
  refine (one_new o1).mono ?_
  rintro e w2 ⟨B, rfl, T2⟩
  have TN := Lib.hid (fun W (hW) => two_new T2 (W := W) (a := #[.int .i64 0, .int .i64 0, .int .i64 0, .int .i64 0, .int .i64 0, .int .i64 0, .int .i64 0, .int .i64 0, .int .i64 0, .int .i64 0, .int .i64 0, .int .i64 0, .int .i64 0, .int .i64 0, .int .i64 0, .int .i64 0, .int .i64 0, .int .i64 0, .int .i64 0, .int .i64 0]) (b := #[.bool false, .bool false, .bool false, .bool false, .bool false, .bool false, .bool false, .bool false, .bool false, .bool false, .bool false, .bool false, .bool false, .bool false, .bool false, .bool false, .bool false, .bool false, .bool false, .bool false]) rfl rfl hW)
  clear o1 T2
  go_wp2_with fail
  generalize hW : World.alloc _ _ = W
  have T2 := Lib.hid (TN.out W hW)
  clear TN hW
  generalize hbg : w2.heap.size + 1 = bg at T2
  generalize hbf : w2.heap.size = bf at T2
  clear hbg hbf
  go_loopw [10] (fun si wr => ∃ (i : Nat) (f : Nat → Int) (g : Nat → Bool) (S : List It), si = .int .i64 i ∧ i ≤ z.length ∧ i ≤ z1.length ∧ i ≤ 60 ∧ Hid (NxW w wr B bf bg i f g S)) (fun si _ => 60 - (intOf si).toNat)
  case atStart => exact ⟨0, _, _, [], rfl, Nat.zero_le _, Nat.zero_le _, Nat.zero_le _, T2⟩
  case round =>
    clear T2
    obtain ⟨i, f, g, S, rfl, hi, hi1, hi60, T⟩ := hrel
    by_cases t1 : (i : Int) < (z.length : Int)
    · by_cases t2 : (i : Int) < (z1.length : Int)
      · by_cases t3 : (i : Int) < 60
        · have t0 : (0 : Int) ≤ (i : Int) := by omega
          have hes : IntKind.i64.wrap ((i : Int) + 1) = (i : Int) + 1 := by rw [IntKind.wrap_i64]; omega
          obtain ⟨x, hx⟩ : ∃ x, z[i]? = some x := ⟨z[i]'(by omega), by simp⟩
          obtain ⟨y, hy⟩ : ∃ y, z1[i]? = some y := ⟨z1[i]'(by omega), by simp⟩
          obtain ⟨b, off, rfl, _, cx⟩ := (HH.out.mine T.out.one.only).int hx
          obtain ⟨b1, off1, rfl, _, cy⟩ := (HH1.out.mine T.out.one.only).int hy
          have X1 := Lib.hid (HZ.out x (List.mem_of_getElem? hx))
          have Y1 := Lib.hid (HZ1.out y (List.mem_of_getElem? hy))
          have HY := Lib.hid hy
          obtain ⟨k, hk⟩ : ∃ k : Nat, x % 20 = (k : Int) := ⟨(x % 20).toNat, by have := Int.emod_nonneg x (show (20 : Int) ≠ 0 by decide); omega⟩
          have k20 : k < 20 := by have := Int.emod_lt_of_pos x (show (0 : Int) < 20 by decide); omega
          have k0 : (0 : Int) ≤ (k : Int) := by omega
          have k2 : (k : Int) < 20 := by omega
          obtain ⟨t, ht⟩ : ∃ t, t = y % 100 := ⟨_, rfl⟩
          have tt : 0 ≤ t ∧ t < 100 := by rw [ht]; exact ⟨Int.emod_nonneg _ (by decide), Int.emod_lt_of_pos _ (by decide)⟩
          have HK := Lib.hid hk
          have HT := Lib.hid ht
          have ND := Lib.hid (T.out.nx.set (by omega) k k20 t tt)
          have LS : Hid (S.length ≤ 1099511627770) := Lib.hid (by have := T.out.nx.len; omega)
          have TT := Lib.hid tt
          have i60 : i < 60 := by omega
          have K20 := Lib.hid k20
          clear hx hy hk ht tt
          go_wp2_with fail
          refine (within_eq x 20 X1.out (by omega) (by omega) wr).mono ?_
          rintro e w3 ⟨rfl, rfl⟩
          rw [HK.out]
          go_wp2_with fail
          refine (within_eq y 100 Y1.out (by omega) (by omega) w3).mono ?_
          rintro e w4 ⟨rfl, rfl⟩
          rw [← HT.out]
          go_wp2_with fail
          refine (one_set T.out.one LS.out k t).mono ?_
          rintro e w5 ⟨rfl, s5, kp⟩
          rw [ND.out.1]
          have cy5 : w5.cell? ⟨b1, off1 + i, none⟩ = some (.int .i64 y) := by
            obtain ⟨b', off', hA, _, cy'⟩ := (HH1.out.mine s5.only).int HY.out
            injection hA with hA; injection hA with hA1 hA2
            subst hA1; subst hA2
            exact cy'
          have cf : w5.cell? ⟨bf, k, none⟩ = some (.int .i64 (f k)) := (T.out.af.of (kp bf (.inl rfl))).cell K20.out
          have cg : w5.cell? ⟨bg, k, none⟩ = some (.bool (g k)) := (T.out.ag.of (kp bg (.inr rfl))).cell K20.out
          have zf : w5.frozen? ⟨bf, k, none⟩ = false := (T.out.af.of (kp bf (.inl rfl))).thaw k
          have zg : w5.frozen? ⟨bg, k, none⟩ = false := (T.out.ag.of (kp bg (.inr rfl))).thaw k
          have ne1 := T.out.ne
          have ne2 := Ne.symm ne1
          have P := Lib.hid (T.out.put i60 k K20.out t TT.out s5 kp)
          clear s5 kp
          go_wp2_with fail
          refine (within_eq y 100 Y1.out (by omega) (by omega) w5).mono ?_
          rintro e w6 ⟨rfl, rfl⟩
          rw [← HT.out]
          obtain ⟨S1, hS1⟩ : ∃ S1, S1 = setT (k : Int) t S := ⟨_, rfl⟩
          rw [← hS1] at P
          obtain ⟨V, hV⟩ : ∃ V, V = (w6.setCell ⟨bf, k, none⟩ (.int .i64 t)).setCell ⟨bg, k, none⟩ (.bool true) := ⟨_, rfl⟩
          rw [← hV] at P
          generalize upd f k t = f1 at P
          generalize upd g k true = g1 at P
          clear hS1 ND
          have i61 : i + 1 ≤ 60 := by omega
          by_cases u1 : (i : Int) < (z2.length : Int)
          · obtain ⟨v, hv⟩ : ∃ v, z2[i]? = some v := ⟨z2[i]'(by omega), by simp⟩
            obtain ⟨b2, off2, rfl, _, cz⟩ := (HH2.out.mine P.out.one.only).int hv
            rw [hV] at cz
            have V1 := Lib.hid (HZ2.out v (List.mem_of_getElem? hv))
            obtain ⟨q, hq⟩ : ∃ q : Nat, v % 20 = (q : Int) := ⟨(v % 20).toNat, by have := Int.emod_nonneg v (show (20 : Int) ≠ 0 by decide); omega⟩
            have q20 : q < 20 := by have := Int.emod_lt_of_pos v (show (0 : Int) < 20 by decide); omega
            have HQ := Lib.hid hq
            have q0 : (0 : Int) ≤ (q : Int) := by omega
            have q2 : (q : Int) < 20 := by omega
            have Q20 := Lib.hid q20
            have HV := Lib.hid hV
            clear hv hq hV
            go_wp2_with fail
            refine (within_eq v 20 V1.out (by omega) (by omega) _).mono ?_
            rintro e w7 ⟨rfl, rfl⟩
            rw [HQ.out, ← HV.out]
            obtain ⟨bb, hbb⟩ : ∃ bb, bb = g1 q := ⟨_, rfl⟩
            have HB : Hid (isIn (q : Int) S1 = bb) := Lib.hid (by rw [hbb, P.out.nx.on q Q20.out])
            have cgq : V.cell? ⟨bg, q, none⟩ = some (.bool bb) := by rw [hbb]; exact P.out.ag.cell Q20.out
            have L1 : Hid (S1.length ≤ 1099511627770) := Lib.hid (by have := P.out.nx.len; omega)
            have CC := Lib.hid (one_cancel_d P.out.one L1.out q)
            clear cx cy cy5 cf cg zf zg cz hbb hes
            go_wp2_with fail
            go_region_held3 (fun U => U.cell? ⟨bg, q, none⟩ = some (.bool bb)) (first | exact cgq | exact cg8) ((first
              | (go_at_call 16; refine CC.out.mono ?_; rintro e w8 ⟨rfl, s8, kp8⟩; rw [HB.out]; have cg8 : w8.cell? ⟨bg, q, none⟩ = some (.bool bb) := (World.cell?_of_block (kp8 bg (.inr rfl))).trans cgq)))
            obtain ⟨z8, n8⟩ := P.out.off q Q20.out s8 kp8
            obtain ⟨U, hU⟩ : ∃ U, U = w8.setCell ⟨bg, q, none⟩ (.bool false) := ⟨_, rfl⟩
            rw [← hU] at n8
            have NN := Lib.hid n8
            have HU := Lib.hid hU
            generalize upd g1 q false = g2 at NN
            generalize del (q : Int) S1 = S2 at NN
            clear s8 kp8 n8 hU CC cgq HV
            go_wp2_with fail
            rw [← HU.out]
            clear HU z8 cg8
            have hes : IntKind.i64.wrap ((i : Int) + 1) = (i : Int) + 1 := by rw [IntKind.wrap_i64]; omega
            have C0 : Hid (Lst 0 S2 1000) := Lib.hid ⟨fun y hy h => by obtain ⟨j, _, e, _⟩ := NN.out.nx.tm y hy; rw [e] at h; exact absurd h (by omega), .inl rfl, by decide⟩
            have N0 : Hid (((cnt 0 S2 : Nat) : Int) = 0) := Lib.hid (by
              have : cnt 0 S2 = 0 := by
                unfold cnt
                rw [List.filter_eq_nil_iff.2]
                · rfl
                · intro y hy
                  obtain ⟨j, _, e, _⟩ := NN.out.nx.tm y hy
                  simp only [decide_eq_true_eq]
                  omega
              rw [this]; rfl)
            go_loopw [13, 14, 15] (fun sm sn sj wx => ∃ (m : Int) (j : Nat), sm = .int .i64 m ∧ sn = .int .i64 (cnt j S2 : Nat) ∧ sj = .int .i64 j ∧ j ≤ 20 ∧ Hid (Lst j S2 m) ∧ U = wx) (fun _ _ sj _ => 20 - (intOf sj).toNat)
            case atStart => exact ⟨1000, 0, rfl, by rw [N0.out], rfl, Nat.zero_le _, C0, by trivial⟩
            case round =>
              clear C0 N0
              obtain ⟨m, j, rfl, rfl, rfl, hj, LL, rfl⟩ := hrel
              by_cases v1 : (j : Int) < 20
              · have v0 : (0 : Int) ≤ (j : Int) := by omega
                have j20 : j < 20 := by omega
                have jes : IntKind.i64.wrap ((j : Int) + 1) = (j : Int) + 1 := by rw [IntKind.wrap_i64]; omega
                obtain ⟨bb, hbb⟩ : ∃ bb, bb = g2 j := ⟨_, rfl⟩
                have HB : Hid (bb = isIn (j : Int) S2) := Lib.hid (by rw [hbb, NN.out.nx.on j j20])
                have cgj : U.cell? ⟨bg, j, none⟩ = some (.bool bb) := by rw [hbb]; exact NN.out.ag.cell j20
                have cfj : U.cell? ⟨bf, j, none⟩ = some (.int .i64 (f1 j)) := NN.out.af.cell j20
                have CS := Lib.hid (cnt_step j S2 NN.out.one.nodup)
                have CL : cnt j S2 ≤ 60 := Nat.le_trans (List.length_filter_le _ _) (Nat.le_trans NN.out.nx.len i61)
                have nes : IntKind.i64.wrap ((cnt j S2 : Nat) + 1 : Int) = ((cnt j S2 : Nat) + 1 : Int) := by rw [IntKind.wrap_i64]; omega
                clear hbb
                cases bb with
                | false =>
                  go_wp2_with fail
                  go_roundw
                  case rel =>
                    refine ⟨m, j + 1, rfl, ?_, by go_num, by omega, Lib.hid (LL.out.off HB.out.symm), by trivial⟩
                    rw [CS.out, if_neg (by rw [← HB.out]; decide)]
                    rfl
                  case measure => simp [intOf]; omega
                | true =>
                  have LN := Lib.hid (LL.out.on NN.out.nx HB.out.symm)
                  obtain ⟨fj, hfj⟩ : ∃ fj, fj = f1 j := ⟨_, rfl⟩
                  rw [← hfj] at cfj LN
                  clear hfj
                  by_cases lm : ¬ fj < m
                  · rw [Int.min_eq_left (by omega)] at LN
                    go_wp2_with fail
                    go_roundw
                    case rel =>
                      refine ⟨m, j + 1, rfl, ?_, by go_num, by omega, LN, by trivial⟩
                      rw [CS.out, if_pos HB.out.symm]
                      go_num
                    case measure => simp [intOf]; omega
                  · have lm := Decidable.not_not.1 lm
                    rw [Int.min_eq_right (by omega)] at LN
                    go_wp2_with fail
                    go_roundw
                    case rel =>
                      refine ⟨fj, j + 1, rfl, ?_, by go_num, by omega, LN, by trivial⟩
                      rw [CS.out, if_pos HB.out.symm]
                      go_num
                    case measure => simp [intOf]; omega
              · obtain rfl : j = 20 := by omega
                rw [cnt_all NN.out.nx]
                have hrt := NN.out.one.srt
                have ONE := Lib.hid NN.out.one
                have NX := NN
                go_wp2_with fail
                refine (one_next ONE.out).mono ?_
                rintro e w9 ⟨rfl, s9, gr9⟩
                have S9 := Lib.hid s9
                have N9 := Lib.hid (NN.out.grow s9 gr9)
                clear s9 gr9
                cases S2 with
                | nil =>
                  go_wp2_with fail
                  refine (one_len S9.out).mono ?_
                  rintro e w10 ⟨rfl, rfl⟩
                  go_wp2_with fail
                  go_roundw
                  case rel => exact ⟨i + 1, _, _, [], by go_num, by omega, by omega, by omega, N9⟩
                  case measure => simp [intOf]; omega
                | cons y9 r9 =>
                  have hm : m = y9.2 := LL.out.done NX.out.nx hrt
                  have e9 : (((y9 :: r9).head?.map (·.2)).getD 0 : Int) = m := by rw [hm]; rfl
                  have n9 : (!(y9 :: r9).isEmpty) = true := rfl
                  have l9 : decide ((0 : Int) < (((y9 :: r9).length : Nat) : Int)) = true := by rw [decide_eq_true_iff, List.length_cons]; omega
                  rw [e9, n9]
                  clear e9 n9 hm
                  obtain ⟨len9, hlen9⟩ : ∃ len9, len9 = (y9 :: r9).length := ⟨_, rfl⟩
                  rw [← hlen9] at l9
                  rw [← hlen9]
                  have HL9 := Lib.hid hlen9
                  have l9n : 0 < len9 := by rw [hlen9]; exact Nat.zero_lt_succ _
                  have l9z : ¬ len9 = 0 := by omega
                  have l9i : (0 : Int) < (len9 : Int) := by omega
                  clear hlen9
                  go_wp2_with fail
                  refine (one_len S9.out).mono ?_
                  rintro e w10 ⟨rfl, rfl⟩
                  rw [← HL9.out]
                  go_wp2_with fail
                  go_roundw
                  case rel => exact ⟨i + 1, _, _, y9 :: r9, by go_num, by omega, by omega, by omega, N9⟩
                  case measure => simp [intOf]; omega
          · have HV := Lib.hid hV
            have NN := P
            clear hV
            go_wp2_with fail
            rw [← HV.out]
            clear cx cy cy5 cf cg zf zg HV
            have hes : IntKind.i64.wrap ((i : Int) + 1) = (i : Int) + 1 := by rw [IntKind.wrap_i64]; omega
            have C0 : Hid (Lst 0 S1 1000) := Lib.hid ⟨fun y hy h => by obtain ⟨j, _, e, _⟩ := NN.out.nx.tm y hy; rw [e] at h; exact absurd h (by omega), .inl rfl, by decide⟩
            have N0 : Hid (((cnt 0 S1 : Nat) : Int) = 0) := Lib.hid (by
              have : cnt 0 S1 = 0 := by
                unfold cnt
                rw [List.filter_eq_nil_iff.2]
                · rfl
                · intro y hy
                  obtain ⟨j, _, e, _⟩ := NN.out.nx.tm y hy
                  simp only [decide_eq_true_eq]
                  omega
              rw [this]; rfl)
            go_loopw [13, 14, 15] (fun sm sn sj wx => ∃ (m : Int) (j : Nat), sm = .int .i64 m ∧ sn = .int .i64 (cnt j S1 : Nat) ∧ sj = .int .i64 j ∧ j ≤ 20 ∧ Hid (Lst j S1 m) ∧ V = wx) (fun _ _ sj _ => 20 - (intOf sj).toNat)
            case atStart => exact ⟨1000, 0, rfl, by rw [N0.out], rfl, Nat.zero_le _, C0, by trivial⟩
            case round =>
              clear C0 N0
              obtain ⟨m, j, rfl, rfl, rfl, hj, LL, rfl⟩ := hrel
              by_cases v1 : (j : Int) < 20
              · have v0 : (0 : Int) ≤ (j : Int) := by omega
                have j20 : j < 20 := by omega
                have jes : IntKind.i64.wrap ((j : Int) + 1) = (j : Int) + 1 := by rw [IntKind.wrap_i64]; omega
                obtain ⟨bb, hbb⟩ : ∃ bb, bb = g1 j := ⟨_, rfl⟩
                have HB : Hid (bb = isIn (j : Int) S1) := Lib.hid (by rw [hbb, NN.out.nx.on j j20])
                have cgj : V.cell? ⟨bg, j, none⟩ = some (.bool bb) := by rw [hbb]; exact NN.out.ag.cell j20
                have cfj : V.cell? ⟨bf, j, none⟩ = some (.int .i64 (f1 j)) := NN.out.af.cell j20
                have CS := Lib.hid (cnt_step j S1 NN.out.one.nodup)
                have CL : cnt j S1 ≤ 60 := Nat.le_trans (List.length_filter_le _ _) (Nat.le_trans NN.out.nx.len i61)
                have nes : IntKind.i64.wrap ((cnt j S1 : Nat) + 1 : Int) = ((cnt j S1 : Nat) + 1 : Int) := by rw [IntKind.wrap_i64]; omega
                clear hbb
                cases bb with
                | false =>
                  go_wp2_with fail
                  go_roundw
                  case rel =>
                    refine ⟨m, j + 1, rfl, ?_, by go_num, by omega, Lib.hid (LL.out.off HB.out.symm), by trivial⟩
                    rw [CS.out, if_neg (by rw [← HB.out]; decide)]
                    rfl
                  case measure => simp [intOf]; omega
                | true =>
                  have LN := Lib.hid (LL.out.on NN.out.nx HB.out.symm)
                  obtain ⟨fj, hfj⟩ : ∃ fj, fj = f1 j := ⟨_, rfl⟩
                  rw [← hfj] at cfj LN
                  clear hfj
                  by_cases lm : ¬ fj < m
                  · rw [Int.min_eq_left (by omega)] at LN
                    go_wp2_with fail
                    go_roundw
                    case rel =>
                      refine ⟨m, j + 1, rfl, ?_, by go_num, by omega, LN, by trivial⟩
                      rw [CS.out, if_pos HB.out.symm]
                      go_num
                    case measure => simp [intOf]; omega
                  · have lm := Decidable.not_not.1 lm
                    rw [Int.min_eq_right (by omega)] at LN
                    go_wp2_with fail
                    go_roundw
                    case rel =>
                      refine ⟨fj, j + 1, rfl, ?_, by go_num, by omega, LN, by trivial⟩
                      rw [CS.out, if_pos HB.out.symm]
                      go_num
                    case measure => simp [intOf]; omega
              · obtain rfl : j = 20 := by omega
                rw [cnt_all NN.out.nx]
                have hrt := NN.out.one.srt
                have ONE := Lib.hid NN.out.one
                have NX := NN
                go_wp2_with fail
                refine (one_next ONE.out).mono ?_
                rintro e w9 ⟨rfl, s9, gr9⟩
                have S9 := Lib.hid s9
                have N9 := Lib.hid (NN.out.grow s9 gr9)
                clear s9 gr9
                cases S1 with
                | nil =>
                  go_wp2_with fail
                  refine (one_len S9.out).mono ?_
                  rintro e w10 ⟨rfl, rfl⟩
                  go_wp2_with fail
                  go_roundw
                  case rel => exact ⟨i + 1, _, _, [], by go_num, by omega, by omega, by omega, N9⟩
                  case measure => simp [intOf]; omega
                | cons y9 r9 =>
                  have hm : m = y9.2 := LL.out.done NX.out.nx hrt
                  have e9 : (((y9 :: r9).head?.map (·.2)).getD 0 : Int) = m := by rw [hm]; rfl
                  have n9 : (!(y9 :: r9).isEmpty) = true := rfl
                  have l9 : decide ((0 : Int) < (((y9 :: r9).length : Nat) : Int)) = true := by rw [decide_eq_true_iff, List.length_cons]; omega
                  rw [e9, n9]
                  clear e9 n9 hm
                  obtain ⟨len9, hlen9⟩ : ∃ len9, len9 = (y9 :: r9).length := ⟨_, rfl⟩
                  rw [← hlen9] at l9
                  rw [← hlen9]
                  have HL9 := Lib.hid hlen9
                  have l9n : 0 < len9 := by rw [hlen9]; exact Nat.zero_lt_succ _
                  have l9z : ¬ len9 = 0 := by omega
                  have l9i : (0 : Int) < (len9 : Int) := by omega
                  clear hlen9
                  go_wp2_with fail
                  refine (one_len S9.out).mono ?_
                  rintro e w10 ⟨rfl, rfl⟩
                  rw [← HL9.out]
                  go_wp2_with fail
                  go_roundw
                  case rel => exact ⟨i + 1, _, _, y9 :: r9, by go_num, by omega, by omega, by omega, N9⟩
                  case measure => simp [intOf]; omega
        · go_wp2_with fail
          go_ret
          exact ⟨rfl, T.out.one.at_.end⟩
      · go_wp2_with fail
        go_ret
        exact ⟨rfl, T.out.one.at_.end⟩
    · go_wp2_with fail
      go_ret
      exact ⟨rfl, T.out.one.at_.end⟩
end Go.Proofs.Ytgfpogmipennaaa
