/- JournalKept: the law's walk. No condition of the program's own. -/
import Derived.Test.YtpfahfakinonnaaDoorK2
import Derived.Deep.RegionHeld3
import Derived.Deep.CutBlock
import Derived.Deep.DeepCutAuto
import Derived.Outline
namespace Go.Proofs.YtpfahfakinonnaaDoor
open Go.RowKit Go.Deep Go.ChangeShapes
theorem KI.row {w wr w' : World} {g q i : Nat} {recs recs' : List (List Int)} {S sx more : List Int} {dead sw : Bool} {d : DS} {K : Int} {v : Value} (h : KI w wr g q i recs S sx more dead sw d K) (hv : KR wr w.heap.size v recs') (hg : wr.grownBy w' v.ownBlock) : KI w w' g q i recs S sx more dead sw d K := by
  cases hb : v.ownBlock with
  | none => rw [hb] at hg; exact h.grow hg
  | some k =>
    rw [hb] at hg
    obtain ⟨cs, hc⟩ := own_typ hv hb
    have hkg : k ≠ g := by
      rintro rfl
      obtain ⟨vL, vS, hB, _⟩ := h.D
      unfold Blk at hB
      rw [hB] at hc
      injection hc with hc
      injection hc with _ hc _
      exact absurd hc (by decide)
    have hkq : q ≠ k := by
      rintro rfl
      have hj := h.J
      unfold Jn at hj
      rw [hj] at hc
      injection hc with hc
      injection hc with _ hc _
      exact absurd hc (by decide)
    have hk := (hv.lt k hb).1
    exact ⟨h.D.apart hc (by decide) hkg hg, (hg.block q h.J.lt (by intro e; injection e with e; exact hkq e)).trans h.J, only_step h.G hg (fun k' hk' => by cases hk'; exact .inr hk), h.sp, h.rk, h.n, h.dd, h.al, h.kz⟩
theorem new_kd (K : Int) (hK : 1 ≤ K) : KD (stopS (newS 1048576) K) [] [] K 0 := ⟨rfl, rfl, rfl, rfl, rfl, ⟨Int.le_refl _, by show (0 : Int) < K; omega⟩, ⟨Int.le_refl _, Int.le_refl _⟩, rfl⟩
theorem new_ok1 : Ok (newS 1048576) := ⟨by simp [newS], by simp [newS], by simp [newS], by constructor <;> simp [newS], by simp [newS], by simp [newS], by simp [newS]⟩
theorem new_open (B g : Nat) (w : World) (h : Dk w B g (newS 1048576)) (hT : Tab w) :
    Calls Tryd.prog 12 #[.pointer (some ⟨g, 0, none⟩)] w fun e w' => ∃ q sv lv, e = .returned (.tuple #[.pointer (some ⟨q, 0, none⟩), sv, lv, .int .i64 0]) ∧ Jn w' q g 0 ∧ w.heap.size ≤ q ∧ Dk w' B g (newS 1048576) ∧ w.grownBy w' (some g) := by
  have e0 : openE (newS 1048576) = 0 := by decide
  have eS : openS (newS 1048576) = newS 1048576 := by
    unfold openS
    rw [if_neg (by decide), if_neg (by decide), if_neg (by decide)]
  refine (open_all B g _ w h new_ok1 (by intro x hx; cases hx) (by intro x hx; cases hx) (by decide) hT).mono ?_
  rintro e w' ⟨ho, D', g'⟩
  rw [eS] at D'
  rcases ho with ⟨hne, _⟩ | ⟨_, q, sv, lv, rfl, _, _, hj, hq⟩
  · exact absurd e0 hne
  · exact ⟨q, sv, lv, rfl, hj, hq, D', g'⟩
set_option maxRecDepth 100000 in
set_option maxHeartbeats 8000000 in
theorem kept_run (A : Option Addr) (c : Nat) (L : List (List Int)) (As : Option Addr) (cs : Nat) (N : List Int) (st pk : Int) (w : World) (hA : RR w A L) (bL : ∀ l ∈ L, ∀ x ∈ l, 0 ≤ x ∧ x ≤ 255) (hN : Has w w.heap.size As (N.map (Value.int .i64))) (s1 : -9223372036854775808 ≤ st) (s2 : st ≤ 9223372036854775807) (p1 : -9223372036854775808 ≤ pk) (p2 : pk ≤ 9223372036854775807) (hT : Tab w) :
    Calls Tryd.prog 4 #[.slice A L.length c, .slice As N.length cs, .int .i64 st, .int .i64 pk] w fun e w' => e = .returned (.bool true) ∧ w.grownBy w' none := by
  have KN := Lib.hid (known_any w hT)
  obtain ⟨m, hm⟩ : ∃ m, st % 40 = m := ⟨_, rfl⟩
  have WI := Lib.hid fun W => within_any st 40 s1 s2 (by decide) (by decide) W
  rw [hm] at WI
  have m1 : 0 ≤ m := by omega
  have m2 : m < 40 := by omega
  have hK : 1 ≤ 1 + m ∧ 1 + m ≤ 40 := by omega
  have hw : IntKind.i64.wrap (1 + m) = 1 + m := by rw [IntKind.wrap_i64]; omega
  have HT := Lib.hid hT
  have HA := Lib.hid hA
  have HN := Lib.hid hN
  have BL := Lib.hid bL
  clear hm s1 s2 hT hA hN bL
  go_enter Tryd.func4, Tryd.ntmps4
  go_wp2_with fail
  refine KN.out.mono ?_
  rintro _ w0 ⟨rfl, g0⟩
  have z0 := g0.size
  have NW := Lib.hid (new_any w.heap.size 1048576 w0 (by decide) (by decide) z0)
  go_wp2_with fail
  refine NW.out.mono ?_
  rintro _ w1 ⟨g, rfl, D1, g1⟩
  have glt := D1.lt
  have g01 := only_step g0 g1 (fun _ hk => .inl hk)
  have OP := Lib.hid (new_open w.heap.size g w1 D1 (HT.out.grow g01))
  go_wp2_with fail
  refine OP.out.mono ?_
  rintro _ w2 ⟨q, sv, lv, rfl, J2, hq2, D2, g2⟩
  have hqg : q ≠ g := by omega
  have hqw : w.heap.size ≤ q := by have := g01.size; omega
  have g02 := only_step g01 g2 (fun k hk => by cases hk; exact .inr glt.1)
  clear OP NW KN
  go_wp2_with fail
  refine (WI.out _).mono ?_
  rintro _ wz ⟨rfl, hz⟩
  rw [hz]
  clear hz wz
  go_wp2_with fail
  refine (stop_any w.heap.size g _ (1 + m) _ D2).mono ?_
  rintro _ w3 ⟨rfl, D3, g3⟩
  have kd0 := new_kd (1 + m) hK.1
  have J3 : Jn w3 q g 0 := (g3.block q J2.lt (by intro e; injection e with e; exact hqg e)).trans J2
  have G3 := only_step g02 g3 (fun k hk => by cases hk; exact .inr glt.1)
  have I0 : Hid (KI w w3 g q 0 [] [] [] [] false false (stopS (newS 1048576) (1 + m)) (1 + m)) := ⟨D3, J3, G3, .inl ⟨rfl, rfl⟩, ⟨by simp, by simp⟩, Nat.le_refl _, rfl, fun _ => ⟨kd0, rfl, rfl⟩, (kd0.pc (by omega)).kz (.inl ⟨rfl, rfl⟩) ⟨by simp, by simp⟩ (by simp) (.inl rfl)⟩
  clear D1 D2 D3 J2 J3 g3 g2 g1 g0 g01 g02 G3 kd0
  go_upto_block 0 with fail
  go_cut [15, 16, 17, 18] (fun s15 s16 s17 s18 wx => ∃ (recs : List (List Int)) (S sx more : List Int) (dead sw : Bool) (d : DS) (A' : Option Addr) (c' i : Nat) (t15 t17 : ByteArray), s15 = .string t15 ∧ s16 = .slice A' recs.length c' ∧ s17 = .string t17 ∧ s18 = .bool sw ∧ Hid (t15 = strOfNums sx ∧ t17 = strOfNums more) ∧ i ≤ 30 ∧ Hid (KI w wx g q i recs S sx more dead sw d (1 + m)) ∧ Hid (KR wx w.heap.size (.slice A' recs.length c') recs))
  case first =>
    go_wp2_with fail
    go_loopw [15, 16, 17, 18, 19] (fun s15 s16 s17 s18 s19 wx => ∃ (recs : List (List Int)) (S sx more : List Int) (dead sw : Bool) (d : DS) (A' : Option Addr) (c' i : Nat) (t15 t17 : ByteArray), i ≤ L.length ∧ s19 = .int .i64 i ∧ s15 = .string t15 ∧ s16 = .slice A' recs.length c' ∧ s17 = .string t17 ∧ s18 = .bool sw ∧ Hid (t15 = strOfNums sx ∧ t17 = strOfNums more) ∧ i ≤ 30 ∧ Hid (KI w wx g q i recs S sx more dead sw d (1 + m)) ∧ Hid (KR wx w.heap.size (.slice A' recs.length c') recs)) (fun _ _ _ _ si _ => L.length - (intOf si).toNat)
    case atStart => exact ⟨[], [], [], [], false, false, _, none, 0, 0, _, _, Nat.zero_le _, rfl, rfl, rfl, rfl, rfl, ⟨rfl, rfl⟩, by omega, I0, KR.nil _ _⟩
    case round =>
      obtain ⟨recs, S, sx, more, dead, sw, d, A', c', i, t15, t17, hi, rfl, rfl, rfl, rfl, rfl, HTT, hi30, KW, HK⟩ := hrel
      by_cases hlt : i < L.length
      · have v1 : (i : Int) < (L.length : Int) := by omega
        have v0 : (0 : Int) ≤ (i : Int) := by omega
        by_cases h30 : i < 30
        · have v3 : (i : Int) < 30 := by omega
          have DD := Lib.hid (dead_any w.heap.size g d wr KW.out.D)
          rw [KW.out.dd] at DD
          cases dead
          · obtain ⟨_, rfl, rfl⟩ := KW.out.al rfl
            have vs : IntKind.i64.wrap ((i : Int) + 1) = (i : Int) + 1 := by rw [IntKind.wrap_i64]; omega
            obtain ⟨x, hx⟩ : ∃ x, L[i]? = some x := ⟨_, List.getElem?_eq_getElem hlt⟩
            have bx := Lib.hid (BL.out x (List.mem_of_getElem? hx))
            have hh := (HA.out.grow KW.out.G) i x hx
            obtain ⟨b, off, Ax, cx, rfl, hb, hc, _⟩ := hh
            have CELL := Lib.hid fun (W : World) (hW : w.grownBy W none) => show W.cell? ⟨b, off + i, none⟩ = some (.slice Ax x.length cx) from by
              obtain ⟨b', off', Ax', cx', he, hb', hc', hh'⟩ := HA.out i x hx
              injection he with he
              injection he with he1 he2
              subst he1; subst he2
              have e1 := (World.cell?_of_block (a := ⟨b, off + i, none⟩) (KW.out.G.block b hb' (by simp))).symm.trans hc
              have e2 := (World.cell?_of_block (a := ⟨b, off + i, none⟩) (hW.block b hb' (by simp)))
              exact e2.trans e1
            by_cases h2 : 200 < x.length
            · have t2 : (200 : Int) < x.length := by omega
              go_wp2_with fail
              refine DD.out.mono ?_
              rintro _ _ ⟨rfl, rfl⟩
              go_wp2_with fail
              go_ret
              exact ⟨rfl, KW.out.G⟩
            · have t2 : ¬ (200 : Int) < x.length := by omega
              have hxw : Has w w.heap.size Ax (bs x) := by
                obtain ⟨b', off', Ax', cx', he, hb', hc', hh'⟩ := HA.out i x hx
                injection he with he
                injection he with he1 he2
                subst he1; subst he2
                have e1 := (World.cell?_of_block (a := ⟨b, off + i, none⟩) (KW.out.G.block b hb' (by simp))).symm.trans hc
                rw [hc'] at e1
                injection e1 with e1
                injection e1 with e1 _ _
                subst e1
                exact hh'
              have HX := Lib.hid hxw
              clear hxw
              obtain ⟨tx, htx⟩ : ∃ tx, tx = strOfNums x := ⟨_, rfl⟩
              have HTX := Lib.hid htx
              have CONV := Lib.hid fun (W : World) (hW : w.grownBy W none) => show (convert 33 9 (.slice Ax x.length cx)).run Tryd.prog W = .ok (.string tx) W from by
                rw [HTX.out]; exact conv_string (HX.out.only hW (Nat.le_refl _) (fun _ h => by cases h)) cx
              clear htx hx
              by_cases hsn : i < N.length
              · have u1 : (i : Int) < (N.length : Int) := by omega
                obtain ⟨z, hz⟩ : ∃ z, N[i]? = some z := ⟨_, List.getElem?_eq_getElem hsn⟩
                have hzv : (N.map (Value.int .i64))[i]? = some (.int .i64 z) := by rw [List.getElem?_map, hz]; rfl
                obtain ⟨bn, on, rfl, hbn, hcn⟩ : ∃ bn on, As = some ⟨bn, on, none⟩ ∧ bn < w.heap.size ∧ w.cell? ⟨bn, on + i, none⟩ = some (.int .i64 z) := by
                  rcases HN.out with h0 | ⟨bn, on, hA, hb, hc⟩
                  · rw [h0] at hzv; simp at hzv
                  · exact ⟨bn, on, hA, hb, hc i _ hzv⟩
                have CN : wr.cell? ⟨bn, on + i, none⟩ = some (.int .i64 z) := (World.cell?_of_block (KW.out.G.block bn hbn (by simp))).trans hcn
                clear hcn hzv hz
                cases hz4 : (z.tmod 4 == 0)
                · go_wp2_with fail
                  refine DD.out.mono ?_
                  rintro _ _ ⟨rfl, rfl⟩
                  clear DD
                  have AD := Lib.hid (ki_add KW.out h30 hK hqg hqw Ax cx x HX.out bx.out (by omega) HT.out w.heap.size _ HK.out)
                  go_wp2_with fail
                  refine AD.out.mono ?_
                  rintro _ w3 ⟨k3, h3⟩
                  rcases h3 with ⟨rfl, d3, j3⟩ | ⟨r3, hr3, rfl, d3, j3⟩
                  · have J3 := Lib.hid j3
                    have K3 := Lib.hid k3
                    have G3 := J3.out.G
                    have CL := CELL.out _ G3
                    have CV := CONV.out _ G3
                    have own2 : Hid ((w3.alloc (.cells #[.string tx] 9)).ownsRow w.heap.size 9 1 (.slice A' recs.length c') (strV recs).length (strV recs)) := K3.out.grow (World.grownBy_alloc w3 _ none)
                    have elen : (strV recs).length + 1 ≤ 1099511627776 := by rw [strV_len]; have := KW.out.n; omega
                    have zz : w.heap.size ≤ (w3.alloc (.cells #[.string tx] 9)).heap.size := Nat.le_trans G3.size (World.grownBy_alloc w3 _ none).size
                    clear k3 j3 AD hc
                    go_wp2_with (at_builtin; refine app_strs rfl _ _ 55 rfl w.heap.size (.slice A' recs.length c') (strV recs) rfl own2.out (.slice (some ⟨w3.heap.size, 0, none⟩) 1 1) [.string tx] rfl (src_str w3 tx) elen zz ?_; intro v5 w5 g5; have K5 : Hid (KR w5 w.heap.size v5 (recs ++ [x])) := (by show KR _ _ _ _; have h := g5.own; have e : strV recs ++ [Value.string tx] = strV (recs ++ [x]) := (by rw [HTX.out]; simp [strV]); rw [e] at h; exact h); have J5 : Hid (KI w w5 g q (i + 1) (recs ++ [x]) S sx [] false false d3 (1 + m)) := (J3.out.grow (World.grownBy_alloc w3 _ none)).row own2.out g5.only; clear g5; obtain ⟨A5, c5, rfl⟩ := K5.out.form)
                    exact ⟨⟨(recs ++ [x]), S, sx, [], false, false, d3, A5, c5, i + 1, t15, t17, by omega, by go_num, rfl, (by simp), rfl, rfl, HTT, h30, J5, K5⟩, (by simp [intOf]; omega)⟩
                  · have J3 := Lib.hid j3
                    have K3 := Lib.hid k3
                    have G3 := J3.out.G
                    have CL := CELL.out _ G3
                    have CV := CONV.out _ G3
                    have b3 : (r3 == 0) = false := by rw [beq_eq_false_iff_ne]; exact hr3
                    clear k3 j3 AD hc
                    go_wp2_with fail
                    exact ⟨⟨recs, S, sx, x, true, false, d3, A', c', i + 1, t15, tx, by omega, by go_num, rfl, rfl, rfl, rfl, ⟨HTT.out.1, HTX.out⟩, h30, J3, K3⟩, (by simp [intOf]; omega)⟩
                · go_wp2_with fail
                  refine DD.out.mono ?_
                  rintro _ _ ⟨rfl, rfl⟩
                  clear DD
                  have AD := Lib.hid (ki_swap KW.out h30 hK hqg hqw Ax cx x HX.out bx.out (by omega) HT.out w.heap.size _ HK.out)
                  go_wp2_with fail
                  refine AD.out.mono ?_
                  rintro _ w3 ⟨k3, h3⟩
                  rcases h3 with ⟨rfl, d3, j3⟩ | ⟨r3, hr3, rfl, d3, j3⟩
                  · have J3 := Lib.hid j3
                    have G3 := J3.out.G
                    have CL := CELL.out _ G3
                    have CV := CONV.out _ G3
                    clear k3 j3 AD hc
                    go_wp2_with fail
                    exact ⟨⟨[], (frP x), x, [], false, false, d3, none, 0, i + 1, tx, t17, by omega, by go_num, rfl, rfl, rfl, rfl, ⟨HTX.out, HTT.out.2⟩, h30, J3, KR.nil _ _⟩, (by simp [intOf]; omega)⟩
                  · have J3 := Lib.hid j3
                    have K3 := Lib.hid k3
                    have G3 := J3.out.G
                    have CL := CELL.out _ G3
                    have CV := CONV.out _ G3
                    have b3 : (r3 == 0) = false := by rw [beq_eq_false_iff_ne]; exact hr3
                    clear k3 j3 AD hc
                    go_wp2_with fail
                    exact ⟨⟨recs, S, sx, x, true, true, d3, A', c', i + 1, t15, tx, by omega, by go_num, rfl, rfl, rfl, rfl, ⟨HTT.out.1, HTX.out⟩, h30, J3, K3⟩, (by simp [intOf]; omega)⟩
              · have u1 : ¬ (i : Int) < (N.length : Int) := by omega
                go_wp2_with fail
                refine DD.out.mono ?_
                rintro _ _ ⟨rfl, rfl⟩
                clear DD
                have AD := Lib.hid (ki_add KW.out h30 hK hqg hqw Ax cx x HX.out bx.out (by omega) HT.out w.heap.size _ HK.out)
                go_wp2_with fail
                refine AD.out.mono ?_
                rintro _ w3 ⟨k3, h3⟩
                rcases h3 with ⟨rfl, d3, j3⟩ | ⟨r3, hr3, rfl, d3, j3⟩
                · have J3 := Lib.hid j3
                  have K3 := Lib.hid k3
                  have G3 := J3.out.G
                  have CL := CELL.out _ G3
                  have CV := CONV.out _ G3
                  have own2 : Hid ((w3.alloc (.cells #[.string tx] 9)).ownsRow w.heap.size 9 1 (.slice A' recs.length c') (strV recs).length (strV recs)) := K3.out.grow (World.grownBy_alloc w3 _ none)
                  have elen : (strV recs).length + 1 ≤ 1099511627776 := by rw [strV_len]; have := KW.out.n; omega
                  have zz : w.heap.size ≤ (w3.alloc (.cells #[.string tx] 9)).heap.size := Nat.le_trans G3.size (World.grownBy_alloc w3 _ none).size
                  clear k3 j3 AD hc
                  go_wp2_with (at_builtin; refine app_strs rfl _ _ 55 rfl w.heap.size (.slice A' recs.length c') (strV recs) rfl own2.out (.slice (some ⟨w3.heap.size, 0, none⟩) 1 1) [.string tx] rfl (src_str w3 tx) elen zz ?_; intro v5 w5 g5; have K5 : Hid (KR w5 w.heap.size v5 (recs ++ [x])) := (by show KR _ _ _ _; have h := g5.own; have e : strV recs ++ [Value.string tx] = strV (recs ++ [x]) := (by rw [HTX.out]; simp [strV]); rw [e] at h; exact h); have J5 : Hid (KI w w5 g q (i + 1) (recs ++ [x]) S sx [] false false d3 (1 + m)) := (J3.out.grow (World.grownBy_alloc w3 _ none)).row own2.out g5.only; clear g5; obtain ⟨A5, c5, rfl⟩ := K5.out.form)
                  exact ⟨⟨(recs ++ [x]), S, sx, [], false, false, d3, A5, c5, i + 1, t15, t17, by omega, by go_num, rfl, (by simp), rfl, rfl, HTT, h30, J5, K5⟩, (by simp [intOf]; omega)⟩
                · have J3 := Lib.hid j3
                  have K3 := Lib.hid k3
                  have G3 := J3.out.G
                  have CL := CELL.out _ G3
                  have CV := CONV.out _ G3
                  have b3 : (r3 == 0) = false := by rw [beq_eq_false_iff_ne]; exact hr3
                  clear k3 j3 AD hc
                  go_wp2_with fail
                  exact ⟨⟨recs, S, sx, x, true, false, d3, A', c', i + 1, t15, tx, by omega, by go_num, rfl, rfl, rfl, rfl, ⟨HTT.out.1, HTX.out⟩, h30, J3, K3⟩, (by simp [intOf]; omega)⟩
          · go_wp2_with fail
            refine DD.out.mono ?_
            rintro _ _ ⟨rfl, rfl⟩
            go_wp2_with fail
            go_meet
            exact ⟨recs, S, sx, more, true, sw, d, A', c', i, t15, t17, rfl, rfl, rfl, rfl, HTT, hi30, KW, HK⟩
        · have v3 : ¬ (i : Int) < 30 := by omega
          go_wp2_with fail
          go_meet
          exact ⟨recs, S, sx, more, dead, sw, d, A', c', i, t15, t17, rfl, rfl, rfl, rfl, HTT, hi30, KW, HK⟩
      · have v1 : ¬ (i : Int) < (L.length : Int) := by omega
        go_wp2_with fail
        go_meet
        exact ⟨recs, S, sx, more, dead, sw, d, A', c', i, t15, t17, rfl, rfl, rfl, rfl, HTT, hi30, KW, HK⟩
  case rest =>
    obtain ⟨recs, S, sx, more, dead, sw, d, A', c', i, t15, t17, rfl, rfl, rfl, rfl, HTT, hi30, KW, HK⟩ := hcut
    clear I0 WI
    have DD := Lib.hid (dead_any w.heap.size g d wc KW.out.D)
    rw [KW.out.dd] at DD
    have ST := Lib.hid (stop_any w.heap.size g d 0 wc KW.out.D)
    go_wp2_with fail
    refine DD.out.mono ?_
    rintro _ _ ⟨rfl, rfl⟩
    go_wp2_with fail
    refine ST.out.mono ?_
    rintro _ w4 ⟨rfl, D4, g4⟩
    have K4 := Lib.hid (HK.out.disk KW.out.D g4)
    have G4 := Lib.hid (only_step KW.out.G g4 (fun k hk => by cases hk; exact .inr glt.1))
    have CR := Lib.hid (crash_any w.heap.size g _ pk w4 D4 KW.out.kz.1 p1 p2)
    have D4' := Lib.hid D4
    clear DD ST D4 g4
    go_wp2_with fail
    refine CR.out.mono ?_
    rintro _ w5 ⟨rfl, D5, g5⟩
    have K5 := Lib.hid (K4.out.disk D4'.out g5)
    have G5 := Lib.hid (only_step G4.out g5 (fun k hk => by cases hk; exact .inr glt.1))
    have OP := Lib.hid (kept_open KW.out.kz pk D5 G5.out HT.out w.heap.size _ K5.out)
    clear CR D5 g5
    go_wp2_with fail
    refine OP.out.mono ?_
    rintro _ w9 ⟨R, s', q9, sv, Al, cl, rfl, cv9, rw9, k9, g9, hcase⟩
    have RW := Lib.hid rw9
    have G9 := Lib.hid g9
    have HKA : Hid (∀ j y, recs[j]? = some y → ∃ b', A' = some ⟨b', 0, none⟩ ∧ b' < w9.heap.size ∧ w9.cell? ⟨b', j, none⟩ = some (.string (strOfNums y))) := by
      intro j y hy
      have hjl : j < recs.length := (List.getElem?_eq_some_iff.1 hy).1
      obtain ⟨gb, cap, hv, _⟩ := own_form k9 (by rw [strV_len]; omega)
      injection hv with e1 e2 e3
      subst e1
      have hc := k9.cells (g := gb) rfl j (.string (strOfNums y)) (by simp [strV, hy])
      rw [Addr.add_lit, Nat.zero_add] at hc
      exact ⟨gb, rfl, (k9.lt gb rfl).2, hc⟩
    have CV := cv9 w9 (only_refl _ _)
    clear OP rw9 g9 k9 cv9
    rcases hcase with ⟨rfl, rfl⟩ | ⟨rfl, rfl, rfl, rfl⟩ | ⟨rfl, rfl, rfl, rfl⟩
    · rw [← HTT.out.1] at CV
      have q1 : ¬ ((R.length : Int) < (R.length : Int)) := by omega
      have q2 : IntKind.i64.wrap ((R.length : Int) + 1) = (R.length : Int) + 1 := by have := KW.out.n; rw [IntKind.wrap_i64]; omega
      have q3 : ¬ ((R.length : Int) + 1 < (R.length : Int)) := by omega
      cases dead
      · obtain ⟨_, rfl, rfl⟩ := KW.out.al rfl
        go_wp2_with fail
        have hlr : R.length ≤ 30 := by have := KW.out.n; omega
        go_loopw [25] (fun sj wj => ∃ j : Nat, j ≤ R.length ∧ sj = .int .i64 j ∧ Hid (w9.grownBy wj none)) (fun sj _ => R.length - (intOf sj).toNat)
        case atStart => exact ⟨0, Nat.zero_le _, rfl, only_refl _ _⟩
        case round =>
          obtain ⟨j, hj, rfl, GJ⟩ := hrel
          by_cases hjl : j < R.length
          · have v1 : (j : Int) < (R.length : Int) := by omega
            have v0 : (0 : Int) ≤ (j : Int) := by omega
            have v2 : (j : Int) < ((R.length : Nat) : Int) := by omega
            have v2' : (j : Int) < (R.length : Int) + 1 := by omega
            have vs : IntKind.i64.wrap ((j : Int) + 1) = (j : Int) + 1 := by rw [IntKind.wrap_i64]; omega
            obtain ⟨y, hy⟩ : ∃ y, R[j]? = some y := ⟨_, List.getElem?_eq_getElem hjl⟩
            obtain ⟨b, off, Ay, cy, rfl, hb, hc, hh⟩ := RW.out j y (by exact hy)
            obtain ⟨b', rfl, hb', hk'⟩ := HKA.out j y hy
            obtain ⟨ty, hty⟩ : ∃ t, strOfNums y = t := ⟨_, rfl⟩
            have G2 : w9.grownBy wr.drew none := only_drew GJ.out
            have SD : Hid (wr.drew.cell? ⟨b, off + j, none⟩ = some (.slice Ay y.length cy) ∧ wr.drew.cell? ⟨b', j, none⟩ = some (.string ty) ∧ (convert 33 9 (.slice Ay y.length cy)).run Tryd.prog wr.drew = .ok (.string ty) wr.drew) := by
              refine ⟨(World.cell?_of_block (G2.block b hb (by simp))).trans hc, (World.cell?_of_block (G2.block b' hb' (by simp))).trans (by rw [← hty]; exact hk'), ?_⟩
              rw [← hty]; exact conv_string (hh.only G2 (Nat.le_refl _) (fun _ h => by cases h)) cy
            have GD := Lib.hid G2
            clear hc hh hk' hty hy G2
            go_wp2_with fail
            go_region_held3 (fun V => V.cell? ⟨b, off + j, none⟩ = some (.slice Ay y.length cy) ∧ V.cell? ⟨b', j, none⟩ = some (.string ty) ∧ (convert 33 9 (.slice Ay y.length cy)).run Tryd.prog V = .ok (.string ty) V) (first | exact SD.out) ((first | fail))
            go_wp2_with fail
            exact ⟨⟨j + 1, by omega, by go_num, GD⟩, by simp [intOf]; omega⟩
          · have v1 : ¬ (j : Int) < (R.length : Int) := by omega
            go_wp2_with fail
            go_ret
            exact ⟨rfl, only_step G9.out GJ.out (fun _ hk => .inl hk)⟩
      · cases sw
        · as_aux_lemma =>
            go_wp2_with fail
            have hlr : R.length ≤ 30 := by have := KW.out.n; omega
            go_loopw [25] (fun sj wj => ∃ j : Nat, j ≤ R.length ∧ sj = .int .i64 j ∧ Hid (w9.grownBy wj none)) (fun sj _ => R.length - (intOf sj).toNat)
            case atStart => exact ⟨0, Nat.zero_le _, rfl, only_refl _ _⟩
            case round =>
              obtain ⟨j, hj, rfl, GJ⟩ := hrel
              by_cases hjl : j < R.length
              · have v1 : (j : Int) < (R.length : Int) := by omega
                have v0 : (0 : Int) ≤ (j : Int) := by omega
                have v2 : (j : Int) < ((R.length : Nat) : Int) := by omega
                have v2' : (j : Int) < (R.length : Int) + 1 := by omega
                have vs : IntKind.i64.wrap ((j : Int) + 1) = (j : Int) + 1 := by rw [IntKind.wrap_i64]; omega
                obtain ⟨y, hy⟩ : ∃ y, R[j]? = some y := ⟨_, List.getElem?_eq_getElem hjl⟩
                obtain ⟨b, off, Ay, cy, rfl, hb, hc, hh⟩ := RW.out j y (by exact hy)
                obtain ⟨b', rfl, hb', hk'⟩ := HKA.out j y hy
                obtain ⟨ty, hty⟩ : ∃ t, strOfNums y = t := ⟨_, rfl⟩
                have G2 : w9.grownBy wr.drew none := only_drew GJ.out
                have SD : Hid (wr.drew.cell? ⟨b, off + j, none⟩ = some (.slice Ay y.length cy) ∧ wr.drew.cell? ⟨b', j, none⟩ = some (.string ty) ∧ (convert 33 9 (.slice Ay y.length cy)).run Tryd.prog wr.drew = .ok (.string ty) wr.drew) := by
                  refine ⟨(World.cell?_of_block (G2.block b hb (by simp))).trans hc, (World.cell?_of_block (G2.block b' hb' (by simp))).trans (by rw [← hty]; exact hk'), ?_⟩
                  rw [← hty]; exact conv_string (hh.only G2 (Nat.le_refl _) (fun _ h => by cases h)) cy
                have GD := Lib.hid G2
                clear hc hh hk' hty hy G2
                go_wp2_with fail
                go_region_held3 (fun V => V.cell? ⟨b, off + j, none⟩ = some (.slice Ay y.length cy) ∧ V.cell? ⟨b', j, none⟩ = some (.string ty) ∧ (convert 33 9 (.slice Ay y.length cy)).run Tryd.prog V = .ok (.string ty) V) (first | exact SD.out) ((first | fail))
                go_wp2_with fail
                exact ⟨⟨j + 1, by omega, by go_num, GD⟩, by simp [intOf]; omega⟩
              · have v1 : ¬ (j : Int) < (R.length : Int) := by omega
                go_wp2_with fail
                go_ret
                exact ⟨rfl, only_step G9.out GJ.out (fun _ hk => .inl hk)⟩
        · cases hst : (t15.toList == t17.toList)
          · as_aux_lemma =>
              go_wp2_with fail
              have hlr : R.length ≤ 30 := by have := KW.out.n; omega
              go_loopw [25] (fun sj wj => ∃ j : Nat, j ≤ R.length ∧ sj = .int .i64 j ∧ Hid (w9.grownBy wj none)) (fun sj _ => R.length - (intOf sj).toNat)
              case atStart => exact ⟨0, Nat.zero_le _, rfl, only_refl _ _⟩
              case round =>
                obtain ⟨j, hj, rfl, GJ⟩ := hrel
                by_cases hjl : j < R.length
                · have v1 : (j : Int) < (R.length : Int) := by omega
                  have v0 : (0 : Int) ≤ (j : Int) := by omega
                  have v2 : (j : Int) < ((R.length : Nat) : Int) := by omega
                  have v2' : (j : Int) < (R.length : Int) + 1 := by omega
                  have vs : IntKind.i64.wrap ((j : Int) + 1) = (j : Int) + 1 := by rw [IntKind.wrap_i64]; omega
                  obtain ⟨y, hy⟩ : ∃ y, R[j]? = some y := ⟨_, List.getElem?_eq_getElem hjl⟩
                  obtain ⟨b, off, Ay, cy, rfl, hb, hc, hh⟩ := RW.out j y (by exact hy)
                  obtain ⟨b', rfl, hb', hk'⟩ := HKA.out j y hy
                  obtain ⟨ty, hty⟩ : ∃ t, strOfNums y = t := ⟨_, rfl⟩
                  have G2 : w9.grownBy wr.drew none := only_drew GJ.out
                  have SD : Hid (wr.drew.cell? ⟨b, off + j, none⟩ = some (.slice Ay y.length cy) ∧ wr.drew.cell? ⟨b', j, none⟩ = some (.string ty) ∧ (convert 33 9 (.slice Ay y.length cy)).run Tryd.prog wr.drew = .ok (.string ty) wr.drew) := by
                    refine ⟨(World.cell?_of_block (G2.block b hb (by simp))).trans hc, (World.cell?_of_block (G2.block b' hb' (by simp))).trans (by rw [← hty]; exact hk'), ?_⟩
                    rw [← hty]; exact conv_string (hh.only G2 (Nat.le_refl _) (fun _ h => by cases h)) cy
                  have GD := Lib.hid G2
                  clear hc hh hk' hty hy G2
                  go_wp2_with fail
                  go_region_held3 (fun V => V.cell? ⟨b, off + j, none⟩ = some (.slice Ay y.length cy) ∧ V.cell? ⟨b', j, none⟩ = some (.string ty) ∧ (convert 33 9 (.slice Ay y.length cy)).run Tryd.prog V = .ok (.string ty) V) (first | exact SD.out) ((first | fail))
                  go_wp2_with fail
                  exact ⟨⟨j + 1, by omega, by go_num, GD⟩, by simp [intOf]; omega⟩
                · have v1 : ¬ (j : Int) < (R.length : Int) := by omega
                  go_wp2_with fail
                  go_ret
                  exact ⟨rfl, only_step G9.out GJ.out (fun _ hk => .inl hk)⟩
          · by_cases h0 : R.length = 0
            · have h00 : ((R.length : Int) == 0) = true := by rw [beq_iff_eq]; omega
              go_wp2_with fail
              go_ret
              exact ⟨rfl, G9.out⟩
            · have h00 : ((R.length : Int) == 0) = false := by rw [beq_eq_false_iff_ne]; omega
              as_aux_lemma =>
                go_wp2_with fail
                have hlr : R.length ≤ 30 := by have := KW.out.n; omega
                go_loopw [25] (fun sj wj => ∃ j : Nat, j ≤ R.length ∧ sj = .int .i64 j ∧ Hid (w9.grownBy wj none)) (fun sj _ => R.length - (intOf sj).toNat)
                case atStart => exact ⟨0, Nat.zero_le _, rfl, only_refl _ _⟩
                case round =>
                  obtain ⟨j, hj, rfl, GJ⟩ := hrel
                  by_cases hjl : j < R.length
                  · have v1 : (j : Int) < (R.length : Int) := by omega
                    have v0 : (0 : Int) ≤ (j : Int) := by omega
                    have v2 : (j : Int) < ((R.length : Nat) : Int) := by omega
                    have v2' : (j : Int) < (R.length : Int) + 1 := by omega
                    have vs : IntKind.i64.wrap ((j : Int) + 1) = (j : Int) + 1 := by rw [IntKind.wrap_i64]; omega
                    obtain ⟨y, hy⟩ : ∃ y, R[j]? = some y := ⟨_, List.getElem?_eq_getElem hjl⟩
                    obtain ⟨b, off, Ay, cy, rfl, hb, hc, hh⟩ := RW.out j y (by exact hy)
                    obtain ⟨b', rfl, hb', hk'⟩ := HKA.out j y hy
                    obtain ⟨ty, hty⟩ : ∃ t, strOfNums y = t := ⟨_, rfl⟩
                    have G2 : w9.grownBy wr.drew none := only_drew GJ.out
                    have SD : Hid (wr.drew.cell? ⟨b, off + j, none⟩ = some (.slice Ay y.length cy) ∧ wr.drew.cell? ⟨b', j, none⟩ = some (.string ty) ∧ (convert 33 9 (.slice Ay y.length cy)).run Tryd.prog wr.drew = .ok (.string ty) wr.drew) := by
                      refine ⟨(World.cell?_of_block (G2.block b hb (by simp))).trans hc, (World.cell?_of_block (G2.block b' hb' (by simp))).trans (by rw [← hty]; exact hk'), ?_⟩
                      rw [← hty]; exact conv_string (hh.only G2 (Nat.le_refl _) (fun _ h => by cases h)) cy
                    have GD := Lib.hid G2
                    clear hc hh hk' hty hy G2
                    go_wp2_with fail
                    go_region_held3 (fun V => V.cell? ⟨b, off + j, none⟩ = some (.slice Ay y.length cy) ∧ V.cell? ⟨b', j, none⟩ = some (.string ty) ∧ (convert 33 9 (.slice Ay y.length cy)).run Tryd.prog V = .ok (.string ty) V) (first | exact SD.out) ((first | fail))
                    go_wp2_with fail
                    exact ⟨⟨j + 1, by omega, by go_num, GD⟩, by simp [intOf]; omega⟩
                  · have v1 : ¬ (j : Int) < (R.length : Int) := by omega
                    go_wp2_with fail
                    go_ret
                    exact ⟨rfl, only_step G9.out GJ.out (fun _ hk => .inl hk)⟩
    · rw [← HTT.out.1] at CV
      have e1 : (recs ++ [more]).length = recs.length + 1 := by simp
      rw [e1]
      have q1 : ¬ ((recs.length : Int) + 1 < (recs.length : Int)) := by omega
      have q2 : IntKind.i64.wrap ((recs.length : Int) + 1) = (recs.length : Int) + 1 := by have := KW.out.n; rw [IntKind.wrap_i64]; omega
      have q3 : ¬ ((recs.length : Int) + 1 < (recs.length : Int) + 1) := by omega
      clear e1
      go_wp2_with fail
      have hlr : recs.length ≤ 30 := by have := KW.out.n; omega
      go_loopw [25] (fun sj wj => ∃ j : Nat, j ≤ recs.length ∧ sj = .int .i64 j ∧ Hid (w9.grownBy wj none)) (fun sj _ => recs.length - (intOf sj).toNat)
      case atStart => exact ⟨0, Nat.zero_le _, rfl, only_refl _ _⟩
      case round =>
        obtain ⟨j, hj, rfl, GJ⟩ := hrel
        by_cases hjl : j < recs.length
        · have v1 : (j : Int) < (recs.length : Int) := by omega
          have v0 : (0 : Int) ≤ (j : Int) := by omega
          have v2 : (j : Int) < ((recs.length + 1 : Nat) : Int) := by omega
          have v2' : (j : Int) < (recs.length : Int) + 1 := by omega
          have vs : IntKind.i64.wrap ((j : Int) + 1) = (j : Int) + 1 := by rw [IntKind.wrap_i64]; omega
          obtain ⟨y, hy⟩ : ∃ y, recs[j]? = some y := ⟨_, List.getElem?_eq_getElem hjl⟩
          obtain ⟨b, off, Ay, cy, rfl, hb, hc, hh⟩ := RW.out j y (by rw [List.getElem?_append_left hjl]; exact hy)
          obtain ⟨b', rfl, hb', hk'⟩ := HKA.out j y hy
          obtain ⟨ty, hty⟩ : ∃ t, strOfNums y = t := ⟨_, rfl⟩
          have G2 : w9.grownBy wr.drew none := only_drew GJ.out
          have SD : Hid (wr.drew.cell? ⟨b, off + j, none⟩ = some (.slice Ay y.length cy) ∧ wr.drew.cell? ⟨b', j, none⟩ = some (.string ty) ∧ (convert 33 9 (.slice Ay y.length cy)).run Tryd.prog wr.drew = .ok (.string ty) wr.drew) := by
            refine ⟨(World.cell?_of_block (G2.block b hb (by simp))).trans hc, (World.cell?_of_block (G2.block b' hb' (by simp))).trans (by rw [← hty]; exact hk'), ?_⟩
            rw [← hty]; exact conv_string (hh.only G2 (Nat.le_refl _) (fun _ h => by cases h)) cy
          have GD := Lib.hid G2
          clear hc hh hk' hty hy G2
          go_wp2_with fail
          go_region_held3 (fun V => V.cell? ⟨b, off + j, none⟩ = some (.slice Ay y.length cy) ∧ V.cell? ⟨b', j, none⟩ = some (.string ty) ∧ (convert 33 9 (.slice Ay y.length cy)).run Tryd.prog V = .ok (.string ty) V) (first | exact SD.out) ((first | fail))
          go_wp2_with fail
          exact ⟨⟨j + 1, by omega, by go_num, GD⟩, by simp [intOf]; omega⟩
        · have v1 : ¬ (j : Int) < (recs.length : Int) := by omega
          obtain ⟨b, off, Ay, cy, rfl, hb, hc, hh⟩ := RW.out recs.length more (by simp)
          have y0 : (0 : Int) ≤ (recs.length : Int) := by omega
          have y1 : (recs.length : Int) < (recs.length : Int) + 1 := by omega
          have y2 : ((recs.length : Int) + 1 == (recs.length : Int)) = false := by rw [beq_eq_false_iff_ne]; omega
          have CC : wr.cell? ⟨b, off + recs.length, none⟩ = some (.slice Ay more.length cy) := (World.cell?_of_block (GJ.out.block b hb (by simp))).trans hc
          have CV2 : (convert 33 9 (.slice Ay more.length cy)).run Tryd.prog wr = .ok (.string t17) wr := by rw [HTT.out.2]; exact conv_string (hh.only GJ.out (Nat.le_refl _) (fun _ h => by cases h)) cy
          clear hc hh
          go_wp2_with fail
          go_ret
          exact ⟨rfl, only_step G9.out GJ.out (fun _ hk => .inl hk)⟩
    · rw [← HTT.out.2] at CV
      go_wp2_with fail
      go_ret
      exact ⟨rfl, G9.out⟩
end Go.Proofs.YtpfahfakinonnaaDoor
