/- The law's within, known, same, Of. No condition of the program's own. -/
import Derived.Test.YtlanldjpafkckaaVs
namespace Go.Proofs.Ytlanldjpafkckaa
open Go.RowKit Go.Deep

theorem within_any (n m : Int) (h1 : -9223372036854775808 ≤ n) (h2 : n ≤ 9223372036854775807) (m1 : 1 ≤ m) (m2 : m ≤ 9223372036854775807) (w : World) :
    Calls Try.prog 11 #[.int .i64 n, .int .i64 m] w fun e w' => e = .returned (.int .i64 (n % m)) ∧ w = w' := by
  have hb1 := Int.emod_nonneg n (show m ≠ 0 by omega)
  have hb2 := Int.emod_lt_of_pos n (show 0 < m by omega)
  by_cases hn : 0 ≤ n
  · have ht : ¬ n % m < 0 := by omega
    go_enter Try.func11, Try.ntmps11
    go_wp2
    go_ret
    exact ⟨rfl, rfl⟩
  · have e : n.tmod m = if n % m = 0 then 0 else n % m - m := by
      have h := @Int.tmod_eq_emod n m
      rw [h]
      by_cases h0 : n % m = 0
      · rw [if_pos h0, if_pos (by right; exact Int.dvd_of_emod_eq_zero h0), h0]; rfl
      · rw [if_neg h0, if_neg (by
          rintro (h | h)
          · exact hn h
          · exact h0 (Int.emod_eq_zero_of_dvd h))]
        omega
    by_cases h0 : n % m = 0
    · rw [if_pos h0] at e
      have E := Lib.hid h0
      clear h0
      go_enter Try.func11, Try.ntmps11
      go_wp2
      go_ret
      exact ⟨by rw [E.out]; rfl, rfl⟩
    · rw [if_neg h0] at e
      obtain ⟨r, hr⟩ : ∃ r, r = n % m := ⟨_, rfl⟩
      rw [← hr] at e hb1 hb2 h0
      have E := Lib.hid hr
      clear hr
      have ht : r - m < 0 := by omega
      go_enter Try.func11, Try.ntmps11
      go_wp2
      go_ret
      exact ⟨by rw [← E.out]; congr 2, rfl⟩
theorem tdiv_in (n m : Int) (hm : 0 < m) (h1 : -9223372036854775808 ≤ n) (h2 : n ≤ 9223372036854775807) : -9223372036854775808 ≤ n.tdiv m ∧ n.tdiv m ≤ 9223372036854775807 := by
  have := Int.natAbs_tdiv_le_natAbs n m
  by_cases h0 : 0 ≤ n
  · have := Int.tdiv_nonneg h0 (Int.le_of_lt hm); omega
  · have h3 : n.tdiv m = -((-n).tdiv m) := by rw [Int.neg_tdiv, Int.neg_neg]
    have := Int.tdiv_nonneg (show 0 ≤ -n by omega) (Int.le_of_lt hm)
    omega
def is_ (l : List Int) : List Value := l.map (Value.int .i64)
def In7 (y : E3) : Prop := (0 ≤ y.1 ∧ y.1 ≤ 2) ∧ (1 ≤ y.2.1 ∧ y.2.1 ≤ 2) ∧ 1 ≤ y.2.2 ∧ y.2.2 ≤ 5
structure Ok7 (l : List E3) : Prop where
  srt : Srt l
  ins : ∀ y ∈ l, In7 y
  len : l.length ≤ 12
theorem Ok7.pos {l : List E3} (h : Ok7 l) : Pos l := fun y hy => (h.ins y hy).2.2.1
theorem known_any (w : World) : Calls Try.prog 9 #[] w fun e w' => e = .returned (.bool true) ∧ w.grownBy w' none := by
  have v0 : Vw w w.heap.size none 0 [] := ⟨Has.nil, Nat.le_refl _, fun _ => rfl⟩
  have HS := Lib.hid (step_any none 0 [] (1, 1, 3) w v0 List.Pairwise.nil (by simp))
  go_enter Try.func9, Try.ntmps9
  go_wp2_with fail
  refine HS.out.mono ?_
  rintro _ w1 ⟨v, rfl, ho, hg⟩
  have e1 : sErr [] (1, 1, 3) = 0 := by decide
  have e2 : sRow [] (1, 1, 3) = [(1, 1, 3)] := by decide
  rw [e1]
  rw [e2] at ho
  clear e1 e2
  obtain ⟨A, c, rfl⟩ := own_slice_w ho
  obtain ⟨g, rfl, _, hgs, _, hc⟩ := own_form_w ho (by simp)
  have VW := (Vw.own ho).1
  have HG := Lib.hid (get_any (some ⟨g, 0, none⟩) c [(1, 1, 3)] 1 1 w1 VW.has (List.pairwise_singleton _ _) (by simp))
  have c2 : w1.cell? ⟨g, 2, none⟩ = some (.int .i64 3) := hc 2 _ rfl
  rw [show vget [(1, 1, 3)] 1 1 = 3 by decide] at HG
  clear HS ho VW hc v0
  simp only [List.length_singleton] at HG ⊢
  go_wp2_with fail
  refine HG.out.mono ?_
  rintro _ w2 ⟨rfl, g2⟩
  go_wp2_with fail
  go_ret
  exact ⟨rfl, only_step hg g2 (fun _ h => by cases h)⟩

theorem e3_ext {x y : E3} : x = y ↔ x.1 = y.1 ∧ x.2.1 = y.2.1 ∧ x.2.2 = y.2.2 := by
  obtain ⟨a, b, c⟩ := x
  obtain ⟨a', b', c'⟩ := y
  simp
set_option maxRecDepth 100000 in
set_option maxHeartbeats 1000000 in
theorem same_any (A : Option Addr) (c : Nat) (l : List E3) (A' : Option Addr) (c' : Nat) (m : List E3) (w : World) (h : Has w w.heap.size A (dc l)) (h' : Has w w.heap.size A' (dc m)) (hl : l.length ≤ 1099511627776) (r : Bool) (hr : r = true ↔ l = m) :
    Calls Try.prog 14 #[.slice A l.length c, .slice A' m.length c'] w fun e' w' => e' = .returned (.bool r) ∧ w.grownBy w' none := by
  have HA := Lib.hid h
  have HB := Lib.hid h'
  have HR := Lib.hid hr
  clear h h' hr
  by_cases hn : l.length = m.length
  · have t0 : ((l.length : Int) != (m.length : Int)) = false := by simp [hn]
    have HN := Lib.hid hn
    clear hn
    go_enter Try.func14, Try.ntmps14
    go_wp2_with fail
    go_loopw [5] (fun si wr => ∃ i : Nat, i ≤ l.length ∧ si = .int .i64 i ∧ Hid (l.take i = m.take i) ∧ Hid (w.grownBy wr none)) (fun si _ => l.length - (intOf si).toNat)
    case atStart => exact ⟨0, Nat.zero_le _, rfl, rfl, only_refl _ _⟩
    case round =>
      obtain ⟨i, hi, rfl, HT, hG⟩ := hrel
      by_cases hlt : i < l.length
      · have u1 : (i : Int) < (l.length : Int) := by omega
        have hltm : i < m.length := by rw [← HN.out]; exact hlt
        have u2 : (i : Int) < (m.length : Int) := by omega
        have u0 : (0 : Int) ≤ (i : Int) := by omega
        have hes : IntKind.i64.wrap ((i : Int) + 1) = (i : Int) + 1 := by rw [IntKind.wrap_i64]; omega
        obtain ⟨x, hx⟩ : ∃ y, l[i]? = some y := ⟨_, List.getElem?_eq_getElem hlt⟩
        obtain ⟨y, hy⟩ : ∃ y, m[i]? = some y := ⟨_, List.getElem?_eq_getElem hltm⟩
        obtain ⟨b, off, e0, hb, x1, x2, x3⟩ := HA.out.dot hx
        obtain ⟨b', off', e0', hb', y1, y2, y3⟩ := HB.out.dot hy
        subst e0; subst e0'
        have HX := Lib.hid hx
        have HY := Lib.hid hy
        have l1 : ∀ k, (wr.drewN k).cell? ⟨b, off + i * 3, none⟩ = some (.int .i64 x.1) := fun _ => (World.cell?_of_block (hG.out.block b hb (by simp))).trans x1
        have l2 : ∀ k, (wr.drewN k).cell? ⟨b, off + i * 3 + 1, none⟩ = some (.int .i64 x.2.1) := fun _ => (World.cell?_of_block (hG.out.block b hb (by simp))).trans x2
        have l3 : ∀ k, (wr.drewN k).cell? ⟨b, off + i * 3 + 2, none⟩ = some (.int .i64 x.2.2) := fun _ => (World.cell?_of_block (hG.out.block b hb (by simp))).trans x3
        have m1 : ∀ k, (wr.drewN k).cell? ⟨b', off' + i * 3, none⟩ = some (.int .i64 y.1) := fun _ => (World.cell?_of_block (hG.out.block b' hb' (by simp))).trans y1
        have m2 : ∀ k, (wr.drewN k).cell? ⟨b', off' + i * 3 + 1, none⟩ = some (.int .i64 y.2.1) := fun _ => (World.cell?_of_block (hG.out.block b' hb' (by simp))).trans y2
        have m3 : ∀ k, (wr.drewN k).cell? ⟨b', off' + i * 3 + 2, none⟩ = some (.int .i64 y.2.2) := fun _ => (World.cell?_of_block (hG.out.block b' hb' (by simp))).trans y3
        clear hx hy x1 x2 x3 y1 y2 y3
        by_cases hxy : x = y
        · subst hxy
          go_wp2_with fail
          go_quiet (fail)
          go_wp2_with fail
          refine ⟨⟨i + 1, by omega, by go_num, ?_, only_drewN hG.out _⟩, ?_⟩
          · show l.take (i + 1) = m.take (i + 1)
            rw [List.take_add_one, List.take_add_one, HT.out, HX.out, HY.out]
          · simp [intOf]; omega
        · have HR' : Hid (r = false) := Lib.hid (by
            rw [Bool.eq_false_iff]; intro h
            have := HR.out.1 h
            rw [this, HY.out] at HX
            have := HX.out
            exact hxy (Option.some.inj this).symm)
          have HXY : Hid (¬ (x.1 = y.1 ∧ x.2.1 = y.2.1 ∧ x.2.2 = y.2.2)) := Lib.hid (fun h => hxy (e3_ext.2 h))
          clear hxy HR HX HY
          rcases (show (x.1 == y.1) = false ∨ (x.1 == y.1) = true ∧ (x.2.1 == y.2.1) = false ∨ (x.1 == y.1) = true ∧ (x.2.1 == y.2.1) = true ∧ (x.2.2 == y.2.2) = false by
            have := HXY.out
            simp only [beq_eq_false_iff_ne, beq_iff_eq]; omega) with t1 | ⟨t1, t2⟩ | ⟨t1, t2, t3⟩
          · go_wp2_with fail
            go_quiet (fail)
            go_wp2_with fail
            go_ret
            exact ⟨by rw [HR'.out]; rfl, only_drewN hG.out _⟩
          · go_wp2_with fail
            go_quiet (fail)
            go_wp2_with fail
            go_ret
            exact ⟨by rw [HR'.out]; rfl, only_drewN hG.out _⟩
          · go_wp2_with fail
            go_quiet (fail)
            go_wp2_with fail
            go_ret
            exact ⟨by rw [HR'.out]; rfl, only_drewN hG.out _⟩
      · have u1 : ¬ (i : Int) < (l.length : Int) := by omega
        have HR' : Hid (r = true) := Lib.hid (HR.out.2 (by
          have h1 := HT.out
          rwa [List.take_of_length_le (by omega), List.take_of_length_le (by have := HN.out; omega)] at h1))
        go_wp2_with fail
        go_ret
        exact ⟨by rw [HR'.out]; rfl, hG.out⟩
  · have t0 : ((l.length : Int) != (m.length : Int)) = true := by simp; omega
    have HR' : Hid (r = false) := Lib.hid (by
      rw [Bool.eq_false_iff]; intro h
      exact hn (by rw [HR.out.1 h]))
    clear hn HR
    go_enter Try.func14, Try.ntmps14
    go_wp2_with fail
    go_ret
    exact ⟨by rw [HR'.out]; rfl, only_refl _ _⟩

def GotVec (w : World) (e : Ending) (w' : World) : Prop := ∃ v l, e = .returned v ∧ w'.ownsRow w.heap.size 40 3 v l.length (dc l) ∧ Ok7 l ∧ w.grownBy w' none
theorem ok7_nil : Ok7 [] := ⟨List.Pairwise.nil, by simp, by simp⟩
theorem ok7_step {l : List E3} (h : Ok7 l) {x : E3} (hx : In7 x) {i : Nat} (hi : i < 12) (hl : l.length ≤ i) : Ok7 (vput l x) ∧ (vput l x).length ≤ i + 1 := by
  have h2 := vput_len l x
  refine ⟨⟨vput_srt l x h.srt, fun y hy => ?_, by omega⟩, by omega⟩
  rcases vput_mem l x y hy with rfl | hy
  · exact hx
  · exact h.ins y hy
set_option maxRecDepth 100000 in
set_option maxHeartbeats 4000000 in
theorem of_any (A : Option Addr) (c : Nat) (ns : List Int) (w : World) (h : Has w w.heap.size A (is_ ns)) (hb : ∀ n ∈ ns, -9223372036854775808 ≤ n ∧ n ≤ 9223372036854775807) :
    Calls Try.prog 10 #[.slice A ns.length c] w (GotVec w) := by
  have HA := Lib.hid h
  have HB := Lib.hid hb
  clear h hb
  go_enter Try.func10, Try.ntmps10
  go_wp2_with fail
  go_loopw [3, 4] (fun s3 si wr => ∃ (i : Nat) (l : List E3) (v : Value), i ≤ ns.length ∧ i ≤ 12 ∧ si = .int .i64 i ∧ v = s3 ∧ Hid (wr.ownsRow w.heap.size 40 3 v l.length (dc l)) ∧ Hid (Ok7 l ∧ l.length ≤ i) ∧ Hid (w.grownBy wr none))
    (fun _ si _ => ns.length - (intOf si).toNat)
  case atStart => exact ⟨0, [], .slice none 0 0, Nat.zero_le _, Nat.zero_le _, rfl, rfl, World.ownsRow_nil _ _ _ 3, ⟨ok7_nil, by simp⟩, only_refl _ _⟩
  case round =>
    obtain ⟨i, l, v, hi, hi2, rfl, rfl, HV, HO, hG⟩ := hrel
    by_cases hlt : i < ns.length
    · have u1 : (i : Int) < (ns.length : Int) := by omega
      have u0 : (0 : Int) ≤ (i : Int) := by omega
      by_cases h12 : i < 12
      · have u2 : (i : Int) < 12 := by omega
        have hes : IntKind.i64.wrap ((i : Int) + 1) = (i : Int) + 1 := by rw [IntKind.wrap_i64]; omega
        obtain ⟨n, hn⟩ : ∃ n, ns[i]? = some n := ⟨_, List.getElem?_eq_getElem hlt⟩
        have hnb := HB.out n (List.mem_of_getElem? hn)
        obtain ⟨b, off, rfl, hb, hc⟩ : ∃ b off, A = some ⟨b, off, none⟩ ∧ b < w.heap.size ∧ w.cell? ⟨b, off + i, none⟩ = some (.int .i64 n) := by
          rcases HA.out with h0 | ⟨b, off, hA, hb, hc⟩
          · have := congrArg List.length h0; simp [is_] at this; rw [this] at hlt; simp at hlt
          · exact ⟨b, off, hA, hb, hc i _ (by simp [is_, hn])⟩
        have SV : ∀ V, w.grownBy V none → Hid (V.cell? ⟨b, off + i, none⟩ = some (.int .i64 n) ∧ w.grownBy V none) := fun V hV => by
          exact ⟨(World.cell?_of_block (hV.block b hb (by simp))).trans hc, hV⟩
        have d0 := only_drew hG.out
        obtain ⟨p2, hp2⟩ : ∃ p, p = n.tdiv 3 := ⟨_, rfl⟩
        obtain ⟨p4, hp4⟩ : ∃ p, p = n.tdiv 6 := ⟨_, rfl⟩
        have q2 := tdiv_in n 3 (by omega) hnb.1 hnb.2
        have q4 := tdiv_in n 6 (by omega) hnb.1 hnb.2
        have z2 : IntKind.i64.wrap (n.tdiv 3) = p2 := by rw [IntKind.wrap_i64]; omega
        have z4 : IntKind.i64.wrap (n.tdiv 6) = p4 := by rw [IntKind.wrap_i64]; omega
        rw [← hp2] at q2
        rw [← hp4] at q4
        have y2 : IntKind.i64.wrap (1 + p2 % 2) = 1 + p2 % 2 := by rw [IntKind.wrap_i64]; omega
        have y4 : IntKind.i64.wrap (1 + p4 % 5) = 1 + p4 % 5 := by rw [IntKind.wrap_i64]; omega
        have N0 : ∀ W, Hid (Calls Try.prog 11 #[.int .i64 n, .int .i64 3] W fun e w' => e = .returned (.int .i64 (n % 3)) ∧ W = w') := fun W => within_any n 3 hnb.1 hnb.2 (by omega) (by omega) W
        have N1 : ∀ W, Hid (Calls Try.prog 11 #[.int .i64 p2, .int .i64 2] W fun e w' => e = .returned (.int .i64 (p2 % 2)) ∧ W = w') := fun W => within_any p2 2 q2.1 q2.2 (by omega) (by omega) W
        have N2 : ∀ W, Hid (Calls Try.prog 11 #[.int .i64 p4, .int .i64 5] W fun e w' => e = .returned (.int .i64 (p4 % 5)) ∧ W = w') := fun W => within_any p4 5 q4.1 q4.2 (by omega) (by omega) W
        have IX : In7 (n % 3, 1 + p2 % 2, 1 + p4 % 5) := ⟨⟨by show 0 ≤ n % 3; omega, by show n % 3 ≤ 2; omega⟩, ⟨by show 1 ≤ 1 + p2 % 2; omega, by show 1 + p2 % 2 ≤ 2; omega⟩, by show 1 ≤ 1 + p4 % 5; omega, by show 1 + p4 % 5 ≤ 5; omega⟩
        have IX := Lib.hid IX
        clear hc hp2 hp4 q2 q4
        go_wp2_with fail
        apply cut_later
        · intro key
          go_region_held3 (fun V => V.cell? ⟨b, off + i, none⟩ = some (.int .i64 n) ∧ w.grownBy V none) (first | exact (SV _ d0).out | exact (SV _ (only_drew (only_alloc hG.out _))).out) ((first
              | (go_at_call_of 11 n; refine (N0 _).out.mono ?_; rintro e wa ⟨rfl, rfl⟩)
              | (go_at_call_of 11 p2; refine (N1 _).out.mono ?_; rintro e wa ⟨rfl, rfl⟩)
              | (go_at_call_of 11 p4; refine (N2 _).out.mono ?_; rintro e wa ⟨rfl, rfl⟩)))
          all_goals exact key ()
        obtain ⟨a, ha⟩ : ∃ a, a = n % 3 := ⟨_, rfl⟩
        obtain ⟨b2, hb2⟩ : ∃ a, a = 1 + p2 % 2 := ⟨_, rfl⟩
        obtain ⟨b4, hb4⟩ : ∃ a, a = 1 + p4 % 5 := ⟨_, rfl⟩
        rw [← ha, ← hb2, ← hb4] at IX
        rw [← ha, ← hb2, ← hb4]
        clear ha hb2 hb4 N0 N1 N2 z2 z4 y2 y4 SV d0
        obtain ⟨V, hV⟩ : ∃ V, V = (wr.alloc (.cells #[.int .i64 a, .int .i64 b2, .int .i64 b4] 24)).drew := ⟨_, rfl⟩
        rw [← hV]
        have gV : wr.grownBy V none := by rw [hV]; exact only_drew (World.grownBy_alloc _ _ none)
        obtain ⟨q1, q2, q3⟩ : box3 V wr.heap.size (a, b2, b4) := by rw [hV]; exact box3_new wr (a, b2, b4) _
        have HV1 := HV.out.kept gV (by cases v.ownBlock <;> simp)
        have hGV : Hid (w.grownBy V none) := only_step hG.out gV (fun _ h => by cases h)
        have zV : w.heap.size ≤ V.heap.size := hGV.out.size
        obtain ⟨Av, cv, rfl⟩ := own_slice_w HV1
        obtain ⟨OK, hlen⟩ := HO.out
        have HST := Lib.hid (rstep_any Av cv l (a, b2, b4) V (Vw.own HV1).1 (by have := OK.len; omega))
        have HVV := Lib.hid HV1
        clear hV gV HV HV1 hn
        go_wp2_with fail
        refine HST.out.mono ?_
        rintro _ w2 ⟨v2, rfl, ho, g2⟩
        have gw : Hid (w.grownBy w2 none) := only_step hGV.out g2 (fun _ h => by cases h)
        by_cases hE : sErr l (a, b2, b4) = 0
        · have hR : sRow l (a, b2, b4) = vput l (a, b2, b4) := by unfold sRow; rw [if_pos hE]
          rw [hR] at ho
          rw [hE]
          have HO2 := Lib.hid (own_less ho zV)
          have HO3 := Lib.hid (ok7_step OK IX.out h12 hlen)
          clear ho hR hE g2 OK
          go_wp2_with fail
          refine ⟨⟨i + 1, _, v2, by omega, by omega, by go_num, rfl, HO2, HO3, gw⟩, ?_⟩
          simp [intOf]; omega
        · have tE : (sErr l (a, b2, b4) == 0) = false := by rw [beq_eq_false_iff_ne]; exact hE
          have HV3 : Hid (w2.ownsRow w.heap.size 40 3 (.slice Av l.length cv) l.length (dc l)) := HVV.out.kept g2 (by cases (Value.slice Av l.length cv).ownBlock <;> simp)
          have HO3 : Hid (Ok7 l ∧ l.length ≤ i + 1) := Lib.hid ⟨OK, by omega⟩
          clear ho hE g2 OK
          go_wp2_with fail
          refine ⟨⟨i + 1, l, _, by omega, by omega, by go_num, rfl, HV3, HO3, gw⟩, ?_⟩
          simp [intOf]; omega
      · have u2 : ¬ (i : Int) < 12 := by omega
        go_wp2_with fail
        go_ret
        exact ⟨_, l, rfl, HV.out, HO.out.1, hG.out⟩
    · have u1 : ¬ (i : Int) < (ns.length : Int) := by omega
      go_wp2_with fail
      go_ret
      exact ⟨_, l, rfl, HV.out, HO.out.1, hG.out⟩
end Go.Proofs.Ytlanldjpafkckaa
