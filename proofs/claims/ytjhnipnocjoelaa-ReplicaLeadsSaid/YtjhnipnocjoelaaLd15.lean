/- The law ReplicaLeads. Conditions: the integers are 64-bit ones. -/
import Derived.Test.YtjhnipnocjoelaaLf15
namespace Go.Proofs.Ytjhnipnocjoelaa
open Go.RowKit Go.Deep
/-- A node that is ticked: so often, or a candidate in the end. -/
def tickN (k q : Nat) (n : Nd) : Prop := (q < 5 + 3 * k ∧ n = waitI k q) ∨ (q = 5 + 3 * k ∧ n = cand k)
theorem tickN.log {k q : Nat} {n : Nd} (hk : k < 3) (h : tickN k q n) : n.log = [] := by
  rcases h with ⟨_, rfl⟩ | ⟨_, rfl⟩
  · rfl
  · exact (cand_is k hk).2.2.2.1
theorem tick_step (k q : Nat) (n : Nd) (A : Option Addr) (c : Nat) (w : World) (hk : k < 3) (hq : q < 5 + 3 * k) (h : tickN k q n) : Calls Try.prog 19 #[n.val (.slice A n.log.length c)] w fun e w' => ∃ n', tickN k (q + 1) n' ∧ GotN w n' (fun _ => True) e w' := by
  rcases h with ⟨_, rfl⟩ | ⟨h, _⟩
  · by_cases hl : q + 1 < 5 + 3 * k
    · refine (tick_wait (waitI k q) A c k w rfl hk (by show (0 : Int) ≠ 2; decide) ⟨⟨by show (0 : Int) ≤ 0; omega, by show (0 : Int) ≤ _; omega⟩, by show (0 : Nat) ≤ _; omega⟩ (.inl rfl) (by show (0 : Int) ≤ (q : Int); omega) (by show (q : Int) + 1 < 5 + 3 * (k : Int); omega)).mono ?_
      rintro e w' ⟨A, c, B, cb, S, he, _, h1, h2, h3, h4, h5⟩
      exact ⟨_, .inl ⟨hl, rfl⟩, A, c, B, cb, S, he, trivial, h1, h2, h3, h4, h5⟩
    · have e : q = 4 + 3 * k := by omega
      subst e
      refine (tick_camp (waitI k (4 + 3 * k)) A c k w rfl hk (by show (0 : Int) ≠ 2; decide) ⟨⟨by show (0 : Int) ≤ 0; omega, by show (0 : Int) ≤ _; omega⟩, by show (0 : Nat) ≤ _; omega⟩ (.inl rfl) (by show (0 : Int) ≤ ((4 + 3 * k : Nat) : Int); omega) (by show ((4 + 3 * k : Nat) : Int) ≤ 1000; omega) (by show 5 + 3 * (k : Int) ≤ ((4 + 3 * k : Nat) : Int) + 1; omega) ⟨by show (0 : Int) ≤ 0; omega, by show (0 : Int) < _; omega⟩).mono ?_
      rintro e w' ⟨A, c, B, cb, S, he, _, h1, h2, h3, h4, h5⟩
      exact ⟨cand k, .inr ⟨by omega, rfl⟩, A, c, B, cb, S, he, trivial, h1, h2, h3, h4, h5⟩
  · omega
theorem Has.ment {w : World} {lim b off : Nat} {m : Mg} {r : List Mg} (h : Has w lim (some ⟨b, off, none⟩) (ms (m :: r))) : w.cell? ⟨b, off + 8, none⟩ = some m.ent := by
  have e : ms (m :: r) = m.cs ++ ms r := rfl
  rcases h with h | ⟨b', off', hB, hb, hc⟩
  · rw [e] at h; cases h
  · cases hB
    exact hc 8 _ (by rw [e]; rfl)
theorem NB.mcell {w : World} {b : Nat} {n : Nd} {L : Value} {v : Int} (k : Nat) (hk : k < 3) (h : NB w b (n.mset k v) L) : w.cell? ⟨b, 16 + k, none⟩ = some (.int .i64 v) := by
  match k, hk with
  | 0, _ => exact h.cell 16 _ rfl
  | 1, _ => exact h.cell 17 _ rfl
  | 2, _ => exact h.cell 18 _ rfl
theorem mset_log (n : Nd) (k : Nat) (v : Int) : (n.mset k v).log = n.log := by
  unfold Nd.mset
  split <;> rfl
theorem no_bytes {s : ByteArray} (h : s.size = 0) : s = { data := #[] } := ByteArray.ext (Array.eq_empty_of_size_eq_zero h)
set_option maxRecDepth 100000 in
set_option maxHeartbeats 8000000 in
theorem leads_walk (i j : Int) (s : ByteArray) (w : World) (hi : I64 i) (hj : I64 j) : Calls Try.prog 5 #[.int .i64 i, .int .i64 j, .string s] w fun e w' => e = .returned (.bool true) ∧ w.grownBy w' none := by
  have KN := fun W => Lib.hid (known_any W)
  have HI := Lib.hid hi
  have HJ := Lib.hid hj
  clear hi hj
  go_enter Try.func5, Try.ntmps5
  go_wp2_with fail
  refine (KN _).out.mono ?_
  rintro _ w1 ⟨rfl, g1⟩
  by_cases hs : 40 < s.size
  · have t1 : (40 : Int) < (s.size : Int) := by omega
    go_wp2_with fail
    go_ret
    exact ⟨rfl, g1⟩
  have t1 : ¬ (40 : Int) < (s.size : Int) := by omega
  have HS := Lib.hid hs
  have r1 := Int.emod_nonneg i (show (3 : Int) ≠ 0 by decide)
  have r2 := Int.emod_lt_of_pos i (show (0 : Int) < 3 by decide)
  have WA := fun W => Lib.hid (within_any i 3 HI.out.1 HI.out.2 (by decide) (by decide) W)
  obtain ⟨k, hk⟩ : ∃ k : Nat, i % 3 = (k : Int) := ⟨(i % 3).toNat, by omega⟩
  rw [hk] at WA r1 r2
  have HK := Lib.hid (show k < 3 by omega)
  clear hk hs r1 r2
  go_upto_region 6 with (go_at_call 13; refine (WA _).out.mono ?_; rintro _ wd ⟨rfl, rfl⟩)
  have NA := fun W => Lib.hid (new_any k HK.out W)
  go_wp2_with fail
  refine (NA _).out.mono ?_
  rintro _ w2 ⟨rfl, g2⟩
  go_upto_region 7 with (refine wpList_store_new rfl _ _ rfl (newN k) none 0 0 rfl rfl rfl ?_)
  have N3 := NB.new w2 (newN k) (.slice none 0 0)
  have g3 := only_step (only_step g1 g2 (fun _ h => .inl h)) (World.grownBy_alloc w2 (.cells ((newN k).cells (.slice none 0 0)) 37) none) (fun _ h => .inl h)
  have hb : w.heap.size ≤ w2.heap.size := Nat.le_trans g1.size g2.size
  obtain ⟨nb, hnb⟩ : ∃ nb, w2.heap.size = nb := ⟨_, rfl⟩
  obtain ⟨w3, hw3⟩ : ∃ w3, w2.alloc (.cells ((newN k).cells (.slice none 0 0)) 37) = w3 := ⟨_, rfl⟩
  rw [hnb, hw3] at N3
  rw [hnb] at hb
  rw [hw3] at g3
  rw [hw3]
  try rw [hnb]
  have HN3 := Lib.hid N3
  have HG3 := Lib.hid g3
  have HB := Lib.hid hb
  clear N3 g1 g2 g3 hb hnb hw3 KN NA WA t1
  have LD := Lib.hid HN3.out.load
  have PR : Hid (Calls Try.prog 18 #[(newN k).val (.slice none 0 0), .string { data := #[120] }] w3 (GotP w3 (newN k) 0 21)) := propose_no (newN k) none 0 _ w3 (by show (0 : Int) ≠ 2; decide) ⟨⟨by show (0 : Int) ≤ 0; omega, by show (0 : Int) ≤ _; omega⟩, by show (0 : Nat) ≤ _; omega⟩ (.inl rfl)
  go_wp2_with (refine wpList_load_at rfl 37 (Operand.tmp 7) rfl _ _ LD.out rfl ?_)
  refine PR.out.mono ?_
  rintro _ w4 ⟨A4, c4, rfl, hA4, hc4, g4⟩
  have g5 := World.grownBy_alloc w4 (.cells ((newN k).cells (.slice A4 (newN k).log.length c4)) 37) none
  have N5 := (HN3.out.grow g4).grow g5
  have G5 := only_step (only_step HG3.out g4 (fun _ h => .inl h)) g5 (fun _ h => .inl h)
  obtain ⟨w5, hw5⟩ : ∃ w5, w4.alloc (.cells ((newN k).cells (.slice A4 (newN k).log.length c4)) 37) = w5 := ⟨_, rfl⟩
  rw [hw5] at N5 G5
  have HW5 := Lib.hid hw5
  have HN5 := Lib.hid N5
  have HG5 := Lib.hid G5
  clear hA4 hc4 g4 g5 N5 G5 hw5 LD PR HN3 HG3
  go_upto_block 0 with (refine wpList_store_new rfl _ _ rfl (newN k) A4 (newN k).log.length c4 rfl rfl rfl ?_; rw [HW5.out])
  go_cut [] (fun wx => ∃ A c, Hid (NB wx nb (cand k) (.slice A (cand k).log.length c)) ∧ Hid (w.grownBy wx none))
  case first =>
    go_wp2_with fail
    go_loopw [11] (fun s11 wr => ∃ (q : Nat) (n : Nd) (A : Option Addr) (c : Nat), q ≤ 5 + 3 * k ∧ s11 = .int .i64 q ∧ Hid (tickN k q n) ∧ Hid (NB wr nb n (.slice A n.log.length c)) ∧ Hid (w.grownBy wr none)) (fun s11 _ => 5 + 3 * k - (intOf s11).toNat)
    case atStart => exact ⟨0, newN k, none, 0, by omega, rfl, .inl ⟨by omega, rfl⟩, HN5, HG5⟩
    case round =>
      clear HN5 HG5
      obtain ⟨q, n, A, c, hq, rfl, HT, HN, HG⟩ := hrel
      by_cases hlt : q < 5 + 3 * k
      · have t1 : (q : Int) < 5 + 3 * (k : Int) := by omega
        have t0 := HK.out
        have LD := Lib.hid HN.out.load
        have TK := Lib.hid (tick_step k q n A c wr HK.out hlt HT.out)
        go_wp2_with (refine wpList_load_at rfl 37 (Operand.tmp 7) rfl _ _ LD.out rfl ?_)
        refine TK.out.mono ?_
        rintro _ w6 ⟨n', ht', A2, c2, B2, cb2, S2, rfl, _, hA2, hc2, hB2, hcb2, g6⟩
        have N6 := HN.out.grow g6
        have ST := Lib.hid (store_node n' A2 n'.log.length c2 N6.at_ rfl)
        have HN7 := Lib.hid (N6.over (n' := n') (L' := .slice A2 n'.log.length c2))
        have HG6 := Lib.hid (only_step HG.out g6 (fun _ h => .inl h))
        have HT' := Lib.hid ht'
        clear N6 g6 hA2 hB2 hc2 hcb2 LD TK HN HG ht'
        go_wp2_with (refine wpList_store_at rfl 37 _ _ rfl _ _ _ ST.out rfl rfl ?_)
        go_roundw
        case rel => exact ⟨q + 1, n', A2, c2, by omega, by go_num, HT', HN7.out.1, only_step HG6.out HN7.out.2 (fun j hj => by cases hj; exact .inr HB.out)⟩
        case measure => simp [intOf]; omega
      · have t1 : ¬ (q : Int) < 5 + 3 * (k : Int) := by omega
        have t0 := HK.out
        have hn : n = cand k := by
          rcases HT.out with ⟨h, _⟩ | ⟨_, h⟩
          · omega
          · exact h
        subst hn
        go_wp2_with fail
        go_meet
        exact ⟨A, c, HN, HG⟩
  case rest =>
    clear HN5 HG5
    obtain ⟨A, c, HN, HG⟩ := hcut
    have E := cand_is k HK.out
    obtain ⟨C, hC⟩ : ∃ C, cand k = C := ⟨_, rfl⟩
    rw [hC] at HN E
    have HC := Lib.hid hC
    have HE := Lib.hid E
    clear hC E
    have HA := Lib.hid (show Has wc wc.heap.size A (es C.log) from by rw [HE.out.2.2.2.1]; exact .inl rfl)
    have q1 := Int.emod_nonneg j (show (2 : Int) ≠ 0 by decide)
    have q2 := Int.emod_lt_of_pos j (show (0 : Int) < 2 by decide)
    have WB := fun W => Lib.hid (within_any j 2 HJ.out.1 HJ.out.2 (by decide) (by decide) W)
    obtain ⟨b, hb⟩ : ∃ b : Nat, j % 2 = (b : Int) := ⟨(j % 2).toNat, by omega⟩
    rw [hb] at WB q1 q2
    have k0 : (0 : Int) ≤ (k : Int) := by omega
    have k1 : (k : Int) < 3 := by have := HK.out; omega
    obtain ⟨f, hf⟩ : ∃ f : Nat, ((k : Int) + 1 + (b : Int)) % 3 = (f : Int) := ⟨(((k : Int) + 1 + (b : Int)) % 3).toNat, by omega⟩
    have HF := Lib.hid (show f < 3 by omega)
    have HKF := Lib.hid (show k ≠ f by omega)
    clear hb
    go_upto_region 13 with (go_at_call 13; refine (WB _).out.mono ?_; rintro _ wd ⟨rfl, rfl⟩)
    try rw [hf]
    clear hf WB q1 q2
    have LD := Lib.hid HN.out.load
    have TK := take_no k f A c wc HK.out HF.out HKF.out (by rw [HC.out]; exact HA.out)
    rw [HC.out] at TK
    simp only [Mg.val, ansV] at TK
    have TKH := Lib.hid TK
    clear TK
    go_wp2_with (refine wpList_load_at rfl 37 (Operand.tmp 7) rfl _ _ LD.out rfl ?_)
    refine TKH.out.mono ?_
    rintro _ x0 ⟨A0, c0, B0, cb0, S0, rfl, hS0, hA0, hc0, hB0, hcb0, gx⟩
    have gy := World.grownBy_alloc x0 (.cells (C.cells (.slice A0 C.log.length c0)) 37) none
    have gz := only_step gx gy (fun _ h => .inl h)
    have M0 := NB.new x0 C (.slice A0 C.log.length c0)
    have HBq0 := hB0.up gy
    have HAq0 := hA0.up gy
    obtain ⟨p0, hp0⟩ : ∃ p, x0.heap.size = p := ⟨_, rfl⟩
    obtain ⟨y0, hw0⟩ : ∃ z, x0.alloc (.cells (C.cells (.slice A0 C.log.length c0)) 37) = z := ⟨_, rfl⟩
    rw [hw0] at gz M0 HBq0 HAq0
    rw [hp0] at M0
    have HG0 := Lib.hid (only_step HG.out gz (fun _ h => .inl h))
    have HN0 := Lib.hid (HN.out.grow gz)
    have HA0 := Lib.hid (HA.out.up gz)
    have HM0 := Lib.hid M0
    have HS0 := Lib.hid hS0
    have HSB0 := Lib.hid HBq0
    have HLA0 := Lib.hid HAq0
    have HW0 := Lib.hid hw0
    have HP0 := Lib.hid hp0
    clear hp0 gx gy gz M0 HBq0 HAq0 hS0 hA0 hc0 hB0 hcb0 hw0 TKH LD HN HG HA
    go_upto_region 14 with (refine wpList_store_new rfl _ _ rfl C A0 C.log.length c0 rfl rfl rfl ?_; rw [HW0.out])
    try rw [HP0.out]
    have LD := Lib.hid HN0.out.load
    have TK := take_old k f A c y0 HK.out HF.out HKF.out (by rw [HC.out]; exact HA0.out)
    rw [HC.out] at TK
    simp only [Mg.val, ansV] at TK
    have TKH := Lib.hid TK
    clear TK
    go_wp2_with (refine wpList_load_at rfl 37 (Operand.tmp 7) rfl _ _ LD.out rfl ?_)
    refine TKH.out.mono ?_
    rintro _ x1 ⟨A1, c1, B1, cb1, S1, rfl, hS1, hA1, hc1, hB1, hcb1, gx⟩
    have gy := World.grownBy_alloc x1 (.cells (C.cells (.slice A1 C.log.length c1)) 37) none
    have gz := only_step gx gy (fun _ h => .inl h)
    have M1 := NB.new x1 C (.slice A1 C.log.length c1)
    have HBq1 := hB1.up gy
    have HAq1 := hA1.up gy
    obtain ⟨p1, hp1⟩ : ∃ p, x1.heap.size = p := ⟨_, rfl⟩
    obtain ⟨y1, hw1⟩ : ∃ z, x1.alloc (.cells (C.cells (.slice A1 C.log.length c1)) 37) = z := ⟨_, rfl⟩
    rw [hw1] at gz M1 HBq1 HAq1
    rw [hp1] at M1
    have HG1 := Lib.hid (only_step HG0.out gz (fun _ h => .inl h))
    have HN1 := Lib.hid (HN0.out.grow gz)
    have HA1 := Lib.hid (HA0.out.up gz)
    have HM1 := Lib.hid M1
    have HM0 := Lib.hid (HM0.out.grow gz)
    have HS1 := Lib.hid hS1
    have HSB1 := Lib.hid HBq1
    have HLA1 := Lib.hid HAq1
    have HW1 := Lib.hid hw1
    have HP1 := Lib.hid hp1
    clear hp1 gx gy gz M1 HBq1 HAq1 hS1 hA1 hc1 hB1 hcb1 hw1 TKH LD HN0 HG0 HA0
    go_upto_region 15 with (refine wpList_store_new rfl _ _ rfl C A1 C.log.length c1 rfl rfl rfl ?_; rw [HW1.out])
    try rw [HP1.out]
    have LD := Lib.hid HN1.out.load
    have TK := take_won k f A c y1 HK.out HF.out HKF.out (by rw [HC.out]; exact HA1.out)
    rw [HC.out] at TK
    have ED := led_is k f HK.out HF.out
    obtain ⟨D, hD⟩ : ∃ D, ledN k f = D := ⟨_, rfl⟩
    rw [hD] at TK ED
    have HD := Lib.hid hD
    have HED := Lib.hid ED
    clear hD ED
    simp only [Mg.val, ansV] at TK
    have TKH := Lib.hid TK
    clear TK
    go_wp2_with (refine wpList_load_at rfl 37 (Operand.tmp 7) rfl _ _ LD.out rfl ?_)
    refine TKH.out.mono ?_
    rintro _ x2 ⟨A2, c2, B2, cb2, S2, rfl, hS2, hA2, hc2, hB2, hcb2, gx⟩
    have gy := World.grownBy_alloc x2 (.cells (D.cells (.slice A2 D.log.length c2)) 37) none
    have gz := only_step gx gy (fun _ h => .inl h)
    have M2 := NB.new x2 D (.slice A2 D.log.length c2)
    have HBq2 := hB2.up gy
    have HAq2 := hA2.up gy
    obtain ⟨p2, hp2⟩ : ∃ p, x2.heap.size = p := ⟨_, rfl⟩
    obtain ⟨y2, hw2⟩ : ∃ z, x2.alloc (.cells (D.cells (.slice A2 D.log.length c2)) 37) = z := ⟨_, rfl⟩
    rw [hw2] at gz M2 HBq2 HAq2
    rw [hp2] at M2
    have HG2 := Lib.hid (only_step HG1.out gz (fun _ h => .inl h))
    have HN2 := Lib.hid (HN1.out.grow gz)
    have HA2 := Lib.hid (HA1.out.up gz)
    have HM2 := Lib.hid M2
    have HM0 := Lib.hid (HM0.out.grow gz)
    have HM1 := Lib.hid (HM1.out.grow gz)
    have HS2 := Lib.hid hS2
    have HSB2 := Lib.hid HBq2
    have HLA2 := Lib.hid HAq2
    have HW2 := Lib.hid hw2
    have HP2 := Lib.hid hp2
    clear hp2 gx gy gz M2 HBq2 HAq2 hS2 hA2 hc2 hB2 hcb2 hw2 TKH LD HN1 HG1 HA1
    go_upto_region 16 with (refine wpList_store_new rfl _ _ rfl D A2 D.log.length c2 rfl rfl rfl ?_; rw [HW2.out])
    try rw [HP2.out]
    have e0 := HS0.out
    have e1 := HS1.out
    obtain ⟨m1, m2, Ae, ce, e2, hk3, hent⟩ := led_sent k f HK.out HF.out (by rw [HD.out]; exact HS2.out)
    subst e0 e1 e2
    obtain ⟨b2, off, rfl, hb2, ck, _, _⟩ := HSB2.out.msg
    have c8 := HSB2.out.ment
    rw [hk3] at ck
    rw [hent] at c8
    have HL2 := HLA2.out
    rw [HED.out.2.2.2.1] at HL2
    obtain ⟨lb, lo, rfl, hlb, l1, l2⟩ := HL2.entry (k := 0) (x := (1, { data := #[] })) rfl
    simp only [Nat.zero_mul, Nat.add_zero] at l1 l2
    have d7 := HM0.out.cell 7 (.int .i64 C.role) rfl
    have m7 := HM1.out.cell 7 (.int .i64 C.role) rfl
    have n7 := HM2.out.cell 7 (.int .i64 D.role) rfl
    have n6 := HM2.out.cell 6 (.slice (some ⟨lb, lo, none⟩) D.log.length c2) rfl
    rw [HE.out.2.2.1] at d7 m7
    rw [HED.out.2.2.1] at n7
    rw [show D.log.length = 1 from by rw [HED.out.2.2.2.1]; rfl] at n6
    clear hb2 hlb hk3 hent
    go_upto_region 18 with fail
    clear ck c8 l1 l2 d7 m7 n7 n6
    have LD := Lib.hid HM2.out.load
    have HOK := Lib.hid (show D.ok from ⟨by rw [HED.out.2.2.2.2.1]; decide, by rw [HED.out.2.2.2.1]; decide⟩)
    by_cases hz : s.size = 0
    · as_aux_lemma =>
        have hz2 := no_bytes hz
        subst hz2
        clear hz
        have PR := Lib.hid (propose_arg D (some ⟨lb, lo, none⟩) c2 { data := #[] } y2 k HED.out.1 HK.out HED.out.2.2.1 rfl HOK.out HLA2.out)
        go_wp2_with (refine wpList_load_at rfl 37 (Operand.tmp 16) rfl _ _ LD.out rfl ?_)
        refine PR.out.mono ?_
        rintro _ x3 ⟨A3, c3, rfl, hA3, hc3, g3⟩
        have gy := World.grownBy_alloc x3 (.cells (D.cells (.slice A3 D.log.length c3)) 37) none
        have gz := only_step g3 gy (fun _ h => .inl h)
        have M3 := NB.new x3 D (.slice A3 D.log.length c3)
        have HA3' := hA3.up gy
        obtain ⟨p3, hp3⟩ : ∃ p, x3.heap.size = p := ⟨_, rfl⟩
        obtain ⟨y3, hy3⟩ : ∃ z, x3.alloc (.cells (D.cells (.slice A3 D.log.length c3)) 37) = z := ⟨_, rfl⟩
        rw [hy3] at gz M3 HA3'
        rw [hp3] at M3
        have HG3 := Lib.hid (only_step HG2.out gz (fun _ h => .inl h))
        have HM2 := Lib.hid (HM2.out.grow gz)
        have HLA2 := Lib.hid (HLA2.out.up gz)
        have HM3 := Lib.hid M3
        have HLA3 := Lib.hid HA3'
        have HY3 := Lib.hid hy3
        have HP3 := Lib.hid hp3
        clear hp3 hy3 gy gz M3 HA3' hA3 hc3 g3 PR LD HG2
        go_upto_region 19 with (refine wpList_store_new rfl _ _ rfl D A3 D.log.length c3 rfl rfl rfl ?_; rw [HY3.out])
        try rw [HP3.out]
        have LX := Lib.hid HM2.out.load
        have LY := Lib.hid HM3.out.load
        have SM := Lib.hid (same_self D (some ⟨lb, lo, none⟩) A3 c2 c3 y3 HLA2.out HLA3.out (by rw [HED.out.2.2.2.1]; decide))
        go_wp2_with (first | (refine wpList_load_at_g (by kernel_rfl) 37 (Operand.tmp 16) rfl _ _ LX.out rfl ?_) | (refine wpList_load_at_g (by kernel_rfl) 37 (Operand.tmp 18) rfl _ _ LY.out rfl ?_) | (go_at_call 15; refine SM.out.mono ?_; rintro _ y4 ⟨rfl, g4⟩; have HG4 := Lib.hid (only_step HG3.out g4 (fun _ h => .inl h)); clear g4))
        go_ret
        exact ⟨rfl, HG4.out⟩
    · as_aux_lemma =>
        have HZ := Lib.hid hz
        have hcb : (s.toList == ([] : List UInt8)) = false := by rw [ByteArray.toList_eq, beq_eq_false_iff_ne]; intro e; have := congrArg List.length e; exact hz (by simpa using this)
        clear hz
        have PR := Lib.hid (propose_ok D (some ⟨lb, lo, none⟩) c2 s y2 k HED.out.1 HK.out HED.out.2.2.1 HZ.out (by rw [HED.out.2.2.2.1]; decide) HOK.out HLA2.out)
        go_wp2_with (refine wpList_load_at rfl 37 (Operand.tmp 16) rfl _ _ LD.out rfl ?_)
        refine PR.out.mono ?_
        rintro _ x3 ⟨A3, c3, rfl, hA3, hc3, g3⟩
        obtain ⟨G, hG⟩ : ∃ G, D.grown k s = G := ⟨_, rfl⟩
        have hlog : G.log = [(1, { data := #[] }), (1, s)] := by rw [← hG]; unfold Nd.grown; rw [mset_log]; show D.log ++ [(D.term, s)] = _; rw [HED.out.2.2.2.1, HED.out.2.1]; rfl
        have hli : (D.put s).li = 2 := by unfold Nd.li Nd.put; rw [HED.out.2.2.2.1, HED.out.2.2.2.2.1]; rfl
        rw [hG] at hA3 hc3
        try rw [hG]
        try rw [hli]
        have HGG := Lib.hid hG
        have HLI := Lib.hid hli
        have HLOG := Lib.hid hlog
        clear hG hli hlog
        have gy := World.grownBy_alloc x3 (.cells (G.cells (.slice A3 G.log.length c3)) 37) none
        have gz := only_step g3 gy (fun _ h => .inl h)
        have M3 := NB.new x3 G (.slice A3 G.log.length c3)
        have HA3' := hA3.up gy
        obtain ⟨p3, hp3⟩ : ∃ p, x3.heap.size = p := ⟨_, rfl⟩
        obtain ⟨y3, hy3⟩ : ∃ z, x3.alloc (.cells (G.cells (.slice A3 G.log.length c3)) 37) = z := ⟨_, rfl⟩
        rw [hy3] at gz M3 HA3'
        rw [hp3] at M3
        have HG3 := Lib.hid (only_step HG2.out gz (fun _ h => .inl h))
        have HM2 := Lib.hid (HM2.out.grow gz)
        have HLA2 := Lib.hid (HLA2.out.up gz)
        have HM3 := Lib.hid M3
        have HLA3 := Lib.hid HA3'
        have HY3 := Lib.hid hy3
        have HP3 := Lib.hid hp3
        clear hp3 hy3 gy gz M3 HA3' hA3 hc3 g3 PR LD HG2
        go_upto_region 19 with (refine wpList_store_new rfl _ _ rfl G A3 G.log.length c3 rfl rfl rfl ?_; rw [HY3.out])
        try rw [HP3.out]
        go_upto_region 21 with fail
        have HL3 := HLA3.out
        rw [HLOG.out] at HL3
        obtain ⟨lc, lp, rfl, hlc, l1, l2⟩ := HL3.entry (k := 1) (x := (1, s)) rfl
        simp only [Nat.one_mul] at l1 l2
        have n6 := HM3.out.cell 6 (.slice (some ⟨lc, lp, none⟩) G.log.length c3) rfl
        rw [show G.log.length = 2 from by rw [HLOG.out]; rfl] at n6
        have nm : y3.cell? ⟨p3, 16 + k, none⟩ = some (.int .i64 2) := NB.mcell k HK.out (n := D.put s) (L := .slice (some ⟨lc, lp, none⟩) G.log.length c3) (by rw [← HLI.out]; have h := HM3.out; rw [← HGG.out] at h ⊢; exact h)
        clear hlc
        go_wp2_with fail
        go_ret
        exact ⟨by first | rfl | simp, HG3.out⟩
end Go.Proofs.Ytjhnipnocjoelaa
