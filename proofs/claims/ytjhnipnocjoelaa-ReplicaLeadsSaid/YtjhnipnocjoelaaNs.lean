/- The law ReplicaVotes, walked: it returns true for every input. No condition. -/
import Derived.Test.YtjhnipnocjoelaaNr
namespace Go.Proofs.Ytjhnipnocjoelaa
open Go.RowKit Go.Deep
def I64 (n : Int) : Prop := -9223372036854775808 ≤ n ∧ n ≤ 9223372036854775807
def is (l : List Int) : List Value := l.map (Value.int .i64)
def logN (l : List (Int × ByteArray)) : Nd := { newN 0 with log := l }
/-- The numbers of the law: its node, its messages, what comes of them. -/
def vN (l : List (Int × ByteArray)) : Nd := { logN l with term := 5 }
def vM (f t a b : Int) : Mg := ⟨1, f, 0, t, a, b, 0, false, .slice none 0 0, { data := #[] }⟩
def vX (l : List (Int × ByteArray)) (a b : Int) : Nd := ((vN l).seen (vM 1 6 a b)).voted (vM 1 6 a b)
def vY (l : List (Int × ByteArray)) (a b : Int) : Bool := (vN l).cur (vM 1 6 a b)
theorem vS (l : List (Int × ByteArray)) (a b : Int) : (vN l).seen (vM 1 6 a b) = { vN l with term := 6, vote := -1, role := 0, v0 := false, v1 := false, v2 := false } := by
  unfold Nd.seen
  rw [if_pos (by show (5 : Int) < 6; decide)]
  rfl
theorem vG (l : List (Int × ByteArray)) (a b : Int) : ((vN l).seen (vM 1 6 a b)).given (vM 1 6 a b) = vY l a b := by
  rw [vS]
  show (((6 : Int) == 6 && ((-1 : Int) == -1 || (-1 : Int) == 1)) && vY l a b) = vY l a b
  rfl
theorem vR (l : List (Int × ByteArray)) (a b : Int) : (((vN l).seen (vM 1 6 a b)).ansM (vM 1 6 a b)).kind = 2 ∧ (((vN l).seen (vM 1 6 a b)).ansM (vM 1 6 a b)).yes = vY l a b ∧ (((vN l).seen (vM 1 6 a b)).ansM (vM 1 6 a b)).term = 6 := by
  refine ⟨rfl, vG l a b, ?_⟩
  rw [vS]
  rfl
theorem vX_is (l : List (Int × ByteArray)) (a b : Int) : vX l a b = { vN l with term := 6, vote := if vY l a b = true then 1 else -1, role := 0, v0 := false, v1 := false, v2 := false } := by
  unfold vX Nd.voted
  rw [vG, vS]
  cases vY l a b <;> rfl
theorem vX_fits (l : List (Int × ByteArray)) (a b : Int) : (vX l a b).id = 0 ∧ (vX l a b).term = 6 ∧ (vX l a b).log = l ∧ (vX l a b).base = 0 := by
  rw [vX_is]
  exact ⟨rfl, rfl, rfl, rfl⟩
theorem lt_small {l : List (Int × ByteArray)} (hp : ∀ p ∈ l, 1 ≤ p.1 ∧ p.1 ≤ 5) (n : Nd) (hn : n.log = l) (hb : n.bt = 0) : n.lt < 6 := by
  unfold Nd.lt
  rw [hn, hb]
  split
  · decide
  · rename_i p h
    have := (hp p (List.mem_of_getLast? h)).2
    omega
theorem vA2 {l : List (Int × ByteArray)} (hp : ∀ p ∈ l, 1 ≤ p.1 ∧ p.1 ≤ 5) (a b f : Int) : (((vX l a b).seen (vM f 6 9 6)).ansM (vM f 6 9 6)).yes = (f == 1 || !vY l a b) ∨ (f ≠ 1 ∧ f ≠ 2) := by
  by_cases hf : f = 1 ∨ f = 2
  · left
    have hs : (vX l a b).seen (vM f 6 9 6) = vX l a b := by
      unfold Nd.seen
      rw [if_neg (by rw [(vX_fits l a b).2.1]; show ¬ (6 : Int) < 6; decide)]
    rw [hs]
    show (vX l a b).given (vM f 6 9 6) = _
    have hc : (vX l a b).cur (vM f 6 9 6) = true := by
      have := lt_small hp (vX l a b) (vX_fits l a b).2.2.1 (by rw [vX_is]; rfl)
      unfold Nd.cur
      rw [decide_eq_true (show (vX l a b).lt < (vM f 6 9 6).lt from this)]
      rfl
    unfold Nd.given
    rw [hc, vX_is]
    cases vY l a b <;> rcases hf with rfl | rfl <;> rfl
  · right
    exact not_or.1 hf
theorem vA3 (l : List (Int × ByteArray)) (a b : Int) : (((vX l a b).seen (vM 1 5 9 5)).ansM (vM 1 5 9 5)).yes = false ∧ (((vX l a b).seen (vM 1 5 9 5)).ansM (vM 1 5 9 5)).term = 6 := by
  have hs : (vX l a b).seen (vM 1 5 9 5) = vX l a b := by
    unfold Nd.seen
    rw [if_neg (by rw [(vX_fits l a b).2.1]; show ¬ (6 : Int) < 5; decide)]
  rw [hs, vX_is]
  exact ⟨rfl, rfl⟩
set_option maxRecDepth 100000 in
set_option maxHeartbeats 8000000 in
theorem votes_walk (A0 : Option Addr) (ca : Nat) (mine : List Int) (ix trm : Int) (tw : Bool) (w : World) (hA : Has w w.heap.size A0 (is mine)) (hmi : ∀ x ∈ mine, I64 x) (hix : I64 ix) (htr : I64 trm) :
    Calls Try.prog 4 #[.slice A0 mine.length ca, .int .i64 ix, .int .i64 trm, .bool tw] w fun e w' => e = .returned (.bool true) ∧ w.grownBy w' none := by
  have KN := fun W => Lib.hid (known_any W)
  have NA0 := fun W => new_any 0 (by omega) W
  rw [show ((0 : Nat) : Int) = 0 from rfl] at NA0
  have NA := fun W => Lib.hid (NA0 W)
  have HA := Lib.hid hA
  have HMI := Lib.hid hmi
  have HIX := Lib.hid hix
  have HTR := Lib.hid htr
  clear NA0 hA hmi hix htr
  go_enter Try.func4, Try.ntmps4
  go_wp2_with fail
  refine (KN _).out.mono ?_
  rintro _ w1 ⟨rfl, g1⟩
  go_wp2_with fail
  refine (NA _).out.mono ?_
  rintro _ w2 ⟨rfl, g2⟩
  go_upto_region 4 with (refine wpList_store_new rfl _ _ rfl (newN 0) none 0 0 rfl rfl rfl ?_)
  have N3 := NB.new w2 (newN 0) (.slice none 0 0)
  have g3 := only_step (only_step g1 g2 (fun _ h => .inl h)) (World.grownBy_alloc w2 (.cells ((newN 0).cells (.slice none 0 0)) 37) none) (fun _ h => .inl h)
  have hb : w.heap.size ≤ w2.heap.size := Nat.le_trans g1.size g2.size
  obtain ⟨nb, hnb⟩ : ∃ nb, w2.heap.size = nb := ⟨_, rfl⟩
  obtain ⟨w3, hw3⟩ : ∃ w3, w2.alloc (.cells ((newN 0).cells (.slice none 0 0)) 37) = w3 := ⟨_, rfl⟩
  rw [hnb, hw3] at N3
  rw [hnb] at hb
  rw [hw3] at g3
  rw [hw3]
  try rw [hnb]
  have V3 := Lib.hid (show Vn w w3 nb (logN []) (.slice none 0 0) from ⟨N3, World.ownsRow_nil _ _ _ _, g3, hb⟩)
  clear N3 g1 g2 g3 hb hnb hw3 KN NA
  go_upto_block 0 with fail
  go_cut [11] (fun s11 wx => ∃ (l : List (Int × ByteArray)) (A : Option Addr) (c : Nat), Hid (l.length ≤ 8) ∧ Hid (∀ p ∈ l, 1 ≤ p.1 ∧ p.1 ≤ 5) ∧ Hid (Vn w wx nb (logN l) (.slice A l.length c)))
  case first =>
    go_wp2_with fail
    go_loopw [10, 11] (fun s10 s11 wr => ∃ (k : Nat) (lv : Int) (l : List (Int × ByteArray)) (A : Option Addr) (c : Nat), k ≤ 8 ∧ s11 = .int .i64 k ∧ s10 = .int .i64 lv ∧ 0 ≤ lv ∧ lv ≤ k ∧ Hid (l.length ≤ k) ∧ Hid (∀ p ∈ l, 1 ≤ p.1 ∧ p.1 ≤ 5) ∧ Hid (Vn w wr nb (logN l) (.slice A l.length c))) (fun _ s11 _ => 8 - (intOf s11).toNat)
    case atStart => exact ⟨0, 0, [], none, 0, by omega, rfl, rfl, by omega, by omega, Nat.zero_le _, fun p hp => (by cases hp), V3⟩
    case round =>
      clear V3
      obtain ⟨k, lv, l, A, c, hk, rfl, rfl, h0, h1, HL, HP, HV⟩ := hrel
      by_cases hkl : k < mine.length
      · by_cases hk8 : k < 8
        · have t1 : (k : Int) < (mine.length : Int) := by omega
          have t2 : (k : Int) < 8 := by omega
          have t3 : (0 : Int) ≤ (k : Int) := by omega
          obtain ⟨x, hx⟩ : ∃ x, x = mine[k] := ⟨_, rfl⟩
          have HX := Lib.hid (show I64 x by rw [hx]; exact HMI.out _ (List.getElem_mem hkl))
          have hat : (is mine)[k]? = some (.int .i64 x) := by rw [hx]; simp [is, hkl]
          obtain ⟨ab, off, rfl, hab, hc⟩ : ∃ b off, A0 = some ⟨b, off, none⟩ ∧ b < w.heap.size ∧ wr.cell? ⟨b, off + k, none⟩ = some (.int .i64 x) := by
            rcases HA.out with h0 | ⟨b, off, hA', hb, hc⟩
            · rw [h0] at hat; cases hat
            · exact ⟨b, off, hA', hb, (World.cell?_of_block (HV.out.gr.block b hb (by simp))).trans (hc k _ hat)⟩
          have r1 := Int.emod_nonneg x (show (2 : Int) ≠ 0 by decide)
          have r2 := Int.emod_lt_of_pos x (show (0 : Int) < 2 by decide)
          have WH := fun W => Lib.hid (within_any x 2 HX.out.1 HX.out.2 (by decide) (by decide) W)
          obtain ⟨r, hr⟩ : ∃ r, x % 2 = r := ⟨_, rfl⟩
          rw [hr] at WH r1 r2
          clear hx hat hab hr
          go_upto_region 9 with (go_at_call 13; refine (WH _).out.mono ?_; rintro _ wd ⟨rfl, rfl⟩)
          obtain ⟨v, hv⟩ : ∃ v, lv + r = v := ⟨_, rfl⟩
          rw [hv]
          have v0 : 0 ≤ v := by omega
          have v9 : v ≤ (k : Int) + 1 := by omega
          have HVV := Lib.hid (And.intro v0 v9)
          clear hv hc WH r1 r2 h0 h1
          have c6 := HV.out.nb.all.2.2.1
          have hlen := HL.out
          have hz := HV.out.gr.size
          by_cases a1 : v < 1
          · have a2 : ¬ (5 : Int) < 1 := by omega
            have sr := Lib.hid (src_entry wr (1, ({ data := #[] } : ByteArray)))
            have ga := World.grownBy_alloc wr (.cells #[.int .i64 (1), .string { data := #[] }] 49) none
            have RW := Lib.hid (HV.out.grow ga).row
            have bz := ga.size
            have GA := Lib.hid ga
            clear ga
            go_wp2_with (at_builtin; go_must (refine app_entry rfl _ _ rfl w.heap.size (.slice A l.length c) l.length (es l) RW.out (.slice (some ⟨wr.heap.size, 0, none⟩) 1 1) 1 (es [(1, ({ data := #[] } : ByteArray))]) sr.out rfl rfl (by omega) (by omega) ?_; intro v1 w5 g5; rw [← es_app] at g5; have hll : l.length + 1 = (l ++ [(1, ({ data := #[] } : ByteArray))]).length := (by simp); rw [hll] at g5; clear hll; obtain ⟨A5, c5, rfl⟩ := own_slice_w g5.own; obtain ⟨V5, d6, e6⟩ := HV.out.app GA.out g5; have HV5 := Lib.hid V5; clear V5 g5; obtain ⟨l5, hl5⟩ : ∃ l5, l ++ [(1, ({ data := #[] } : ByteArray))] = l5 := ⟨_, rfl⟩; rw [hl5] at HV5; rw [hl5]; have HL5 := Lib.hid hl5; clear hl5))
            go_roundw
            case rel => exact ⟨k + 1, v, l5, A5, c5, by omega, by go_num, rfl, HVV.out.1, by have := HVV.out.2; omega, by rw [← HL5.out]; have := HL.out; simp; omega, fun p hp => (by
              rw [← HL5.out] at hp
              rcases List.mem_append.1 hp with hp | hp
              · exact HP.out p hp
              · rw [List.mem_singleton] at hp; rw [hp]; show 1 ≤ (1) ∧ (1) ≤ 5; omega), HV5⟩
            case measure => simp [intOf]; omega
          · by_cases a2 : 5 < v
            · have a3 : (1 : Int) ≤ v := by omega
              have sr := Lib.hid (src_entry wr (5, ({ data := #[] } : ByteArray)))
              have ga := World.grownBy_alloc wr (.cells #[.int .i64 (5), .string { data := #[] }] 49) none
              have RW := Lib.hid (HV.out.grow ga).row
              have bz := ga.size
              have GA := Lib.hid ga
              clear ga
              go_wp2_with (at_builtin; go_must (refine app_entry rfl _ _ rfl w.heap.size (.slice A l.length c) l.length (es l) RW.out (.slice (some ⟨wr.heap.size, 0, none⟩) 1 1) 1 (es [(5, ({ data := #[] } : ByteArray))]) sr.out rfl rfl (by omega) (by omega) ?_; intro v1 w5 g5; rw [← es_app] at g5; have hll : l.length + 1 = (l ++ [(5, ({ data := #[] } : ByteArray))]).length := (by simp); rw [hll] at g5; clear hll; obtain ⟨A5, c5, rfl⟩ := own_slice_w g5.own; obtain ⟨V5, d6, e6⟩ := HV.out.app GA.out g5; have HV5 := Lib.hid V5; clear V5 g5; obtain ⟨l5, hl5⟩ : ∃ l5, l ++ [(5, ({ data := #[] } : ByteArray))] = l5 := ⟨_, rfl⟩; rw [hl5] at HV5; rw [hl5]; have HL5 := Lib.hid hl5; clear hl5))
              go_roundw
              case rel => exact ⟨k + 1, v, l5, A5, c5, by omega, by go_num, rfl, HVV.out.1, by have := HVV.out.2; omega, by rw [← HL5.out]; have := HL.out; simp; omega, fun p hp => (by
                rw [← HL5.out] at hp
                rcases List.mem_append.1 hp with hp | hp
                · exact HP.out p hp
                · rw [List.mem_singleton] at hp; rw [hp]; show 1 ≤ (5) ∧ (5) ≤ 5; omega), HV5⟩
              case measure => simp [intOf]; omega
            · have a3 : v ≤ 5 := by omega
              have sr := Lib.hid (src_entry wr (v, ({ data := #[] } : ByteArray)))
              have ga := World.grownBy_alloc wr (.cells #[.int .i64 (v), .string { data := #[] }] 49) none
              have RW := Lib.hid (HV.out.grow ga).row
              have bz := ga.size
              have GA := Lib.hid ga
              clear ga
              go_wp2_with (at_builtin; go_must (refine app_entry rfl _ _ rfl w.heap.size (.slice A l.length c) l.length (es l) RW.out (.slice (some ⟨wr.heap.size, 0, none⟩) 1 1) 1 (es [(v, ({ data := #[] } : ByteArray))]) sr.out rfl rfl (by omega) (by omega) ?_; intro v1 w5 g5; rw [← es_app] at g5; have hll : l.length + 1 = (l ++ [(v, ({ data := #[] } : ByteArray))]).length := (by simp); rw [hll] at g5; clear hll; obtain ⟨A5, c5, rfl⟩ := own_slice_w g5.own; obtain ⟨V5, d6, e6⟩ := HV.out.app GA.out g5; have HV5 := Lib.hid V5; clear V5 g5; obtain ⟨l5, hl5⟩ : ∃ l5, l ++ [(v, ({ data := #[] } : ByteArray))] = l5 := ⟨_, rfl⟩; rw [hl5] at HV5; rw [hl5]; have HL5 := Lib.hid hl5; clear hl5))
              go_roundw
              case rel => exact ⟨k + 1, v, l5, A5, c5, by omega, by go_num, rfl, HVV.out.1, by have := HVV.out.2; omega, by rw [← HL5.out]; have := HL.out; simp; omega, fun p hp => (by
                rw [← HL5.out] at hp
                rcases List.mem_append.1 hp with hp | hp
                · exact HP.out p hp
                · rw [List.mem_singleton] at hp; rw [hp]; show 1 ≤ (v) ∧ (v) ≤ 5; omega), HV5⟩
              case measure => simp [intOf]; omega
        · have t2 : ¬ (k : Int) < 8 := by omega
          have t1 : (k : Int) < (mine.length : Int) := by omega
          go_wp2_with fail
          go_meet
          exact ⟨l, A, c, by have := HL.out; unfold Hid; omega, HP, HV⟩
      · have t1 : ¬ (k : Int) < (mine.length : Int) := by omega
        go_wp2_with fail
        go_meet
        exact ⟨l, A, c, by have := HL.out; unfold Hid; omega, HP, HV⟩
  case rest =>
    clear V3
    obtain ⟨l, A, c, HL, HP, HV⟩ := hcut
    have q1 := HV.out.nb.all.2.1
    have f1 := HV.out.nb.fr 1
    go_upto_region 11 with fail
    obtain ⟨w4, hw4⟩ : ∃ w4, wc.setCell ⟨nb, 1, none⟩ (.int .i64 5) = w4 := ⟨_, rfl⟩
    have V4 := HV.out.set 1 (.int .i64 5) (vN l) rfl rfl
    rw [hw4] at V4
    rw [hw4]
    have HV4 := Lib.hid V4
    clear hw4 V4 HV q1 f1
    have LD := Lib.hid HV4.out.nb.load
    have hH := Has.own_w HV4.out.row
    have LC := Lib.hid (last_any (vN l) A c w4 hH (by show l.length ≤ _; have := HL.out; omega) ⟨by show (0 : Int) ≤ 0; omega, by show (0 : Int) ≤ _; omega⟩)
    have HH := Lib.hid hH
    clear hH
    obtain ⟨li, hli⟩ : ∃ x, (vN l).li = x := ⟨_, rfl⟩
    obtain ⟨lt, hlt⟩ : ∃ x, (vN l).lt = x := ⟨_, rfl⟩
    rw [hli, hlt] at LC
    have HLL := Lib.hid (And.intro hli hlt)
    clear hli hlt
    go_wp2_with (refine wpList_load_at rfl 37 (Operand.tmp 9) rfl _ _ LD.out rfl ?_)
    refine LC.out.mono ?_
    rintro _ w5 ⟨rfl, g5⟩
    have HV5 := Lib.hid (HV4.out.grow g5)
    clear LC LD HV4 HH g5
    have a1 := Int.emod_nonneg ix (show (10 : Int) ≠ 0 by decide)
    have a2 := Int.emod_lt_of_pos ix (show (0 : Int) < 10 by decide)
    have b1 := Int.emod_nonneg trm (show (7 : Int) ≠ 0 by decide)
    have b2 := Int.emod_lt_of_pos trm (show (0 : Int) < 7 by decide)
    have WA := Lib.hid (within_any ix 10 HIX.out.1 HIX.out.2 (by decide) (by decide) w5)
    have WB := Lib.hid (within_any trm 7 HTR.out.1 HTR.out.2 (by decide) (by decide) w5)
    obtain ⟨a, ha⟩ : ∃ a, ix % 10 = a := ⟨_, rfl⟩
    obtain ⟨b, hb⟩ : ∃ b, trm % 7 = b := ⟨_, rfl⟩
    rw [ha] at WA a1 a2
    rw [hb] at WB b1 b2
    clear ha hb
    go_wp2_with fail
    refine WA.out.mono ?_
    rintro _ wd ⟨rfl, rfl⟩
    go_wp2_with fail
    refine WB.out.mono ?_
    rintro _ wd ⟨rfl, rfl⟩
    clear WA WB
    have LD := Lib.hid HV5.out.nb.load
    have hH := Has.own_w HV5.out.row
    have TK := take_vote (vN l) A c 0 (vM 1 6 a b) w5 ⟨rfl, by omega, by show (0 : Int) ≤ 1 ∧ (1 : Int) ≤ 2; omega, by show (1 : Int) ≠ 0; decide, rfl, by show (1 : Int) ≤ 1 ∧ (1 : Int) ≤ 5; omega, by show (0 : Int) ≤ 6 ∧ (6 : Int) ≤ 1073741824; omega, ⟨none, 0, 0, rfl⟩⟩ rfl ⟨⟨by show (0 : Int) ≤ 0; omega, by show (0 : Int) ≤ _; omega⟩, by show l.length ≤ _; have := HL.out; omega⟩ hH
    simp only [Mg.val, vM] at TK
    have TKH := Lib.hid TK
    clear TK hH
    go_wp2_with (refine wpList_load_at rfl 37 (Operand.tmp 9) rfl _ _ LD.out rfl ?_)
    refine TKH.out.mono ?_
    rintro _ w6 ⟨A2, c2, B2, cb2, S2, rfl, hS2, hA2, hc2, hB2, hcb2, g6⟩
    have hX : ((vN l).seen (Mg.mk 1 1 0 6 a b 0 false (.slice none 0 0) { data := #[] })).voted (Mg.mk 1 1 0 6 a b 0 false (.slice none 0 0) { data := #[] }) = vX l a b := rfl
    rw [hX] at hA2 hc2
    rw [hX]
    obtain ⟨xn, hxn⟩ : ∃ x, vX l a b = x := ⟨_, rfl⟩
    obtain ⟨y, hy⟩ : ∃ y, vY l a b = y := ⟨_, rfl⟩
    obtain ⟨m1, hm1⟩ : ∃ m, ((vN l).seen (vM 1 6 a b)).ansM (vM 1 6 a b) = m := ⟨_, rfl⟩
    have hS3 : S2 = [m1] := by rw [← hm1]; exact hS2
    have hr := vR l a b
    rw [hm1, hy] at hr
    have hfit := vX_fits l a b
    rw [hxn] at hfit hA2 hc2
    rw [hxn]
    subst hS3
    obtain ⟨b2', off2, rfl, hbl, hc0, hc7, hc3⟩ := hB2.msg
    rw [hr.1] at hc0
    rw [hr.2.1] at hc7
    rw [hr.2.2] at hc3
    have hy2 : y = (decide (lt < b) || (b == lt && decide (li ≤ a))) := by rw [← hy, ← HLL.out.1, ← HLL.out.2]; rfl
    have HY2 := Lib.hid hy2
    have M7 := NB.new w6 xn (.slice A2 xn.log.length c2)
    have g7 := World.grownBy_alloc w6 (.cells (xn.cells (.slice A2 xn.log.length c2)) 37) none
    have G7 := only_step (only_step HV5.out.gr g6 (fun _ h => .inl h)) g7 (fun _ h => .inl h)
    have e0 := (World.cell?_of_block (a := ⟨b2', off2, none⟩) (g7.block b2' hbl (by simp))).trans hc0
    have e7 := (World.cell?_of_block (a := ⟨b2', off2 + 7, none⟩) (g7.block b2' hbl (by simp))).trans hc7
    have e3 := (World.cell?_of_block (a := ⟨b2', off2 + 3, none⟩) (g7.block b2' hbl (by simp))).trans hc3
    have e1 := M7.cell 1 (.int .i64 xn.term) rfl
    rw [hfit.2.1] at e1
    have hA7 := hA2.up g7
    obtain ⟨xb, hxb⟩ : ∃ xb, w6.heap.size = xb := ⟨_, rfl⟩
    obtain ⟨w7, hw7⟩ : ∃ w7, w6.alloc (.cells (xn.cells (.slice A2 xn.log.length c2)) 37) = w7 := ⟨_, rfl⟩
    rw [hw7] at G7 e0 e7 e3 e1 hA7 M7
    have HW7 := Lib.hid hw7
    have HXB := Lib.hid hxb
    rw [hxb] at e1 M7
    have HM7 := Lib.hid M7
    have HG7 := Lib.hid G7
    have HA7 := Lib.hid hA7
    have HXN := Lib.hid (And.intro hxn (And.intro hy hfit))
    clear hX hS2 hA2 hc2 hB2 hcb2 g6 hxn hy hm1 hr hfit hbl hc0 hc7 hc3 hy2 g7 G7 hA7 hw7 hxb M7 HV5 LD TKH HLL
    go_upto_region 14 with (refine wpList_store_new rfl _ _ rfl xn A2 xn.log.length c2 rfl rfl rfl ?_; rw [HW7.out])
    try rw [HXB.out]
    go_cut [16] (fun s16 wx => s16 = .bool y ∧ wx = w7)
    case first =>
      by_cases h1 : lt < b
      · have e : y = true := by rw [HY2.out, decide_eq_true h1]; rfl
        subst e
        go_wp2_with fail
        go_meet
        exact ⟨rfl, rfl⟩
      · by_cases h2 : b = lt
        · have b2 : (b == lt) = true := by rw [beq_iff_eq]; exact h2
          by_cases h3 : li ≤ a
          · have e : y = true := by rw [HY2.out, decide_eq_false h1, b2, decide_eq_true h3]; rfl
            subst e
            clear h2
            go_wp2_with fail
            go_meet
            exact ⟨rfl, rfl⟩
          · have e : y = false := by rw [HY2.out, decide_eq_false h1, b2, decide_eq_false h3]; rfl
            subst e
            clear h2
            go_wp2_with fail
            go_meet
            exact ⟨rfl, rfl⟩
        · have b2 : (b == lt) = false := by rw [beq_eq_false_iff_ne]; exact h2
          have e : y = false := by rw [HY2.out, decide_eq_false h1, b2]; rfl
          subst e
          clear h2
          go_wp2_with fail
          go_meet
          exact ⟨rfl, rfl⟩
    case rest =>
      obtain ⟨rfl, rfl⟩ := hcut
      obtain ⟨w7, rfl⟩ : ∃ x : World, x = wc := ⟨_, rfl⟩
      have yy : (y != y) = false := by simp
      go_upto_region 17 with fail
      clear e0 e7 e3 e1 yy
      have LX := Lib.hid HM7.out.load
      have hok : xn.ok := ⟨by rw [HXN.out.2.2.2.2.2]; decide, by rw [HXN.out.2.2.2.2.1]; have := HL.out; omega⟩
      have HOK := Lib.hid hok
      clear hok
      cases tw with
      | true =>
        have TK := take_vote xn A2 c2 0 (vM 1 6 9 6) w7 ⟨HXN.out.2.2.1, by omega, by show (0 : Int) ≤ 1 ∧ (1 : Int) ≤ 2; omega, by rw [HXN.out.2.2.1]; show (1 : Int) ≠ 0; decide, by rw [HXN.out.2.2.1]; rfl, by show (1 : Int) ≤ 1 ∧ (1 : Int) ≤ 5; omega, by show (0 : Int) ≤ 6 ∧ (6 : Int) ≤ 1073741824; omega, ⟨none, 0, 0, rfl⟩⟩ rfl HOK.out HA7.out
        simp only [Mg.val, vM] at TK
        have TKH := Lib.hid TK
        clear TK
        go_wp2_with (refine wpList_load_at rfl 37 (Operand.tmp 14) rfl _ _ LX.out rfl ?_)
        refine TKH.out.mono ?_
        rintro _ w8 ⟨A3, c3, B3, cb3, S3, rfl, hS3, hA3, hc3, hB3, hcb3, g8⟩
        obtain ⟨n3, hn3⟩ : ∃ x, (xn.seen (Mg.mk 1 1 0 6 9 6 0 false (.slice none 0 0) { data := #[] })).voted (Mg.mk 1 1 0 6 9 6 0 false (.slice none 0 0) { data := #[] }) = x := ⟨_, rfl⟩
        rw [hn3]
        obtain ⟨m3, hm3⟩ : ∃ m, (xn.seen (vM 1 6 9 6)).ansM (vM 1 6 9 6) = m := ⟨_, rfl⟩
        have hS4 : S3 = [m3] := by rw [← hm3]; exact hS3
        have hy3 : m3.yes = ((1 : Int) == 1 || !y) := by
          rw [← hm3, ← HXN.out.1, ← HXN.out.2.1]
          rcases vA2 HP.out a b 1 with h | h
          · exact h
          · omega
        subst hS4
        obtain ⟨b3', off3, rfl, hbl3, _, hc73, _⟩ := hB3.msg
        rw [hy3] at hc73
        have g9 := World.grownBy_alloc w8 (.cells (n3.cells (.slice A3 n3.log.length c3)) 37) none
        have G9 := only_step g8 g9 (fun _ h => .inl h)
        have d7 := (World.cell?_of_block (a := ⟨b3', off3 + 7, none⟩) (g9.block b3' hbl3 (by simp))).trans hc73
        obtain ⟨w9, hw9⟩ : ∃ w9, w8.alloc (.cells (n3.cells (.slice A3 n3.log.length c3)) 37) = w9 := ⟨_, rfl⟩
        rw [hw9] at G9 d7
        have hb9 : b3' < w9.heap.size := by have := g9.size; rw [hw9] at this; omega
        have HW9 := Lib.hid hw9
        have HG9 := Lib.hid G9
        clear hS3 hA3 hB3 hcb3 g8 hn3 hm3 hy3 hbl3 hc73 g9 G9 hw9 TKH hc3
        have LX9 := Lib.hid (HM7.out.grow HG9.out).load
        have HA9 := HA7.out.up HG9.out
        have TK := take_vote xn A2 c2 0 (vM 1 5 9 5) w9 ⟨HXN.out.2.2.1, by omega, by show (0 : Int) ≤ 1 ∧ (1 : Int) ≤ 2; omega, by rw [HXN.out.2.2.1]; show (1 : Int) ≠ 0; decide, by rw [HXN.out.2.2.1]; rfl, by show (1 : Int) ≤ 1 ∧ (1 : Int) ≤ 5; omega, by show (0 : Int) ≤ 5 ∧ (5 : Int) ≤ 1073741824; omega, ⟨none, 0, 0, rfl⟩⟩ rfl HOK.out HA9
        simp only [Mg.val, vM] at TK
        have TKH := Lib.hid TK
        clear TK HA9
        go_upto_region 21 with (refine wpList_store_new rfl _ _ rfl n3 A3 n3.log.length c3 rfl rfl rfl ?_; rw [HW9.out])
        go_wp2_with (refine wpList_load_at rfl 37 (Operand.tmp 14) rfl _ _ LX9.out rfl ?_)
        refine TKH.out.mono ?_
        rintro _ wA ⟨A4, c4, B4, cb4, S4, rfl, hS4, hA4, hc4, hB4, hcb4, gA⟩
        obtain ⟨n4, hn4⟩ : ∃ x, (xn.seen (Mg.mk 1 1 0 5 9 5 0 false (.slice none 0 0) { data := #[] })).voted (Mg.mk 1 1 0 5 9 5 0 false (.slice none 0 0) { data := #[] }) = x := ⟨_, rfl⟩
        rw [hn4]
        obtain ⟨m4, hm4⟩ : ∃ m, (xn.seen (vM 1 5 9 5)).ansM (vM 1 5 9 5) = m := ⟨_, rfl⟩
        have hS5 : S4 = [m4] := by rw [← hm4]; exact hS4
        have hv3 := vA3 l a b
        rw [HXN.out.1, hm4] at hv3
        subst hS5
        obtain ⟨b4', off4, rfl, hbl4, _, hc74, hc34⟩ := hB4.msg
        rw [hv3.1] at hc74
        rw [hv3.2] at hc34
        have gB := World.grownBy_alloc wA (.cells (n4.cells (.slice A4 n4.log.length c4)) 37) none
        have GB := only_step gA gB (fun _ h => .inl h)
        have k7 := (World.cell?_of_block (a := ⟨b4', off4 + 7, none⟩) (gB.block b4' hbl4 (by simp))).trans hc74
        have k3 := (World.cell?_of_block (a := ⟨b4', off4 + 3, none⟩) (gB.block b4' hbl4 (by simp))).trans hc34
        have k0 := (World.cell?_of_block (a := ⟨b3', off3 + 7, none⟩) (GB.block b3' hb9 (by simp))).trans d7
        obtain ⟨wB, hwB⟩ : ∃ wB, wA.alloc (.cells (n4.cells (.slice A4 n4.log.length c4)) 37) = wB := ⟨_, rfl⟩
        rw [hwB] at GB k7 k3 k0
        have HWB := Lib.hid hwB
        have HGB := Lib.hid (only_step (only_step HG7.out HG9.out (fun _ h => .inl h)) GB (fun _ h => .inl h))
        clear hS4 hA4 hB4 hcb4 gA hn4 hm4 hv3 hbl4 hc74 hc34 gB GB hwB TKH hc4 d7 hb9
        go_upto_region 22 with (refine wpList_store_new rfl _ _ rfl n4 A4 n4.log.length c4 rfl rfl rfl ?_; rw [HWB.out])
        cases y with
        | true =>
          go_wp2_with fail
          go_ret
          exact ⟨rfl, HGB.out⟩
        | false =>
          go_wp2_with fail
          go_ret
          exact ⟨rfl, HGB.out⟩
      | false =>
        have TK := take_vote xn A2 c2 0 (vM 2 6 9 6) w7 ⟨HXN.out.2.2.1, by omega, by show (0 : Int) ≤ 2 ∧ (2 : Int) ≤ 2; omega, by rw [HXN.out.2.2.1]; show (2 : Int) ≠ 0; decide, by rw [HXN.out.2.2.1]; rfl, by show (1 : Int) ≤ 1 ∧ (1 : Int) ≤ 5; omega, by show (0 : Int) ≤ 6 ∧ (6 : Int) ≤ 1073741824; omega, ⟨none, 0, 0, rfl⟩⟩ rfl HOK.out HA7.out
        simp only [Mg.val, vM] at TK
        have TKH := Lib.hid TK
        clear TK
        go_wp2_with (refine wpList_load_at rfl 37 (Operand.tmp 14) rfl _ _ LX.out rfl ?_)
        refine TKH.out.mono ?_
        rintro _ w8 ⟨A3, c3, B3, cb3, S3, rfl, hS3, hA3, hc3, hB3, hcb3, g8⟩
        obtain ⟨n3, hn3⟩ : ∃ x, (xn.seen (Mg.mk 1 2 0 6 9 6 0 false (.slice none 0 0) { data := #[] })).voted (Mg.mk 1 2 0 6 9 6 0 false (.slice none 0 0) { data := #[] }) = x := ⟨_, rfl⟩
        rw [hn3]
        obtain ⟨m3, hm3⟩ : ∃ m, (xn.seen (vM 2 6 9 6)).ansM (vM 2 6 9 6) = m := ⟨_, rfl⟩
        have hS4 : S3 = [m3] := by rw [← hm3]; exact hS3
        have hy3 : m3.yes = ((2 : Int) == 1 || !y) := by
          rw [← hm3, ← HXN.out.1, ← HXN.out.2.1]
          rcases vA2 HP.out a b 2 with h | h
          · exact h
          · omega
        subst hS4
        obtain ⟨b3', off3, rfl, hbl3, _, hc73, _⟩ := hB3.msg
        rw [hy3] at hc73
        have g9 := World.grownBy_alloc w8 (.cells (n3.cells (.slice A3 n3.log.length c3)) 37) none
        have G9 := only_step g8 g9 (fun _ h => .inl h)
        have d7 := (World.cell?_of_block (a := ⟨b3', off3 + 7, none⟩) (g9.block b3' hbl3 (by simp))).trans hc73
        obtain ⟨w9, hw9⟩ : ∃ w9, w8.alloc (.cells (n3.cells (.slice A3 n3.log.length c3)) 37) = w9 := ⟨_, rfl⟩
        rw [hw9] at G9 d7
        have hb9 : b3' < w9.heap.size := by have := g9.size; rw [hw9] at this; omega
        have HW9 := Lib.hid hw9
        have HG9 := Lib.hid G9
        clear hS3 hA3 hB3 hcb3 g8 hn3 hm3 hy3 hbl3 hc73 g9 G9 hw9 TKH hc3
        have LX9 := Lib.hid (HM7.out.grow HG9.out).load
        have HA9 := HA7.out.up HG9.out
        have TK := take_vote xn A2 c2 0 (vM 1 5 9 5) w9 ⟨HXN.out.2.2.1, by omega, by show (0 : Int) ≤ 1 ∧ (1 : Int) ≤ 2; omega, by rw [HXN.out.2.2.1]; show (1 : Int) ≠ 0; decide, by rw [HXN.out.2.2.1]; rfl, by show (1 : Int) ≤ 1 ∧ (1 : Int) ≤ 5; omega, by show (0 : Int) ≤ 5 ∧ (5 : Int) ≤ 1073741824; omega, ⟨none, 0, 0, rfl⟩⟩ rfl HOK.out HA9
        simp only [Mg.val, vM] at TK
        have TKH := Lib.hid TK
        clear TK HA9
        go_upto_region 21 with (refine wpList_store_new rfl _ _ rfl n3 A3 n3.log.length c3 rfl rfl rfl ?_; rw [HW9.out])
        go_wp2_with (refine wpList_load_at rfl 37 (Operand.tmp 14) rfl _ _ LX9.out rfl ?_)
        refine TKH.out.mono ?_
        rintro _ wA ⟨A4, c4, B4, cb4, S4, rfl, hS4, hA4, hc4, hB4, hcb4, gA⟩
        obtain ⟨n4, hn4⟩ : ∃ x, (xn.seen (Mg.mk 1 1 0 5 9 5 0 false (.slice none 0 0) { data := #[] })).voted (Mg.mk 1 1 0 5 9 5 0 false (.slice none 0 0) { data := #[] }) = x := ⟨_, rfl⟩
        rw [hn4]
        obtain ⟨m4, hm4⟩ : ∃ m, (xn.seen (vM 1 5 9 5)).ansM (vM 1 5 9 5) = m := ⟨_, rfl⟩
        have hS5 : S4 = [m4] := by rw [← hm4]; exact hS4
        have hv3 := vA3 l a b
        rw [HXN.out.1, hm4] at hv3
        subst hS5
        obtain ⟨b4', off4, rfl, hbl4, _, hc74, hc34⟩ := hB4.msg
        rw [hv3.1] at hc74
        rw [hv3.2] at hc34
        have gB := World.grownBy_alloc wA (.cells (n4.cells (.slice A4 n4.log.length c4)) 37) none
        have GB := only_step gA gB (fun _ h => .inl h)
        have k7 := (World.cell?_of_block (a := ⟨b4', off4 + 7, none⟩) (gB.block b4' hbl4 (by simp))).trans hc74
        have k3 := (World.cell?_of_block (a := ⟨b4', off4 + 3, none⟩) (gB.block b4' hbl4 (by simp))).trans hc34
        have k0 := (World.cell?_of_block (a := ⟨b3', off3 + 7, none⟩) (GB.block b3' hb9 (by simp))).trans d7
        obtain ⟨wB, hwB⟩ : ∃ wB, wA.alloc (.cells (n4.cells (.slice A4 n4.log.length c4)) 37) = wB := ⟨_, rfl⟩
        rw [hwB] at GB k7 k3 k0
        have HWB := Lib.hid hwB
        have HGB := Lib.hid (only_step (only_step HG7.out HG9.out (fun _ h => .inl h)) GB (fun _ h => .inl h))
        clear hS4 hA4 hB4 hcb4 gA hn4 hm4 hv3 hbl4 hc74 hc34 gB GB hwB TKH hc4 d7 hb9
        go_upto_region 22 with (refine wpList_store_new rfl _ _ rfl n4 A4 n4.log.length c4 rfl rfl rfl ?_; rw [HWB.out])
        cases y with
        | true =>
          go_wp2_with fail
          go_ret
          exact ⟨rfl, HGB.out⟩
        | false =>
          go_wp2_with fail
          go_ret
          exact ⟨rfl, HGB.out⟩
end Go.Proofs.Ytjhnipnocjoelaa
