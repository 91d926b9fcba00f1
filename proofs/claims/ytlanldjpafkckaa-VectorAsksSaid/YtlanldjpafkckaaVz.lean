/- The walk of VectorJoins: it returns true for every input. No condition. -/
import Derived.Test.YtlanldjpafkckaaQg
namespace Go.Proofs.Ytlanldjpafkckaa
open Go.RowKit Go.Deep

theorem mrg_le (l m : List E3) (hl : Ok7 l) (hm : Ok7 m) : vle l (vmrg l m) ∧ vle m (vmrg l m) := by
  have pj := vmrg_pos l m hl.pos hm.pos
  constructor
  · rw [vle_iff _ _ hl.srt pj]
    intro d e; rw [vget_mrg l m d e hl.srt hm.srt hl.pos hm.pos]; omega
  · rw [vle_iff _ _ hm.srt pj]
    intro d e; rw [vget_mrg l m d e hl.srt hm.srt hl.pos hm.pos]; omega
theorem mrg_comm (l m : List E3) (hl : Ok7 l) (hm : Ok7 m) : vmrg l m = vmrg m l :=
  vext _ _ (vmrg_srt l m hl.srt hm.srt) (vmrg_srt m l hm.srt hl.srt) (vmrg_pos l m hl.pos hm.pos) (vmrg_pos m l hm.pos hl.pos) fun d e => by
    rw [vget_mrg l m d e hl.srt hm.srt hl.pos hm.pos, vget_mrg m l d e hm.srt hl.srt hm.pos hl.pos]; omega
theorem mrg_assoc (l m n : List E3) (hl : Ok7 l) (hm : Ok7 m) (hn : Ok7 n) : vmrg (vmrg l m) n = vmrg l (vmrg m n) := by
  have s1 := vmrg_srt l m hl.srt hm.srt
  have p1 := vmrg_pos l m hl.pos hm.pos
  have s2 := vmrg_srt m n hm.srt hn.srt
  have p2 := vmrg_pos m n hm.pos hn.pos
  exact vext _ _ (vmrg_srt _ n s1 hn.srt) (vmrg_srt l _ hl.srt s2) (vmrg_pos _ n p1 hn.pos) (vmrg_pos l _ hl.pos p2) fun d e => by
    rw [vget_mrg _ n d e s1 hn.srt p1 hn.pos, vget_mrg l _ d e hl.srt s2 hl.pos p2, vget_mrg l m d e hl.srt hm.srt hl.pos hm.pos, vget_mrg m n d e hm.srt hn.srt hm.pos hn.pos]; omega
theorem mrg_self (l : List E3) (hl : Ok7 l) : vmrg l l = l :=
  vext _ _ (vmrg_srt l l hl.srt hl.srt) hl.srt (vmrg_pos l l hl.pos hl.pos) hl.pos fun d e => by
    rw [vget_mrg l l d e hl.srt hl.srt hl.pos hl.pos]; omega
theorem mrg_least (l m n : List E3) (hl : Ok7 l) (hm : Ok7 m) (hn : Ok7 n) (h1 : vle l n) (h2 : vle m n) : vle (vmrg l m) n := by
  rw [vle_iff _ _ (vmrg_srt l m hl.srt hm.srt) hn.pos]
  intro d e
  have a := (vle_iff l n hl.srt hn.pos).1 h1 d e
  have b := (vle_iff m n hm.srt hn.pos).1 h2 d e
  rw [vget_mrg l m d e hl.srt hm.srt hl.pos hm.pos]; omega
theorem le_anti (l m : List E3) (hl : Ok7 l) (hm : Ok7 m) : (vle l m ∧ vle m l) ↔ l = m := by
  constructor
  · rintro ⟨h1, h2⟩
    exact vext _ _ hl.srt hm.srt hl.pos hm.pos fun d e => by
      have a := (vle_iff l m hl.srt hm.pos).1 h1 d e
      have b := (vle_iff m l hm.srt hl.pos).1 h2 d e
      omega
  · rintro rfl
    have : vle l l := (vle_iff l l hl.srt hl.pos).2 fun d e => Int.le_refl _
    exact ⟨this, this⟩
/-- A vector of the law's, read in every world behind w. -/
def Lv (w : World) (A : Option Addr) (c : Nat) (l : List E3) : Prop := ∀ V, w.grownBy V none → Vw V V.heap.size A c l
theorem Lv.of {w : World} {A : Option Addr} {c : Nat} {l : List E3} (h : Vw w w.heap.size A c l) : Lv w A c l := fun _ hV => h.up hV
theorem Lv.on {w w' : World} {A : Option Addr} {c : Nat} {l : List E3} (h : Lv w A c l) (g : w.grownBy w' none) : Lv w' A c l := fun V hV => h V (grow2 g hV)
theorem le_lv {w : World} {A A' : Option Addr} {c c' : Nat} {l m : List E3} (h : Lv w A c l) (k : Lv w A' c' m) (hs : Srt m) (hl : l.length ≤ 1073741824) (hm : m.length ≤ 1073741824) (r : Bool) (hr : r = true ↔ vle l m) {V : World} (g : w.grownBy V none) :
    Calls Try.prog 21 #[.slice A l.length c, .slice A' m.length c'] V fun e w' => e = .returned (.bool r) ∧ w.grownBy w' none := by
  have := le_any A c l A' c' m V (h V g).has (k V g).has hs (by omega) (by omega)
  rw [show decide (vle l m) = r by cases r <;> simp_all] at this
  exact this.mono fun _ _ h => ⟨h.1, grow2 g h.2⟩
theorem same_lv {w : World} {A A' : Option Addr} {c c' : Nat} {l m : List E3} (h : Lv w A c l) (k : Lv w A' c' m) (hl : l.length ≤ 1073741824) (r : Bool) (hr : r = true ↔ l = m) {V : World} (g : w.grownBy V none) :
    Calls Try.prog 14 #[.slice A l.length c, .slice A' m.length c'] V fun e w' => e = .returned (.bool r) ∧ w.grownBy w' none :=
  (same_any A c l A' c' m V (h V g).has (k V g).has (by omega) r hr).mono fun _ _ h => ⟨h.1, grow2 g h.2⟩
def GotL (w : World) (L : List E3) (e : Ending) (w' : World) : Prop := ∃ A c, e = .returned (.slice A L.length c) ∧ Lv w' A c L ∧ w.grownBy w' none
theorem join_lv {w : World} {A A' : Option Addr} {c c' : Nat} {l m : List E3} (h : Lv w A c l) (k : Lv w A' c' m) (hl : l.length ≤ 1073741824) (hm : m.length ≤ 1073741824) {V : World} (g : w.grownBy V none) :
    Calls Try.prog 19 #[.slice A l.length c, .slice A' m.length c'] V (GotL w (vmrg l m)) :=
  (join_any A c l A' c' m V (h V g) (k V g) hl hm).mono fun e w' ⟨v, he, ho, hg⟩ => by
    obtain ⟨A3, c3, rfl⟩ := own_slice_w ho
    exact ⟨A3, c3, he, Lv.of (Vw.own ho).1, grow2 g hg⟩
theorem of_lv (A : Option Addr) (c : Nat) (ns : List Int) (w : World) (h : Has w w.heap.size A (is_ ns)) (hb : ∀ n ∈ ns, -9223372036854775808 ≤ n ∧ n ≤ 9223372036854775807) :
    Calls Try.prog 10 #[.slice A ns.length c] w fun e w' => ∃ A' c' l, e = .returned (.slice A' l.length c') ∧ Lv w' A' c' l ∧ Ok7 l ∧ w.grownBy w' none :=
  (of_any A c ns w h hb).mono fun e w' ⟨v, l, he, ho, ok, hg⟩ => by
    obtain ⟨A3, c3, rfl⟩ := own_slice_w ho
    exact ⟨A3, c3, l, he, Lv.of (Vw.own ho).1, ok, hg⟩

set_option maxRecDepth 100000 in
set_option maxHeartbeats 8000000 in
theorem vectorJoins_walk (A0 : Option Addr) (c0 : Nat) (ns : List Int) (A1 : Option Addr) (c1 : Nat) (ms : List Int) (A2 : Option Addr) (c2 : Nat) (os : List Int) (w : World) (h : Has w w.heap.size A0 (is_ ns)) (hb : ∀ n ∈ ns, -9223372036854775808 ≤ n ∧ n ≤ 9223372036854775807) (h1 : Has w w.heap.size A1 (is_ ms)) (hb1 : ∀ n ∈ ms, -9223372036854775808 ≤ n ∧ n ≤ 9223372036854775807)
    (h2 : Has w w.heap.size A2 (is_ os)) (hb2 : ∀ n ∈ os, -9223372036854775808 ≤ n ∧ n ≤ 9223372036854775807) :
    Calls Try.prog 4 #[.slice A0 ns.length c0, .slice A1 ms.length c1, .slice A2 os.length c2] w fun e w' => e = .returned (.bool true) ∧ w.grownBy w' none := by
  have HA := Lib.hid h
  have HB := Lib.hid hb
  have HA1 := Lib.hid h1
  have HB1 := Lib.hid hb1
  have HA2 := Lib.hid h2
  have HB2 := Lib.hid hb2
  clear h hb h1 hb1 h2 hb2
  go_enter Try.func4, Try.ntmps4
  go_wp2_with fail
  refine (known_any _).mono ?_
  rintro _ w1 ⟨rfl, g1⟩
  have G1 := Lib.hid g1
  go_wp2_with fail
  refine (of_lv A0 c0 ns w1 (HA.out.up G1.out) HB.out).mono ?_
  rintro _ w2 ⟨Ax, cx, x, rfl, lx, ok, g2⟩
  have LX := Lib.hid lx
  have OX := Lib.hid ok
  have xl : x.length ≤ 12 := ok.len
  have G2 := Lib.hid (grow2 g1 g2)
  clear lx ok g1 g2
  go_wp2_with fail
  refine (of_lv A1 c1 ms w2 (HA1.out.up G2.out) HB1.out).mono ?_
  rintro _ w3 ⟨Ay, cy, y, rfl, ly, ok, g3⟩
  have LY := Lib.hid ly
  have OY := Lib.hid ok
  have yl : y.length ≤ 12 := ok.len
  have LX := Lib.hid (LX.out.on g3)
  have G3 := Lib.hid (grow2 G2.out g3)
  clear ly ok g3
  go_wp2_with fail
  refine (of_lv A2 c2 os w3 (HA2.out.up G3.out) HB2.out).mono ?_
  rintro _ w4 ⟨Az, cz, z, rfl, lz, ok, g4⟩
  have LZ := Lib.hid lz
  have OZ := Lib.hid ok
  have zl : z.length ≤ 12 := ok.len
  have LX := Lib.hid (LX.out.on g4)
  have LY := Lib.hid (LY.out.on g4)
  have G4 := Lib.hid (grow2 G3.out g4)
  clear lz ok g4 HA HB HA1 HB1 HA2 HB2 G1 G2 G3
  have MLE := Lib.hid (mrg_le x y OX.out OY.out)
  have MCO := Lib.hid (mrg_comm x y OX.out OY.out)
  have MAS := Lib.hid (mrg_assoc x y z OX.out OY.out OZ.out)
  have MSE := Lib.hid (mrg_self x OX.out)
  have MLS := Lib.hid (mrg_least x y z OX.out OY.out OZ.out)
  have MSR := Lib.hid (vmrg_srt x y OX.out.srt OY.out.srt)
  have LAN := Lib.hid (le_anti x y OX.out OY.out)
  obtain ⟨j, hj⟩ : ∃ j, j = vmrg x y := ⟨_, rfl⟩
  have jl : j.length ≤ 24 := by rw [hj]; have := vmrg_len x y; omega
  obtain ⟨k, hk⟩ : ∃ k, k = vmrg y z := ⟨_, rfl⟩
  have kl : k.length ≤ 24 := by rw [hk]; have := vmrg_len y z; omega
  rw [← hj, ← hk] at MAS
  rw [← hj] at MLE MLS MSR MCO
  obtain ⟨q, hq⟩ : ∃ q, q = vmrg j z := ⟨_, rfl⟩
  have ql : q.length ≤ 36 := by rw [hq]; have := vmrg_len j z; omega
  rw [← hq] at MAS
  have JH := Lib.hid hj
  have KH := Lib.hid hk
  have QH := Lib.hid hq
  clear hj hk hq
  have JJ := Lib.hid (join_lv LX.out LY.out (by omega) (by omega) (only_refl w4 none))
  rw [← JH.out] at JJ
  go_wp2_with fail
  refine JJ.out.mono ?_
  rintro _ w5 ⟨Aj, cj, rfl, l_, g5⟩
  have LJ := Lib.hid l_
  have LX := Lib.hid (LX.out.on g5)
  have LY := Lib.hid (LY.out.on g5)
  have LZ := Lib.hid (LZ.out.on g5)
  have G5 := Lib.hid (grow2 G4.out g5)
  clear JJ l_ g5 G4
  go_wp2_with fail
  refine (le_lv LX.out LJ.out MSR.out (by omega) (by omega) true (by simp [MLE.out.1]) (only_refl w5 none)).mono ?_
  rintro _ w6 ⟨rfl, g6⟩
  have LX := Lib.hid (LX.out.on g6)
  have LY := Lib.hid (LY.out.on g6)
  have LZ := Lib.hid (LZ.out.on g6)
  have LJ := Lib.hid (LJ.out.on g6)
  have G6 := Lib.hid (grow2 G5.out g6)
  clear g6 G5
  go_wp2_with fail
  refine (le_lv LY.out LJ.out MSR.out (by omega) (by omega) true (by simp [MLE.out.2]) (only_refl w6 none)).mono ?_
  rintro _ w7 ⟨rfl, g7⟩
  have LX := Lib.hid (LX.out.on g7)
  have LY := Lib.hid (LY.out.on g7)
  have LZ := Lib.hid (LZ.out.on g7)
  have LJ := Lib.hid (LJ.out.on g7)
  have G7 := Lib.hid (grow2 G6.out g7)
  clear g7 G6
  have JJ := Lib.hid (join_lv LY.out LX.out (by omega) (by omega) (only_refl w7 none))
  rw [← MCO.out] at JJ
  go_wp2_with fail
  refine JJ.out.mono ?_
  rintro _ w8 ⟨Ar, cr, rfl, l_, g8⟩
  have LR := Lib.hid l_
  have LX := Lib.hid (LX.out.on g8)
  have LY := Lib.hid (LY.out.on g8)
  have LZ := Lib.hid (LZ.out.on g8)
  have LJ := Lib.hid (LJ.out.on g8)
  have G8 := Lib.hid (grow2 G7.out g8)
  clear JJ l_ g8 G7
  go_wp2_with fail
  refine (same_lv LJ.out LR.out (by omega) true (by simp) (only_refl w8 none)).mono ?_
  rintro _ w9 ⟨rfl, g9⟩
  have LX := Lib.hid (LX.out.on g9)
  have LY := Lib.hid (LY.out.on g9)
  have LZ := Lib.hid (LZ.out.on g9)
  have LJ := Lib.hid (LJ.out.on g9)
  have G9 := Lib.hid (grow2 G8.out g9)
  clear g9 G8 LR
  have JJ := Lib.hid (join_lv LJ.out LZ.out (by omega) (by omega) (only_refl w9 none))
  rw [← QH.out] at JJ
  go_wp2_with fail
  refine JJ.out.mono ?_
  rintro _ w10 ⟨Aq, cq, rfl, l_, g10⟩
  have LQ := Lib.hid l_
  have LX := Lib.hid (LX.out.on g10)
  have LY := Lib.hid (LY.out.on g10)
  have LZ := Lib.hid (LZ.out.on g10)
  have LJ := Lib.hid (LJ.out.on g10)
  have G10 := Lib.hid (grow2 G9.out g10)
  clear JJ l_ g10 G9
  have JJ := Lib.hid (join_lv LY.out LZ.out (by omega) (by omega) (only_refl w10 none))
  rw [← KH.out] at JJ
  go_wp2_with fail
  refine JJ.out.mono ?_
  rintro _ w11 ⟨Ak, ck, rfl, l_, g11⟩
  have LK := Lib.hid l_
  have LX := Lib.hid (LX.out.on g11)
  have LY := Lib.hid (LY.out.on g11)
  have LZ := Lib.hid (LZ.out.on g11)
  have LJ := Lib.hid (LJ.out.on g11)
  have LQ := Lib.hid (LQ.out.on g11)
  have G11 := Lib.hid (grow2 G10.out g11)
  clear JJ l_ g11 G10
  have JJ := Lib.hid (join_lv LX.out LK.out (by omega) (by omega) (only_refl w11 none))
  rw [← MAS.out] at JJ
  go_wp2_with fail
  refine JJ.out.mono ?_
  rintro _ w12 ⟨As, cs, rfl, l_, g12⟩
  have LS := Lib.hid l_
  have LX := Lib.hid (LX.out.on g12)
  have LY := Lib.hid (LY.out.on g12)
  have LZ := Lib.hid (LZ.out.on g12)
  have LJ := Lib.hid (LJ.out.on g12)
  have LQ := Lib.hid (LQ.out.on g12)
  have LK := Lib.hid (LK.out.on g12)
  have G12 := Lib.hid (grow2 G11.out g12)
  clear JJ l_ g12 G11
  go_wp2_with fail
  refine (same_lv LQ.out LS.out (by omega) true (by simp) (only_refl w12 none)).mono ?_
  rintro _ w13 ⟨rfl, g13⟩
  have LX := Lib.hid (LX.out.on g13)
  have LY := Lib.hid (LY.out.on g13)
  have LZ := Lib.hid (LZ.out.on g13)
  have LJ := Lib.hid (LJ.out.on g13)
  have G13 := Lib.hid (grow2 G12.out g13)
  clear g13 G12 LS LQ LK
  have JJ := Lib.hid (join_lv LX.out LX.out (by omega) (by omega) (only_refl w13 none))
  rw [MSE.out] at JJ
  go_wp2_with fail
  refine JJ.out.mono ?_
  rintro _ w14 ⟨At, ct, rfl, l_, g14⟩
  have LT := Lib.hid l_
  have LX := Lib.hid (LX.out.on g14)
  have LY := Lib.hid (LY.out.on g14)
  have LZ := Lib.hid (LZ.out.on g14)
  have LJ := Lib.hid (LJ.out.on g14)
  have G14 := Lib.hid (grow2 G13.out g14)
  clear JJ l_ g14 G13
  go_wp2_with fail
  refine (same_lv LT.out LX.out (by omega) true (by simp) (only_refl w14 none)).mono ?_
  rintro _ w15 ⟨rfl, g15⟩
  have LX := Lib.hid (LX.out.on g15)
  have LY := Lib.hid (LY.out.on g15)
  have LZ := Lib.hid (LZ.out.on g15)
  have LJ := Lib.hid (LJ.out.on g15)
  have G15 := Lib.hid (grow2 G14.out g15)
  clear g15 G14 LT
  cases hq1 : decide (vle x z)
  · have H1 := of_decide_eq_false hq1
    have H1 := Lib.hid H1
    clear hq1
    go_wp2_with fail
    refine (le_lv LX.out LZ.out OZ.out.srt (by omega) (by omega) false (by simp [H1.out]) (only_refl w15 none)).mono ?_
    rintro _ w16 ⟨rfl, g16⟩
    have LX := Lib.hid (LX.out.on g16)
    have LY := Lib.hid (LY.out.on g16)
    have LZ := Lib.hid (LZ.out.on g16)
    have LJ := Lib.hid (LJ.out.on g16)
    have G16 := Lib.hid (grow2 G15.out g16)
    clear g16 G15
    cases hr1 : decide (vle x y)
    · have R1 := Lib.hid (of_decide_eq_false hr1)
      have NE : Hid (¬ x = y) := Lib.hid (fun h => R1.out (LAN.out.2 h).1)
      clear hr1
      go_wp2_with fail
      refine (le_lv LX.out LY.out OY.out.srt (by omega) (by omega) false (by simp [R1.out]) (only_refl w16 none)).mono ?_
      rintro _ w17 ⟨rfl, g17⟩
      have LX := Lib.hid (LX.out.on g17)
      have LY := Lib.hid (LY.out.on g17)
      have LZ := Lib.hid (LZ.out.on g17)
      have LJ := Lib.hid (LJ.out.on g17)
      have G17 := Lib.hid (grow2 G16.out g17)
      clear g17 G16
      go_wp2_with fail
      refine (same_lv LX.out LY.out (by omega) false (by simp [NE.out]) (only_refl w17 none)).mono ?_
      rintro _ w18 ⟨rfl, g18⟩
      have LX := Lib.hid (LX.out.on g18)
      have LY := Lib.hid (LY.out.on g18)
      have LZ := Lib.hid (LZ.out.on g18)
      have LJ := Lib.hid (LJ.out.on g18)
      have G18 := Lib.hid (grow2 G17.out g18)
      clear g18 G17
      go_wp2_with fail
      go_ret
      exact ⟨rfl, G18.out⟩
    · have R1 := Lib.hid (of_decide_eq_true hr1)
      clear hr1
      cases hr2 : decide (vle y x)
      · have R2 := Lib.hid (of_decide_eq_false hr2)
        have NE : Hid (¬ x = y) := Lib.hid (fun h => R2.out (LAN.out.2 h).2)
        clear hr2
        go_wp2_with fail
        refine (le_lv LX.out LY.out OY.out.srt (by omega) (by omega) true (by simp [R1.out]) (only_refl w16 none)).mono ?_
        rintro _ w17 ⟨rfl, g17⟩
        have LX := Lib.hid (LX.out.on g17)
        have LY := Lib.hid (LY.out.on g17)
        have LZ := Lib.hid (LZ.out.on g17)
        have LJ := Lib.hid (LJ.out.on g17)
        have G17 := Lib.hid (grow2 G16.out g17)
        clear g17 G16
        go_wp2_with fail
        refine (le_lv LY.out LX.out OX.out.srt (by omega) (by omega) false (by simp [R2.out]) (only_refl w17 none)).mono ?_
        rintro _ w18 ⟨rfl, g18⟩
        have LX := Lib.hid (LX.out.on g18)
        have LY := Lib.hid (LY.out.on g18)
        have LZ := Lib.hid (LZ.out.on g18)
        have LJ := Lib.hid (LJ.out.on g18)
        have G18 := Lib.hid (grow2 G17.out g18)
        clear g18 G17
        go_wp2_with fail
        refine (same_lv LX.out LY.out (by omega) false (by simp [NE.out]) (only_refl w18 none)).mono ?_
        rintro _ w19 ⟨rfl, g19⟩
        have LX := Lib.hid (LX.out.on g19)
        have LY := Lib.hid (LY.out.on g19)
        have LZ := Lib.hid (LZ.out.on g19)
        have LJ := Lib.hid (LJ.out.on g19)
        have G19 := Lib.hid (grow2 G18.out g19)
        clear g19 G18
        go_wp2_with fail
        go_ret
        exact ⟨rfl, G19.out⟩
      · have R2 := Lib.hid (of_decide_eq_true hr2)
        have NE : Hid (x = y) := Lib.hid (LAN.out.1 ⟨R1.out, R2.out⟩)
        clear hr2
        go_wp2_with fail
        refine (le_lv LX.out LY.out OY.out.srt (by omega) (by omega) true (by simp [R1.out]) (only_refl w16 none)).mono ?_
        rintro _ w17 ⟨rfl, g17⟩
        have LX := Lib.hid (LX.out.on g17)
        have LY := Lib.hid (LY.out.on g17)
        have LZ := Lib.hid (LZ.out.on g17)
        have LJ := Lib.hid (LJ.out.on g17)
        have G17 := Lib.hid (grow2 G16.out g17)
        clear g17 G16
        go_wp2_with fail
        refine (le_lv LY.out LX.out OX.out.srt (by omega) (by omega) true (by simp [R2.out]) (only_refl w17 none)).mono ?_
        rintro _ w18 ⟨rfl, g18⟩
        have LX := Lib.hid (LX.out.on g18)
        have LY := Lib.hid (LY.out.on g18)
        have LZ := Lib.hid (LZ.out.on g18)
        have LJ := Lib.hid (LJ.out.on g18)
        have G18 := Lib.hid (grow2 G17.out g18)
        clear g18 G17
        go_wp2_with fail
        refine (same_lv LX.out LY.out (by omega) true (by simp [NE.out]) (only_refl w18 none)).mono ?_
        rintro _ w19 ⟨rfl, g19⟩
        have LX := Lib.hid (LX.out.on g19)
        have LY := Lib.hid (LY.out.on g19)
        have LZ := Lib.hid (LZ.out.on g19)
        have LJ := Lib.hid (LJ.out.on g19)
        have G19 := Lib.hid (grow2 G18.out g19)
        clear g19 G18
        go_wp2_with fail
        go_ret
        exact ⟨rfl, G19.out⟩
  · have H1 := of_decide_eq_true hq1
    have H1 := Lib.hid H1
    clear hq1
    cases hq2 : decide (vle y z)
    · have H2 := of_decide_eq_false hq2
      have H2 := Lib.hid H2
      clear hq2
      go_wp2_with fail
      refine (le_lv LX.out LZ.out OZ.out.srt (by omega) (by omega) true (by simp [H1.out]) (only_refl w15 none)).mono ?_
      rintro _ w16 ⟨rfl, g16⟩
      have LX := Lib.hid (LX.out.on g16)
      have LY := Lib.hid (LY.out.on g16)
      have LZ := Lib.hid (LZ.out.on g16)
      have LJ := Lib.hid (LJ.out.on g16)
      have G16 := Lib.hid (grow2 G15.out g16)
      clear g16 G15
      go_wp2_with fail
      refine (le_lv LY.out LZ.out OZ.out.srt (by omega) (by omega) false (by simp [H2.out]) (only_refl w16 none)).mono ?_
      rintro _ w17 ⟨rfl, g17⟩
      have LX := Lib.hid (LX.out.on g17)
      have LY := Lib.hid (LY.out.on g17)
      have LZ := Lib.hid (LZ.out.on g17)
      have LJ := Lib.hid (LJ.out.on g17)
      have G17 := Lib.hid (grow2 G16.out g17)
      clear g17 G16
      cases hr1 : decide (vle x y)
      · have R1 := Lib.hid (of_decide_eq_false hr1)
        have NE : Hid (¬ x = y) := Lib.hid (fun h => R1.out (LAN.out.2 h).1)
        clear hr1
        go_wp2_with fail
        refine (le_lv LX.out LY.out OY.out.srt (by omega) (by omega) false (by simp [R1.out]) (only_refl w17 none)).mono ?_
        rintro _ w18 ⟨rfl, g18⟩
        have LX := Lib.hid (LX.out.on g18)
        have LY := Lib.hid (LY.out.on g18)
        have LZ := Lib.hid (LZ.out.on g18)
        have LJ := Lib.hid (LJ.out.on g18)
        have G18 := Lib.hid (grow2 G17.out g18)
        clear g18 G17
        go_wp2_with fail
        refine (same_lv LX.out LY.out (by omega) false (by simp [NE.out]) (only_refl w18 none)).mono ?_
        rintro _ w19 ⟨rfl, g19⟩
        have LX := Lib.hid (LX.out.on g19)
        have LY := Lib.hid (LY.out.on g19)
        have LZ := Lib.hid (LZ.out.on g19)
        have LJ := Lib.hid (LJ.out.on g19)
        have G19 := Lib.hid (grow2 G18.out g19)
        clear g19 G18
        go_wp2_with fail
        go_ret
        exact ⟨rfl, G19.out⟩
      · have R1 := Lib.hid (of_decide_eq_true hr1)
        clear hr1
        cases hr2 : decide (vle y x)
        · have R2 := Lib.hid (of_decide_eq_false hr2)
          have NE : Hid (¬ x = y) := Lib.hid (fun h => R2.out (LAN.out.2 h).2)
          clear hr2
          go_wp2_with fail
          refine (le_lv LX.out LY.out OY.out.srt (by omega) (by omega) true (by simp [R1.out]) (only_refl w17 none)).mono ?_
          rintro _ w18 ⟨rfl, g18⟩
          have LX := Lib.hid (LX.out.on g18)
          have LY := Lib.hid (LY.out.on g18)
          have LZ := Lib.hid (LZ.out.on g18)
          have LJ := Lib.hid (LJ.out.on g18)
          have G18 := Lib.hid (grow2 G17.out g18)
          clear g18 G17
          go_wp2_with fail
          refine (le_lv LY.out LX.out OX.out.srt (by omega) (by omega) false (by simp [R2.out]) (only_refl w18 none)).mono ?_
          rintro _ w19 ⟨rfl, g19⟩
          have LX := Lib.hid (LX.out.on g19)
          have LY := Lib.hid (LY.out.on g19)
          have LZ := Lib.hid (LZ.out.on g19)
          have LJ := Lib.hid (LJ.out.on g19)
          have G19 := Lib.hid (grow2 G18.out g19)
          clear g19 G18
          go_wp2_with fail
          refine (same_lv LX.out LY.out (by omega) false (by simp [NE.out]) (only_refl w19 none)).mono ?_
          rintro _ w20 ⟨rfl, g20⟩
          have LX := Lib.hid (LX.out.on g20)
          have LY := Lib.hid (LY.out.on g20)
          have LZ := Lib.hid (LZ.out.on g20)
          have LJ := Lib.hid (LJ.out.on g20)
          have G20 := Lib.hid (grow2 G19.out g20)
          clear g20 G19
          go_wp2_with fail
          go_ret
          exact ⟨rfl, G20.out⟩
        · have R2 := Lib.hid (of_decide_eq_true hr2)
          have NE : Hid (x = y) := Lib.hid (LAN.out.1 ⟨R1.out, R2.out⟩)
          clear hr2
          go_wp2_with fail
          refine (le_lv LX.out LY.out OY.out.srt (by omega) (by omega) true (by simp [R1.out]) (only_refl w17 none)).mono ?_
          rintro _ w18 ⟨rfl, g18⟩
          have LX := Lib.hid (LX.out.on g18)
          have LY := Lib.hid (LY.out.on g18)
          have LZ := Lib.hid (LZ.out.on g18)
          have LJ := Lib.hid (LJ.out.on g18)
          have G18 := Lib.hid (grow2 G17.out g18)
          clear g18 G17
          go_wp2_with fail
          refine (le_lv LY.out LX.out OX.out.srt (by omega) (by omega) true (by simp [R2.out]) (only_refl w18 none)).mono ?_
          rintro _ w19 ⟨rfl, g19⟩
          have LX := Lib.hid (LX.out.on g19)
          have LY := Lib.hid (LY.out.on g19)
          have LZ := Lib.hid (LZ.out.on g19)
          have LJ := Lib.hid (LJ.out.on g19)
          have G19 := Lib.hid (grow2 G18.out g19)
          clear g19 G18
          go_wp2_with fail
          refine (same_lv LX.out LY.out (by omega) true (by simp [NE.out]) (only_refl w19 none)).mono ?_
          rintro _ w20 ⟨rfl, g20⟩
          have LX := Lib.hid (LX.out.on g20)
          have LY := Lib.hid (LY.out.on g20)
          have LZ := Lib.hid (LZ.out.on g20)
          have LJ := Lib.hid (LJ.out.on g20)
          have G20 := Lib.hid (grow2 G19.out g20)
          clear g20 G19
          go_wp2_with fail
          go_ret
          exact ⟨rfl, G20.out⟩
    · have H2 := of_decide_eq_true hq2
      have H2 := Lib.hid H2
      clear hq2
      go_wp2_with fail
      refine (le_lv LX.out LZ.out OZ.out.srt (by omega) (by omega) true (by simp [H1.out]) (only_refl w15 none)).mono ?_
      rintro _ w16 ⟨rfl, g16⟩
      have LX := Lib.hid (LX.out.on g16)
      have LY := Lib.hid (LY.out.on g16)
      have LZ := Lib.hid (LZ.out.on g16)
      have LJ := Lib.hid (LJ.out.on g16)
      have G16 := Lib.hid (grow2 G15.out g16)
      clear g16 G15
      go_wp2_with fail
      refine (le_lv LY.out LZ.out OZ.out.srt (by omega) (by omega) true (by simp [H2.out]) (only_refl w16 none)).mono ?_
      rintro _ w17 ⟨rfl, g17⟩
      have LX := Lib.hid (LX.out.on g17)
      have LY := Lib.hid (LY.out.on g17)
      have LZ := Lib.hid (LZ.out.on g17)
      have LJ := Lib.hid (LJ.out.on g17)
      have G17 := Lib.hid (grow2 G16.out g17)
      clear g17 G16
      go_wp2_with fail
      refine (le_lv LJ.out LZ.out OZ.out.srt (by omega) (by omega) true (by simp [MLS.out H1.out H2.out]) (only_refl w17 none)).mono ?_
      rintro _ w18 ⟨rfl, g18⟩
      have LX := Lib.hid (LX.out.on g18)
      have LY := Lib.hid (LY.out.on g18)
      have LZ := Lib.hid (LZ.out.on g18)
      have LJ := Lib.hid (LJ.out.on g18)
      have G18 := Lib.hid (grow2 G17.out g18)
      clear g18 G17
      cases hr1 : decide (vle x y)
      · have R1 := Lib.hid (of_decide_eq_false hr1)
        have NE : Hid (¬ x = y) := Lib.hid (fun h => R1.out (LAN.out.2 h).1)
        clear hr1
        go_wp2_with fail
        refine (le_lv LX.out LY.out OY.out.srt (by omega) (by omega) false (by simp [R1.out]) (only_refl w18 none)).mono ?_
        rintro _ w19 ⟨rfl, g19⟩
        have LX := Lib.hid (LX.out.on g19)
        have LY := Lib.hid (LY.out.on g19)
        have LZ := Lib.hid (LZ.out.on g19)
        have LJ := Lib.hid (LJ.out.on g19)
        have G19 := Lib.hid (grow2 G18.out g19)
        clear g19 G18
        go_wp2_with fail
        refine (same_lv LX.out LY.out (by omega) false (by simp [NE.out]) (only_refl w19 none)).mono ?_
        rintro _ w20 ⟨rfl, g20⟩
        have LX := Lib.hid (LX.out.on g20)
        have LY := Lib.hid (LY.out.on g20)
        have LZ := Lib.hid (LZ.out.on g20)
        have LJ := Lib.hid (LJ.out.on g20)
        have G20 := Lib.hid (grow2 G19.out g20)
        clear g20 G19
        go_wp2_with fail
        go_ret
        exact ⟨rfl, G20.out⟩
      · have R1 := Lib.hid (of_decide_eq_true hr1)
        clear hr1
        cases hr2 : decide (vle y x)
        · have R2 := Lib.hid (of_decide_eq_false hr2)
          have NE : Hid (¬ x = y) := Lib.hid (fun h => R2.out (LAN.out.2 h).2)
          clear hr2
          go_wp2_with fail
          refine (le_lv LX.out LY.out OY.out.srt (by omega) (by omega) true (by simp [R1.out]) (only_refl w18 none)).mono ?_
          rintro _ w19 ⟨rfl, g19⟩
          have LX := Lib.hid (LX.out.on g19)
          have LY := Lib.hid (LY.out.on g19)
          have LZ := Lib.hid (LZ.out.on g19)
          have LJ := Lib.hid (LJ.out.on g19)
          have G19 := Lib.hid (grow2 G18.out g19)
          clear g19 G18
          go_wp2_with fail
          refine (le_lv LY.out LX.out OX.out.srt (by omega) (by omega) false (by simp [R2.out]) (only_refl w19 none)).mono ?_
          rintro _ w20 ⟨rfl, g20⟩
          have LX := Lib.hid (LX.out.on g20)
          have LY := Lib.hid (LY.out.on g20)
          have LZ := Lib.hid (LZ.out.on g20)
          have LJ := Lib.hid (LJ.out.on g20)
          have G20 := Lib.hid (grow2 G19.out g20)
          clear g20 G19
          go_wp2_with fail
          refine (same_lv LX.out LY.out (by omega) false (by simp [NE.out]) (only_refl w20 none)).mono ?_
          rintro _ w21 ⟨rfl, g21⟩
          have LX := Lib.hid (LX.out.on g21)
          have LY := Lib.hid (LY.out.on g21)
          have LZ := Lib.hid (LZ.out.on g21)
          have LJ := Lib.hid (LJ.out.on g21)
          have G21 := Lib.hid (grow2 G20.out g21)
          clear g21 G20
          go_wp2_with fail
          go_ret
          exact ⟨rfl, G21.out⟩
        · have R2 := Lib.hid (of_decide_eq_true hr2)
          have NE : Hid (x = y) := Lib.hid (LAN.out.1 ⟨R1.out, R2.out⟩)
          clear hr2
          go_wp2_with fail
          refine (le_lv LX.out LY.out OY.out.srt (by omega) (by omega) true (by simp [R1.out]) (only_refl w18 none)).mono ?_
          rintro _ w19 ⟨rfl, g19⟩
          have LX := Lib.hid (LX.out.on g19)
          have LY := Lib.hid (LY.out.on g19)
          have LZ := Lib.hid (LZ.out.on g19)
          have LJ := Lib.hid (LJ.out.on g19)
          have G19 := Lib.hid (grow2 G18.out g19)
          clear g19 G18
          go_wp2_with fail
          refine (le_lv LY.out LX.out OX.out.srt (by omega) (by omega) true (by simp [R2.out]) (only_refl w19 none)).mono ?_
          rintro _ w20 ⟨rfl, g20⟩
          have LX := Lib.hid (LX.out.on g20)
          have LY := Lib.hid (LY.out.on g20)
          have LZ := Lib.hid (LZ.out.on g20)
          have LJ := Lib.hid (LJ.out.on g20)
          have G20 := Lib.hid (grow2 G19.out g20)
          clear g20 G19
          go_wp2_with fail
          refine (same_lv LX.out LY.out (by omega) true (by simp [NE.out]) (only_refl w20 none)).mono ?_
          rintro _ w21 ⟨rfl, g21⟩
          have LX := Lib.hid (LX.out.on g21)
          have LY := Lib.hid (LY.out.on g21)
          have LZ := Lib.hid (LZ.out.on g21)
          have LJ := Lib.hid (LJ.out.on g21)
          have G21 := Lib.hid (grow2 G20.out g21)
          clear g21 G20
          go_wp2_with fail
          go_ret
          exact ⟨rfl, G21.out⟩
end Go.Proofs.Ytlanldjpafkckaa
