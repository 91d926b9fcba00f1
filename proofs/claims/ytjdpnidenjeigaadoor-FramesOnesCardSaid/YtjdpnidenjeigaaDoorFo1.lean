/- The walk of FramesOnes: it returns true for every input. Asked of the world: the table's cells. -/
import Derived.Test.YtjdpnidenjeigaaDoorFsc
namespace Go.Proofs.YtjdpnidenjeigaaDoor
open Go.RowKit Go.ChangeShapes
theorem own_lit0 (w : World) : (w.alloc (.cells #[] 5)).ownsRow w.heap.size 5 1 (.slice (some ⟨w.heap.size, 0, none⟩) 0 0) ([] : List Value).length [] :=
  ⟨rfl, .inr ⟨w.heap.size, 0, #[], rfl, Nat.le_refl _, heap_alloc_new w _, Nat.le_refl _, Nat.zero_le _, rfl, rfl⟩⟩
theorem Has.srcAt {w w' : World} {A : Option Addr} {l : List Int} (h : Has w w.heap.size A (bs l)) (hg : w.grownBy w' none) (c : Nat) : Src Tryd.prog 1 22 (.slice A l.length c) (bs l).length (bs l) w' := by
  have h := ((h.only hg (Nat.le_refl _) (fun _ h => by cases h)).more hg.size).src (P := Tryd.prog) (tx := 22) Tryd.underlying22 c (bs_one _)
  rw [bs_len] at h ⊢
  exact h
/-- An append onto an own row is a growth that touches nothing older. -/
theorem Grew.all {a w w' : World} {base e : Nat} {v v' : Value} {l : List Value} {xs : List Value} (h : Grew w w' base e v v' xs) (ho : w.ownsRow base e 1 v l.length l) (hg : a.grownBy w Option.none) (hb : a.heap.size ≤ base) : a.grownBy w' Option.none :=
  only_step hg h.only (fun k hk => .inr (by
    rcases own_at ho with h | ⟨q, h, hq⟩
    · rw [h] at hk; cases hk
    · rw [h] at hk; cases hk; omega))
set_option maxRecDepth 100000 in
set_option maxHeartbeats 4000000 in
theorem ones_core (A B : Option Addr) (ca cb : Nat) (l m : List Int) (cut : Int) (w : World) (hA : Has w w.heap.size A (bs l)) (hB : Has w w.heap.size B (bs m)) (bl : ∀ x ∈ l, 0 ≤ x ∧ x ≤ 255) (bm : ∀ x ∈ m, 0 ≤ x ∧ x ≤ 255)
    (hl : l.length ≤ 300) (hm : m.length ≤ 50) (e1 : -9223372036854775808 ≤ cut) (e2 : cut ≤ 9223372036854775807) (hT : Tab w) :
    Calls Tryd.prog 8 #[.slice A l.length ca, .int .i64 cut, .slice B m.length cb] w fun e w' => e = .returned (.bool true) ∧ w.grownBy w' none := by
  have t1 : ¬ (300 : Int) < (l.length : Int) := by omega
  have t2 : ¬ (50 : Int) < (m.length : Int) := by omega
  have HA := Lib.hid hA
  have HB := Lib.hid hB
  have HT := Lib.hid hT
  have BL := Lib.hid bl
  have BM := Lib.hid bm
  have FL := frP_len l
  obtain ⟨F, hF⟩ : ∃ F, F = frP l := ⟨_, rfl⟩
  have HF := Lib.hid hF
  rw [← hF] at FL
  have F8 : 8 ≤ F.length := by omega
  have F9 : F.length ≤ 308 := by omega
  have FL' := Lib.hid FL
  clear FL
  clear hF hA hB bl bm hT
  go_enter Tryd.func8, Tryd.ntmps8
  go_wp2_with fail
  refine (known_any w HT.out).mono ?_
  rintro _ w1 ⟨rfl, g1⟩
  have G1 := Lib.hid g1
  clear g1
  go_wp2_with fail
  refine (frame_any A ca l w1 ((HA.out.only G1.out (Nat.le_refl _) (fun _ h => by cases h)).more G1.out.size) BL.out (by omega) (HT.out.grow G1.out)).mono ?_
  rintro _ w2 ⟨v2, rfl, o2, g2⟩
  rw [← HF.out] at o2
  obtain ⟨A2, c2, rfl⟩ := own_slice o2
  have O2 := Lib.hid o2
  have G2 : Hid (w.grownBy w2 none) := only_step G1.out g2 (fun _ h => by cases h)
  have H2 : Hid (Has w2 w2.heap.size A2 (bs F)) := Has.own o2
  have C2 := own_cap o2
  rw [bs_len] at C2 ⊢
  clear o2 g2
  -- One of a front
  have k1 := Int.emod_nonneg cut (show (F.length : Int) ≠ 0 by omega)
  have k2 := Int.emod_lt_of_pos cut (show (0 : Int) < (F.length : Int) by omega)
  obtain ⟨k, hk⟩ : ∃ k : Nat, cut % (F.length : Int) = k := ⟨(cut % (F.length : Int)).toNat, by omega⟩
  have hkl : k < F.length := by omega
  have WK : ∀ W, Hid (Calls Tryd.prog 14 #[.int .i64 cut, .int .i64 F.length] W fun e w' => e = .returned (.int .i64 k) ∧ W = w') := fun W => by rw [← hk]; exact within_any cut F.length e1 e2 (by omega) (by omega) W
  have s1 : (k : Int) ≤ (c2 : Int) := by omega
  have s0 : (0 : Int) ≤ (k : Int) := by omega
  have TKL : (F.take k).length = k := by rw [List.length_take]; omega
  have O1 := one_any A2 c2 (F.take k) w2 (by
    rw [show bs (F.take k) = (bs F).take k by simp [bs, List.map_take]]; exact H2.out.take k)
    (fun x hx => by have := List.mem_of_mem_take hx; rw [HF.out] at this; exact frP_byte l BL.out x this) (by rw [TKL]; omega) (by rw [TKL]; omega) (HT.out.grow G2.out)
  rw [HF.out] at O1
  rw [one_cut l (by omega) k (by rw [← HF.out]; exact hkl), ← HF.out, TKL] at O1
  have O1' := Lib.hid O1
  clear hk k1 k2 O1 TKL
  go_wp2_with fail
  refine (WK _).out.mono ?_
  rintro _ w3 ⟨rfl, rfl⟩
  go_wp2_with fail
  refine O1'.out.mono ?_
  rintro _ w3 ⟨v3, rfl, q3, g3⟩
  have G3 : Hid (w.grownBy w3 none) := only_step G2.out g3 (fun _ h => by cases h)
  have H3 : Hid (Has w3 w3.heap.size A2 (bs F)) := (H2.out.only g3 (Nat.le_refl _) (fun _ h => by cases h)).more g3.size
  clear q3 g3 WK O1' s0 s1
  -- One of the frame with more behind it
  have a4 : Hid (w.grownBy (w3.alloc (.cells #[] 5)) none) := only_alloc G3.out _
  have s4 := Lib.hid (H3.out.srcAt (World.grownBy_alloc w3 (.cells #[] 5) none) c2)
  have z3 := G3.out.size
  have l4 : ([] : List Value).length + (bs F).length ≤ 70368744177664 := by rw [bs_len]; show 0 + F.length ≤ _; omega
  have l5 : (bs F).length + (bs m).length ≤ 70368744177664 := by rw [bs_len, bs_len]; omega
  go_wp2_with (first
    | (at_builtin; refine app_bytes rfl _ _ 22 rfl w3.heap.size (.slice (some ⟨w3.heap.size, 0, none⟩) 0 0) [] rfl (own_lit0 w3) (.slice A2 F.length c2) (bs F) rfl s4.out l4 (World.grownBy_alloc w3 (.cells #[] 5) none).size ?_; intro v4 w4 g4; rw [List.nil_append] at g4; have G4 := Lib.hid (g4.all (own_lit0 w3) a4.out z3); have D4 := Lib.hid (g4.all (own_lit0 w3) (World.grownBy_alloc w3 (.cells #[] 5) none) (Nat.le_refl _)); have O4 := Lib.hid g4.own; have s5 := Lib.hid (HB.out.srcAt G4.out cb); have z4 : w3.heap.size ≤ w4.heap.size := Nat.le_trans (World.grownBy_alloc w3 (.cells #[] 5) none).size g4.only.size; clear g4)
    | (at_builtin; refine app_bytes rfl _ _ 22 rfl w3.heap.size v4 (bs F) rfl O4.out (.slice B m.length cb) (bs m) rfl s5.out l5 z4 ?_; intro v5 w5 g5; rw [← bs_append] at g5; have G5 := Lib.hid (g5.all O4.out G4.out z3); have D5 := Lib.hid (g5.all O4.out D4.out (Nat.le_refl _)); have O5 := Lib.hid g5.own; clear g5; obtain ⟨A5, c5, rfl⟩ := own_slice O5.out))
  have H5 : Hid (Has w5 w5.heap.size A5 (bs (F ++ m))) := Has.own O5.out
  have C5 := own_cap O5.out
  rw [bs_len] at C5
  have BF := Lib.hid (show ∀ x ∈ F, 0 ≤ x ∧ x ≤ 255 by rw [HF.out]; exact frP_byte l BL.out)
  have O1 := one_any A5 c5 (F ++ m) w5 H5.out (fun x hx => (List.mem_append.1 hx).elim (BF.out x) (BM.out x)) (by rw [List.length_append]; omega) C5 (HT.out.grow G5.out)
  have OE := one_fr l m BL.out (by omega)
  rw [← HF.out] at OE
  obtain ⟨f, hf⟩ : ∃ f, f = oneE (F ++ m) := ⟨_, rfl⟩
  rw [← hf] at O1 OE
  have OE' := Lib.hid OE
  have O1' := Lib.hid O1
  clear O1 OE C5 s4 s5 l4 l5 hf
  rw [bs_len]
  refine O1'.out.mono ?_
  rintro _ w6 ⟨v6, rfl, q6, g6⟩
  have G6 : Hid (w.grownBy w6 none) := only_step G5.out g6 (fun _ h => by cases h)
  have D6 : w3.grownBy w6 none := only_step D5.out g6 (fun _ h => by cases h)
  have H6 : Hid (Has w6 w6.heap.size A2 (bs F)) := (H3.out.only D6 (Nat.le_refl _) (fun _ h => by cases h)).more D6.size
  clear q6 g6 D6 D5 O4 G4 D4 O1' H5 O5 G5 z4 a4
  -- the frame with another length
  have a6 : Hid (w.grownBy (w6.alloc (.cells #[] 5)) none) := only_alloc G6.out _
  have s6 := Lib.hid (H6.out.srcAt (World.grownBy_alloc w6 (.cells #[] 5) none) c2)
  have z6 := G6.out.size
  have l6 : ([] : List Value).length + (bs F).length ≤ 70368744177664 := by rw [bs_len]; show 0 + F.length ≤ _; omega
  have k1 := Int.emod_nonneg cut (show (255 : Int) ≠ 0 by omega)
  have k2 := Int.emod_lt_of_pos cut (show (0 : Int) < 255 by omega)
  obtain ⟨q, hq⟩ : ∃ q, q = cut % 255 := ⟨_, rfl⟩
  have WQ : ∀ W, Hid (Calls Tryd.prog 14 #[.int .i64 cut, .int .i64 255] W fun e w' => e = .returned (.int .i64 q) ∧ W = w') := fun W => by rw [hq]; exact within_any cut 255 e1 e2 (by omega) (by omega) W
  rw [← hq] at k1 k2
  have y1 : IntKind.u8.wrap q = q := by have := IntKind.wrap_u8 q; rw [this]; omega
  have y2 : IntKind.u8.wrap (1 + q) = 1 + q := by have := IntKind.wrap_u8 (1 + q); rw [this]; omega
  clear hq
  go_wp2_with (at_builtin; go_loud (refine app_bytes rfl _ _ 22 rfl w6.heap.size (.slice (some ⟨w6.heap.size, 0, none⟩) 0 0) [] rfl (own_lit0 w6) (.slice A2 F.length c2) (bs F) rfl s6.out l6 (World.grownBy_alloc w6 (.cells #[] 5) none).size ?_); intro v7 w7 g7; rw [List.nil_append] at g7; have G7 := Lib.hid (g7.all (own_lit0 w6) a6.out z6); have O7 := Lib.hid g7.own; clear g7)
  obtain ⟨g, c7, rfl, hg⟩ := own_form O7.out (by rw [bs_len]; omega)
  refine (WQ _).out.mono ?_
  rintro _ w8 ⟨rfl, rfl⟩
  have fr := O7.out.frozenAt 0
  have cl : w7.cell? ⟨g, 0, none⟩ = some (.int .u8 (F.getD 0 0)) := by
    have := O7.out.cells (g := g) rfl 0 (.int .u8 (F.getD 0 0)) (by
      simp only [bs, List.getElem?_map]
      rw [List.getElem?_eq_getElem (by omega), List.getD_eq_getElem?_getD, List.getElem?_eq_getElem (by omega)]; rfl)
    exact this
  have O8 := (O7.out.stored 0 (.int .u8 (1 + q)))
  rw [show (bs F).set 0 (.int .u8 (1 + q)) = bs (F.set 0 (1 + q)) by simp [bs, List.map_set], bs_len] at O8
  have O8' := Lib.hid O8
  have b7 : (0 : Int) < (F.length : Int) := by omega
  rw [bs_len]
  clear O8 s6 l6
  go_wp2_with fail
  obtain ⟨W, hW⟩ : ∃ W, W = w7.setCell ⟨g, 0, none⟩ (.int .u8 (1 + q)) := ⟨_, rfl⟩
  rw [← hW] at O8' ⊢
  have GW : Hid (w.grownBy W none) := only_step G7.out O8'.out.2 (fun k hk => by cases hk; exact .inr (Nat.le_trans z6 hg))
  have HY : Hid (Has W W.heap.size (some ⟨g, 0, none⟩) (bs (F.set 0 (1 + q)))) := by
    have h := O8'.out.1
    have e : F.length = (bs (F.set 0 (1 + q))).length := by rw [bs_len, List.length_set]
    rw [e] at h
    exact Has.own (c := c7) h
  have YB : Hid (∀ x ∈ F.set 0 (1 + q), 0 ≤ x ∧ x ≤ 255) := fun x hx => by
    rcases List.mem_or_eq_of_mem_set hx with h | h
    · exact BF.out x h
    · omega
  have C7 := own_cap O7.out
  rw [bs_len] at C7
  have YL : (F.set 0 (1 + q)).length = F.length := List.length_set
  have e5 : firstE (F.set 0 (1 + q)) = 5 := by have := first_long l (1 + q) (by omega) []; rw [List.append_nil, ← HF.out] at this; exact this
  have o5 : oneE (F.set 0 (1 + q)) = 5 := by have := one_long l (1 + q) (by omega) []; rw [List.append_nil, ← HF.out] at this; exact this
  have OY := one_any (some ⟨g, 0, none⟩) c7 (F.set 0 (1 + q)) W HY.out YB.out (by omega) (by omega) (HT.out.grow GW.out)
  rw [o5, YL] at OY
  have OY' := Lib.hid OY
  have E5 := Lib.hid e5
  have YL' := Lib.hid YL
  clear OY o5 e5 YL cl fr hW O8' C7 y1 y2 WQ
  refine OY'.out.mono ?_
  rintro _ w9 ⟨v9, rfl, q9, g9⟩
  have G9 : Hid (w.grownBy w9 none) := only_step GW.out g9 (fun _ h => by cases h)
  have SC := scan_none (some ⟨g, 0, none⟩) c7 (F.set 0 (1 + q)) w9 ((HY.out.only g9 (Nat.le_refl _) (fun _ h => by cases h)).more g9.size) YB.out (by rw [YL'.out]; omega) (by have := own_cap O7.out; rw [bs_len] at this; rw [YL'.out]; exact this) (HT.out.grow G9.out) (by rw [E5.out]; decide)
  rw [YL'.out] at SC
  have SC' := Lib.hid SC
  clear SC q9 g9 OY'
  go_wp2_with fail
  refine SC'.out.mono ?_
  rintro _ w10 ⟨rfl, g10⟩
  have G10 : Hid (w.grownBy w10 none) := only_step G9.out g10 (fun _ h => by cases h)
  clear g10 SC'
  by_cases hm0 : m = []
  · subst hm0
    have OE2 := OE'.out
    rw [if_pos rfl] at OE2
    subst OE2
    clear OE'
    go_wp2_with fail
    go_ret
    exact ⟨rfl, G10.out⟩
  · have m1 : ((m.length : Int) == 0) = false := by
      rw [beq_eq_false_iff_ne]
      intro h
      exact hm0 (List.eq_nil_of_length_eq_zero (by omega))
    have OE2 := OE'.out
    rw [if_neg hm0] at OE2
    subst OE2
    clear OE' hm0
    go_wp2_with fail
    go_ret
    exact ⟨rfl, G10.out⟩

theorem framesOnes_walk (A B : Option Addr) (ca cb : Nat) (l m : List Int) (cut : Int) (w : World) (hA : Has w w.heap.size A (bs l)) (hB : Has w w.heap.size B (bs m)) (bl : ∀ x ∈ l, 0 ≤ x ∧ x ≤ 255) (bm : ∀ x ∈ m, 0 ≤ x ∧ x ≤ 255)
    (e1 : -9223372036854775808 ≤ cut) (e2 : cut ≤ 9223372036854775807) (hT : Tab w) :
    Calls Tryd.prog 8 #[.slice A l.length ca, .int .i64 cut, .slice B m.length cb] w fun e w' => e = .returned (.bool true) ∧ w.grownBy w' none := by
  by_cases h1 : l.length ≤ 300
  · by_cases h2 : m.length ≤ 50
    · exact ones_core A B ca cb l m cut w hA hB bl bm h1 h2 e1 e2 hT
    · have t1 : ¬ (300 : Int) < (l.length : Int) := by omega
      have t2 : (50 : Int) < (m.length : Int) := by omega
      have HT := Lib.hid hT
      clear hA hB bl bm hT
      go_enter Tryd.func8, Tryd.ntmps8
      go_wp2_with fail
      refine (known_any w HT.out).mono ?_
      rintro _ w1 ⟨rfl, g1⟩
      go_wp2_with fail
      go_ret
      exact ⟨rfl, g1⟩
  · have t1 : (300 : Int) < (l.length : Int) := by omega
    have HT := Lib.hid hT
    clear hA hB bl bm hT
    go_enter Tryd.func8, Tryd.ntmps8
    go_wp2_with fail
    refine (known_any w HT.out).mono ?_
    rintro _ w1 ⟨rfl, g1⟩
    go_wp2_with fail
    go_ret
    exact ⟨rfl, g1⟩
end Go.Proofs.YtjdpnidenjeigaaDoor
