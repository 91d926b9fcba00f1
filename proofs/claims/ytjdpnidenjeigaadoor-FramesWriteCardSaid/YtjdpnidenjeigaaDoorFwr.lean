/- The walk of FramesWrite: it returns true for every input. Asked of the world: the table's cells. My own. -/
import Derived.Test.YtjdpnidenjeigaaDoorFro
import Derived.Test.YtjdpnidenjeigaaDoorFto
namespace Go.Proofs.YtjdpnidenjeigaaDoor
open Go.RowKit Go.ChangeShapes
set_option linter.unusedVariables false
set_option linter.unusedSimpArgs false

/-- The row that One hands back: the record, or none. -/
def resP (l : List Int) : List Int := if oneE l = 0 then recP l else []
theorem OneV.row {w w' : World} {l : List Int} {v : Value} (h : OneV w w' l v) : ∃ A c, v = .slice A (resP l).length c ∧ Has w' w'.heap.size A (bs (resP l)) := by
  unfold OneV at h; unfold resP
  by_cases e : oneE l = 0
  · rw [if_pos e] at h ⊢
    rw [bs_len] at h
    obtain ⟨A, c, rfl⟩ := own_slice h
    exact ⟨A, c, rfl, Has.own h⟩
  · rw [if_neg e] at h ⊢
    exact ⟨none, 0, h, .inl rfl⟩
theorem cut_later {G T : Prop} (main : (Unit → T) → G) (pf : T) : G := main fun _ => pf
theorem new_lt {a b : World} {o : Obj} {r : Option Nat} (h : (a.alloc o).grownBy b r) : a.heap.size < b.heap.size := by
  have h1 := h.size
  have e : (a.alloc o).heap.size = a.heap.size + 1 := by show (a.heap.push _).size = _; rw [Array.size_push]
  omega
theorem size_alloc (a : World) (o : Obj) : (a.alloc o).heap.size = a.heap.size + 1 := by show (a.heap.push _).size = _; rw [Array.size_push]
/-- The literal row of one byte, in a world behind its making. -/
theorem one_src (x : Int) {a V : World} {r : Option Nat} {b : Nat} (hb : b = a.heap.size) (h : (a.alloc (.cells #[.int .u8 x] 5)).grownBy V r) (hr : r ≠ some a.heap.size) :
    Src Tryd.prog 1 22 (.slice (some ⟨b, 0, none⟩) 1 1) (bs [x]).length (bs [x]) V := by
  subst hb
  have hlt : a.heap.size < (a.alloc (.cells #[.int .u8 x] 5)).heap.size := by show _ < (a.heap.push _).size; rw [Array.size_push]; omega
  have c0 : V.cell? ⟨a.heap.size, 0, none⟩ = some (.int .u8 x) := (World.cell?_of_block (h.block _ hlt (Ne.symm hr))).trans (by unfold World.cell?; rw [heap_alloc_new]; rfl)
  have H : Has V V.heap.size (some ⟨a.heap.size, 0, none⟩) (bs [x]) := .inr ⟨a.heap.size, 0, rfl, new_lt h, fun j u hu => by
    rcases j with _ | j
    · simp [bs] at hu; subst hu; exact c0
    · simp [bs] at hu⟩
  have h := H.src (P := Tryd.prog) (tx := 22) Tryd.underlying22 1 (bs_one _)
  exact h

set_option maxRecDepth 100000 in
set_option maxHeartbeats 4000000 in
theorem write_core (B : Option Addr) (cb : Nat) (m : List Int) (at' by' cut : Int) (w : World) (hB : Has w w.heap.size B (bs m)) (bm : ∀ x ∈ m, 0 ≤ x ∧ x ≤ 255) (hm : m.length ≤ 3000) (hcb : m.length ≤ cb)
    (e1 : -9223372036854775808 ≤ at') (e2 : at' ≤ 9223372036854775807) (b1 : 0 ≤ by') (b2 : by' ≤ 255) (u1 : -9223372036854775808 ≤ cut) (u2 : cut ≤ 9223372036854775807) (hT : Tab w) :
    Calls Tryd.prog 3 #[.slice B m.length cb, .int .i64 at', .int .u8 by', .int .i64 cut] w fun e w' => e = .returned (.bool true) ∧ w.grownBy w' none := by
  have HB := Lib.hid hB
  have BM := Lib.hid bm
  have HT := Lib.hid hT
  have t3 : ¬ (3000 : Int) < (m.length : Int) := by omega
  obtain ⟨F, hF⟩ : ∃ F, F = frP m := ⟨_, rfl⟩
  obtain ⟨n, hn⟩ : ∃ n, n = F.length := ⟨_, rfl⟩
  have hnl : n = m.length + 8 := by rw [hn, hF, frP_len]
  have BF := Lib.hid (frP_byte m bm)
  rw [← hF] at BF
  have HF := Lib.hid hF
  have HN := Lib.hid hn
  have n8 : 8 ≤ n := by omega
  have n3 : n ≤ 3008 := by omega
  obtain ⟨K, hK⟩ : ∃ K : Int, K = crcP m := ⟨_, rfl⟩
  have HK := Lib.hid hK
  -- the byte that is turned
  have k1 := Int.emod_nonneg at' (show (n : Int) ≠ 0 by omega)
  have k2 := Int.emod_lt_of_pos at' (show (0 : Int) < (n : Int) by omega)
  obtain ⟨hit, hh⟩ : ∃ k : Nat, at' % (n : Int) = k := ⟨(at' % (n : Int)).toNat, by omega⟩
  have hhl : hit < n := by omega
  have WH : ∀ W, Hid (Calls Tryd.prog 14 #[.int .i64 at', .int .i64 n] W fun e w' => e = .returned (.int .i64 hit) ∧ W = w') := fun W => by rw [← hh]; exact within_any at' n e1 e2 (by omega) (by omega) W
  have k3 := Int.emod_nonneg cut (show (n : Int) + 1 ≠ 0 by omega)
  have k4 := Int.emod_lt_of_pos cut (show (0 : Int) < (n : Int) + 1 by omega)
  obtain ⟨k, hk⟩ : ∃ k : Nat, cut % ((n : Int) + 1) = k := ⟨(cut % ((n : Int) + 1)).toNat, by omega⟩
  have hkl : k ≤ n := by omega
  have WK : ∀ W, Hid (Calls Tryd.prog 14 #[.int .i64 cut, .int .i64 ((n : Int) + 1)] W fun e w' => e = .returned (.int .i64 k) ∧ W = w') := fun W => by rw [← hk]; exact within_any cut ((n : Int) + 1) u1 u2 (by omega) (by omega) W
  have wn : IntKind.i64.wrap ((n : Int) + 1) = (n : Int) + 1 := by rw [IntKind.wrap_i64]; omega
  obtain ⟨y, hy⟩ : ∃ y, F[hit]? = some y := ⟨_, List.getElem?_eq_getElem (by omega)⟩
  have hyb := BF.out y (List.mem_of_getElem? hy)
  obtain ⟨v, hv⟩ : ∃ v, v = IntKind.u8.wrap (y + by') := ⟨_, rfl⟩
  have hvb : 0 ≤ v ∧ v ≤ 255 := by have := IntKind.wrap_u8 (y + by'); rw [this] at hv; omega
  have hvw : IntKind.u8.wrap (y + by') = v := hv.symm
  have HY := Lib.hid hy
  have hit0 : (0 : Int) ≤ (hit : Int) := by omega
  have hit1 : (hit : Int) < (n : Int) := by omega
  obtain ⟨t, ht⟩ : ∃ t, t = strOfNums F := ⟨_, rfl⟩
  have Ht := Lib.hid ht
  have HVB := Lib.hid hvb
  clear hB bm hT hF hn hnl hK k1 k2 hh k3 k4 hk hy hyb hv ht hvb
  go_enter Tryd.func3, Tryd.ntmps3
  go_wp2_with fail
  refine (known_any w HT.out).mono ?_
  rintro _ w1 ⟨rfl, g1⟩
  have G1 := Lib.hid g1
  clear g1
  go_wp2_with fail
  refine (frame_any B cb m w1 ((HB.out.only G1.out (Nat.le_refl _) (fun _ h => by cases h)).more G1.out.size) BM.out (by omega) (HT.out.grow G1.out)).mono ?_
  rintro _ w2 ⟨v2, rfl, o2, g2⟩
  rw [← HF.out, bs_len, ← HN.out] at o2
  obtain ⟨A2, c2, rfl⟩ := own_slice o2
  have H2 : Hid (Has w2 w2.heap.size A2 (bs F)) := Lib.hid (Has.own (by simpa [bs_len, ← HN.out] using o2))
  have G2 : Hid (w.grownBy w2 none) := only_step G1.out g2 (fun _ h => by cases h)
  clear o2 g2
  go_wp2_with fail
  refine (rframe_any B cb m w2 ((HB.out.only G2.out (Nat.le_refl _) (fun _ h => by cases h)).more G2.out.size) BM.out (by omega)).mono ?_
  rintro _ w3 ⟨v3, rfl, o3, g3⟩
  rw [← HF.out, bs_len, ← HN.out] at o3
  obtain ⟨A3, c3, rfl⟩ := own_slice o3
  have G3 : Hid (w.grownBy w3 none) := only_step G2.out g3 (fun _ h => by cases h)
  have H2' : Hid (Has w3 w3.heap.size A2 (bs F)) := (H2.out.only g3 (Nat.le_refl _) (fun _ h => by cases h)).more g3.size
  have H3 : Hid (Has w3 w3.heap.size A3 (bs F)) := Lib.hid (Has.own (by simpa [bs_len, ← HN.out] using o3))
  have c3l := own_cap o3
  clear o3 g3 H2
  go_wp2_with fail
  have CR := crc_any B cb m w3 ((HB.out.only G3.out (Nat.le_refl _) (fun _ h => by cases h)).more G3.out.size) BM.out (by unfold maxLen; omega) (HT.out.grow G3.out)
  have RC : ∀ V, w3.grownBy V none → Hid (Calls Tryd.prog 13 #[.slice B m.length cb] V fun e w' => e = .returned (.int .u32 K) ∧ V = w') := fun V hV => by
    have G := only_step G3.out hV (fun _ h => by cases h)
    have h := rcrc_any B cb m V ((HB.out.only G (Nat.le_refl _) (fun _ h => by cases h)).more G.size) BM.out (by unfold maxLen; omega)
    rw [← HK.out] at h; exact h
  rw [← HK.out] at CR
  have CVS : ∀ V, w3.grownBy V none → Hid ((convert 22 9 (.slice A2 n c2)).run Tryd.prog V = .ok (.string t) V ∧ (convert 22 9 (.slice A3 n c3)).run Tryd.prog V = .ok (.string t) V ∧ w3.grownBy V none) := fun V hV => by
    rw [Ht.out, HN.out]
    exact ⟨conv_string (H2'.out.only hV (Nat.le_refl _) (fun _ h => by cases h)) c2, conv_string (H3.out.only hV (Nat.le_refl _) (fun _ h => by cases h)) c3, hV⟩
  have kk : (K == K) = true := by simp
  have dn : ∀ j, w3.grownBy (w3.drewN j) none := fun j => only_drewN (only_refl _ none) j
  refine CR.mono ?_
  rintro _ w4 ⟨rfl, rfl⟩
  go_wp2_with fail
  refine (RC w3 (only_refl _ _)).out.mono ?_
  rintro _ w4 ⟨rfl, rfl⟩
  have cv3 := (CVS w3 (only_refl _ _)).out
  have cva := cv3.1
  have cvb := cv3.2.1
  have d4 := Lib.hid (World.grownBy_alloc w3 (.cells #[] 5) none)
  have sZ : Hid (Src Tryd.prog 1 22 (.slice A3 n c3) (bs F).length (bs F) (w3.alloc (.cells #[] 5))) := by
    have h := H3.out.srcAt d4.out c3
    rw [← HN.out] at h; exact h
  have len1 : ([] : List Value).length + (bs F).length ≤ 70368744177664 := by rw [bs_len, ← HN.out]; show 0 + n ≤ _; omega
  have z4 := d4.out.size
  clear cv3 RC CVS CR dn
  go_wp2_with (first
    | (at_builtin; refine app_bytes rfl _ _ 22 rfl w3.heap.size (.slice (some ⟨w3.heap.size, 0, none⟩) 0 0) [] rfl (own_lit0 w3) (.slice A3 n c3) (bs F) rfl sZ.out len1 z4 ?_; intro v8 w8 g8; rw [List.nil_append] at g8; have D8 := Lib.hid (g8.all (own_lit0 w3) d4.out (Nat.le_refl _)); have O8 : Hid (w8.ownsRow w3.heap.size 5 1 v8 n (bs F)) := (by have h := g8.own; rw [bs_len, ← HN.out] at h; exact h); clear g8; obtain ⟨g, cg, hv8, hg⟩ := own_form O8.out (by omega); subst hv8))
  clear cva cvb sZ z4 d4
  have G8 : Hid (w.grownBy w8 none) := only_step G3.out D8.out (fun _ h => by cases h)
  have ch : w8.cell? ⟨g, hit, none⟩ = some (.int .u8 y) := by
    have := O8.out.cells (g := g) rfl hit (.int .u8 y) (by simp only [bs, List.getElem?_map, HY.out]; rfl)
    rw [Addr.add_lit, Nat.zero_add] at this
    exact this
  have fh : w8.frozen? ⟨g, hit, none⟩ = false := O8.out.frozenAt hit
  have ST2 := O8.out.stored hit (.int .u8 v)
  rw [show (bs F).set hit (.int .u8 v) = bs (F.set hit v) by simp [bs, List.map_set]] at ST2
  have O9 := Lib.hid ST2.1
  have D9 := Lib.hid ST2.2
  clear ST2
  refine (WH _).out.mono ?_
  rintro _ wq ⟨rfl, rfl⟩
  go_wp2_with fail
  obtain ⟨W0, hW0⟩ : ∃ W0, W0 = w8.setCell ⟨g, hit, none⟩ (.int .u8 v) := ⟨_, rfl⟩
  rw [← hW0] at O9 D9 ⊢
  have E0 : Hid (w3.grownBy W0 none) := only_step D8.out D9.out (fun k hk => by cases hk; exact .inr hg)
  have G0 : Hid (w.grownBy W0 none) := only_step G3.out E0.out (fun _ h => by cases h)
  obtain ⟨Y, hY⟩ : ∃ Y, Y = F.set hit v := ⟨_, rfl⟩
  have YL := Lib.hid (show Y.length = n by rw [hY, List.length_set, ← HN.out])
  have YB := Lib.hid (show ∀ z ∈ Y, 0 ≤ z ∧ z ≤ 255 from fun z hz => by
    rw [hY] at hz
    rcases List.mem_or_eq_of_mem_set hz with h | h
    · exact BF.out z h
    · rw [h]; exact HVB.out)
  rw [← hY] at O9
  have HF0 : Hid (Has W0 W0.heap.size A3 (bs F)) := (H3.out.only E0.out (Nat.le_refl _) (fun _ h => by cases h)).more E0.out.size
  have HY0 : Hid (Has W0 W0.heap.size (some ⟨g, 0, none⟩) (bs Y)) := Lib.hid (Has.own O9.out)
  have HB0 : Hid (Has W0 W0.heap.size B (bs m)) := (HB.out.only G0.out (Nat.le_refl _) (fun _ h => by cases h)).more G0.out.size
  have cgl := own_cap O9.out
  have ownE : ∀ (wE V : World) (b : Nat), b = wE.heap.size → W0.heap.size ≤ wE.heap.size → (wE.alloc (.cells #[] 5)).grownBy V none → V.ownsRow W0.heap.size 5 1 (.slice (some ⟨b, 0, none⟩) 0 0) ([] : List Value).length [] := fun wE V b hb hs hg => hb ▸
    own_mono ((own_lit0 wE).kept hg (by right; simp [Value.ownBlock])) hs
  have srcF : ∀ V, W0.grownBy V none → Hid (Src Tryd.prog 1 22 (.slice A3 n c3) (bs F).length (bs F) V) := fun V hV => by
    have h := HF0.out.srcAt hV c3
    rw [← HN.out] at h; exact h
  clear hW0 hY ch fh O8 D8 G8 D9 WH H2' H3
  have kc : (k : Int) ≤ (c3 : Int) := by omega
  have k0 : (0 : Int) ≤ (k : Int) := by omega
  go_wp2_with fail
  obtain ⟨Z2, hZ2⟩ : ∃ Z2, Z2 = F ++ [by'] := ⟨_, rfl⟩
  have ZN := Lib.hid (show Z2.length = n + 1 by rw [hZ2, List.length_append, ← HN.out]; rfl)
  have HZ := Lib.hid hZ2
  have len2 : (bs F).length + (bs [by']).length ≤ 70368744177664 := by rw [bs_len, bs_len, ← HN.out]; show n + 1 ≤ _; omega
  clear hZ2
  apply cut_later (T := ∀ (x74 v5 x78 : Value) (w6 : World) (A9 : Option Addr) (c9 : Nat) (_ : Hid (W0.grownBy w6 none)) (_ : Hid (w6.ownsRow W0.heap.size 5 1 (.slice A9 (n + 1) c9) (n + 1) (bs Z2))), _)
  · intro key
    go_region_held3 (fun _ => True) (first | trivial) ((first
      | (go_at_call 14; refine (WK _).out.mono ?_; rintro e wa ⟨rfl, rfl⟩)
      | ((fail_if_success (have := O6)); refine step_app_bytes (by rfl) _ _ 22 (by rfl) W0.heap.size v5 (bs F) (by rfl) (own5 _ (by repeat (first | exact only_refl _ _ | refine only_drew ?_ | refine only_drewN ?_ _ | refine only_alloc ?_ _))) (.slice (some ⟨w5.heap.size, 0, none⟩) 1 1) (bs [by']) (by rfl) (one_src by' (a := w5) (r := none) rfl (by repeat (first | exact only_refl _ _ | refine only_drew ?_ | refine only_drewN ?_ _ | refine only_alloc ?_ _)) (by simp)) len2 (World.grownBy.size (only_step D5.out (show w5.grownBy _ none from (by repeat (first | exact only_refl _ _ | refine only_drew ?_ | refine only_drewN ?_ _ | refine only_alloc ?_ _))) (fun _ h => by cases h))) ?_; intro v6 w6 g6; rw [← bs_append, ← HZ.out] at g6; have D6 : Hid (W0.grownBy w6 none) := g6.all (own5 _ (by repeat (first | exact only_refl _ _ | refine only_drew ?_ | refine only_drewN ?_ _ | refine only_alloc ?_ _))) (only_step D5.out (show w5.grownBy _ none from (by repeat (first | exact only_refl _ _ | refine only_drew ?_ | refine only_drewN ?_ _ | refine only_alloc ?_ _))) (fun _ h => by cases h)) (Nat.le_refl _); have O6 : Hid (w6.ownsRow W0.heap.size 5 1 v6 (n + 1) (bs Z2)) := (by have h := g6.own; rw [bs_len, ZN.out] at h; exact h); clear g6; obtain ⟨A9, c9, rfl⟩ := own_slice O6.out)
      | ((fail_if_success (have := O6)); refine step_app_bytes (by rfl) _ _ 22 (by rfl) W0.heap.size v5 (bs F) (by rfl) (own5 _ (by repeat (first | exact only_refl _ _ | refine only_drew ?_ | refine only_drewN ?_ _ | refine only_alloc ?_ _))) (.slice (some ⟨W0.heap.size, 0, none⟩) 1 1) (bs [by']) (by rfl) (one_src by' (a := W0) (r := none) rfl (only_step (only_step (show World.grownBy (W0.alloc (.cells #[.int .u8 by'] 5)) _ none from (by repeat (first | exact only_refl _ _ | refine only_drew ?_ | refine only_drewN ?_ _ | refine only_alloc ?_ _))) L5.out (fun k hk => by cases hk; exact .inr (by simp [size_alloc]))) (show w5.grownBy _ none from (by repeat (first | exact only_refl _ _ | refine only_drew ?_ | refine only_drewN ?_ _ | refine only_alloc ?_ _))) (fun _ h => by cases h)) (by simp)) len2 (World.grownBy.size (only_step D5.out (show w5.grownBy _ none from (by repeat (first | exact only_refl _ _ | refine only_drew ?_ | refine only_drewN ?_ _ | refine only_alloc ?_ _))) (fun _ h => by cases h))) ?_; intro v6 w6 g6; rw [← bs_append, ← HZ.out] at g6; have D6 : Hid (W0.grownBy w6 none) := g6.all (own5 _ (by repeat (first | exact only_refl _ _ | refine only_drew ?_ | refine only_drewN ?_ _ | refine only_alloc ?_ _))) (only_step D5.out (show w5.grownBy _ none from (by repeat (first | exact only_refl _ _ | refine only_drew ?_ | refine only_drewN ?_ _ | refine only_alloc ?_ _))) (fun _ h => by cases h)) (Nat.le_refl _); have O6 : Hid (w6.ownsRow W0.heap.size 5 1 v6 (n + 1) (bs Z2)) := (by have h := g6.own; rw [bs_len, ZN.out] at h; exact h); clear g6; obtain ⟨A9, c9, rfl⟩ := own_slice O6.out)
      | ((fail_if_success (have := O6)); refine step_app_bytes (by rfl) _ _ 22 (by rfl) W0.heap.size v5 (bs F) (by rfl) (own5 _ (by repeat (first | exact only_refl _ _ | refine only_drew ?_ | refine only_drewN ?_ _ | refine only_alloc ?_ _))) (.slice (some ⟨W0.heap.size + 1, 0, none⟩) 1 1) (bs [by']) (by rfl) (one_src by' (a := W0.alloc (.cells #[] 5)) (size_alloc _ _).symm (only_step (only_step (only_none (show World.grownBy ((W0.alloc (.cells #[] 5)).alloc (.cells #[.int .u8 by'] 5)) _ none from (by repeat (first | exact only_refl _ _ | refine only_drew ?_ | refine only_drewN ?_ _ | refine only_alloc ?_ _))) _) L5.out (fun k hk => .inl hk)) (only_none (show w5.grownBy _ none from (by repeat (first | exact only_refl _ _ | refine only_drew ?_ | refine only_drewN ?_ _ | refine only_alloc ?_ _))) _) (fun k hk => .inl hk)) (by rw [size_alloc]; simp [Value.ownBlock])) len2 (World.grownBy.size (only_step D5.out (show w5.grownBy _ none from (by repeat (first | exact only_refl _ _ | refine only_drew ?_ | refine only_drewN ?_ _ | refine only_alloc ?_ _))) (fun _ h => by cases h))) ?_; intro v6 w6 g6; rw [← bs_append, ← HZ.out] at g6; have D6 : Hid (W0.grownBy w6 none) := g6.all (own5 _ (by repeat (first | exact only_refl _ _ | refine only_drew ?_ | refine only_drewN ?_ _ | refine only_alloc ?_ _))) (only_step D5.out (show w5.grownBy _ none from (by repeat (first | exact only_refl _ _ | refine only_drew ?_ | refine only_drewN ?_ _ | refine only_alloc ?_ _))) (fun _ h => by cases h)) (Nat.le_refl _); have O6 : Hid (w6.ownsRow W0.heap.size 5 1 v6 (n + 1) (bs Z2)) := (by have h := g6.own; rw [bs_len, ZN.out] at h; exact h); clear g6; obtain ⟨A9, c9, rfl⟩ := own_slice O6.out)
      | ((fail_if_success (have := O5)); refine step_app_bytes (by rfl) _ _ 22 (by rfl) W0.heap.size (.slice (some ⟨W0.heap.size, 0, none⟩) 0 0) [] (by rfl) (ownE W0 _ (W0.heap.size) rfl (World.grownBy.size (show W0.grownBy _ none from (by repeat (first | exact only_refl _ _ | refine only_drew ?_ | refine only_drewN ?_ _ | refine only_alloc ?_ _)))) (by repeat (first | exact only_refl _ _ | refine only_drew ?_ | refine only_drewN ?_ _ | refine only_alloc ?_ _))) (.slice A3 n c3) (bs F) (by rfl) (srcF _ (by repeat (first | exact only_refl _ _ | refine only_drew ?_ | refine only_drewN ?_ _ | refine only_alloc ?_ _))).out len1 (World.grownBy.size (show W0.grownBy _ none from (by repeat (first | exact only_refl _ _ | refine only_drew ?_ | refine only_drewN ?_ _ | refine only_alloc ?_ _)))) ?_; intro v5 w5 g5; rw [List.nil_append] at g5; have O5 := Lib.hid g5.own; have L5 := Lib.hid g5.only; have D5 : Hid (W0.grownBy w5 none) := g5.all (ownE W0 _ (W0.heap.size) rfl (World.grownBy.size (show W0.grownBy _ none from (by repeat (first | exact only_refl _ _ | refine only_drew ?_ | refine only_drewN ?_ _ | refine only_alloc ?_ _)))) (by repeat (first | exact only_refl _ _ | refine only_drew ?_ | refine only_drewN ?_ _ | refine only_alloc ?_ _))) (by repeat (first | exact only_refl _ _ | refine only_drew ?_ | refine only_drewN ?_ _ | refine only_alloc ?_ _)) (Nat.le_refl _); have own5 : ∀ V, w5.grownBy V none → V.ownsRow W0.heap.size 5 1 v5 (bs F).length (bs F) := (fun V hV => O5.out.kept hV (by cases v5.ownBlock <;> simp)); clear g5)
      | ((fail_if_success (have := O5)); refine step_app_bytes (by rfl) _ _ 22 (by rfl) W0.heap.size (.slice (some ⟨W0.heap.size + 1, 0, none⟩) 0 0) [] (by rfl) (ownE (W0.alloc (.cells #[.int .u8 by'] 5)) _ (W0.heap.size + 1) (size_alloc _ _).symm (World.grownBy.size (show W0.grownBy _ none from (by repeat (first | exact only_refl _ _ | refine only_drew ?_ | refine only_drewN ?_ _ | refine only_alloc ?_ _)))) (by repeat (first | exact only_refl _ _ | refine only_drew ?_ | refine only_drewN ?_ _ | refine only_alloc ?_ _))) (.slice A3 n c3) (bs F) (by rfl) (srcF _ (by repeat (first | exact only_refl _ _ | refine only_drew ?_ | refine only_drewN ?_ _ | refine only_alloc ?_ _))).out len1 (World.grownBy.size (show W0.grownBy _ none from (by repeat (first | exact only_refl _ _ | refine only_drew ?_ | refine only_drewN ?_ _ | refine only_alloc ?_ _)))) ?_; intro v5 w5 g5; rw [List.nil_append] at g5; have O5 := Lib.hid g5.own; have L5 := Lib.hid g5.only; have D5 : Hid (W0.grownBy w5 none) := g5.all (ownE (W0.alloc (.cells #[.int .u8 by'] 5)) _ (W0.heap.size + 1) (size_alloc _ _).symm (World.grownBy.size (show W0.grownBy _ none from (by repeat (first | exact only_refl _ _ | refine only_drew ?_ | refine only_drewN ?_ _ | refine only_alloc ?_ _)))) (by repeat (first | exact only_refl _ _ | refine only_drew ?_ | refine only_drewN ?_ _ | refine only_alloc ?_ _))) (by repeat (first | exact only_refl _ _ | refine only_drew ?_ | refine only_drewN ?_ _ | refine only_alloc ?_ _)) (Nat.le_refl _); have own5 : ∀ V, w5.grownBy V none → V.ownsRow W0.heap.size 5 1 v5 (bs F).length (bs F) := (fun V hV => O5.out.kept hV (by cases v5.ownBlock <;> simp)); clear g5)
      ))
    all_goals (first
      | (obtain ⟨x74, h74⟩ : ∃ x, x = Value.slice (some ⟨W0.heap.size, 0, none⟩) 0 0 := ⟨_, rfl⟩; obtain ⟨x78, h78⟩ : ∃ x, x = Value.slice (some ⟨w5.heap.size, 0, none⟩) 1 1 := ⟨_, rfl⟩; rw [← h74, ← h78]; clear h74 h78; exact key () x74 v5 x78 w6 A9 c9 D6 O6)
      | (obtain ⟨x74, h74⟩ : ∃ x, x = Value.slice (some ⟨W0.heap.size, 0, none⟩) 0 0 := ⟨_, rfl⟩; obtain ⟨x78, h78⟩ : ∃ x, x = Value.slice (some ⟨W0.heap.size + 1, 0, none⟩) 1 1 := ⟨_, rfl⟩; rw [← h74, ← h78]; clear h74 h78; exact key () x74 v5 x78 w6 A9 c9 D6 O6)
      | (obtain ⟨x74, h74⟩ : ∃ x, x = Value.slice (some ⟨W0.heap.size + 1, 0, none⟩) 0 0 := ⟨_, rfl⟩; obtain ⟨x78, h78⟩ : ∃ x, x = Value.slice (some ⟨W0.heap.size, 0, none⟩) 1 1 := ⟨_, rfl⟩; rw [← h74, ← h78]; clear h74 h78; exact key () x74 v5 x78 w6 A9 c9 D6 O6)
      | skip)
  intro x74 v5 x78 w6 A9 c9 D6 O6
  have c9l := own_cap O6.out
  have G6 : Hid (w.grownBy w6 none) := only_step G0.out D6.out (fun _ h => by cases h)
  have HAL : ∀ V, (w6.alloc (.cells #[Value.slice A3 n c3, .slice (some ⟨g, 0, none⟩) n cg, .slice A3 k c3, .slice A9 (n + 1) c9, .slice B m.length cb] 22)).grownBy V none → ∀ j, V.cell? ⟨w6.heap.size, j, none⟩ = (#[Value.slice A3 n c3, .slice (some ⟨g, 0, none⟩) n cg, .slice A3 k c3, .slice A9 (n + 1) c9, .slice B m.length cb])[j]? := fun V hV j => by
    have hlt : w6.heap.size < (w6.alloc (.cells #[Value.slice A3 n c3, .slice (some ⟨g, 0, none⟩) n cg, .slice A3 k c3, .slice A9 (n + 1) c9, .slice B m.length cb] 22)).heap.size := by rw [size_alloc]; omega
    exact (World.cell?_of_block (hV.block _ hlt (by simp))).trans (by unfold World.cell?; rw [heap_alloc_new]; rfl)
  have g60' := World.grownBy_alloc w6 (.cells #[Value.slice A3 n c3, .slice (some ⟨g, 0, none⟩) n cg, .slice A3 k c3, .slice A9 (n + 1) c9, .slice B m.length cb] 22) none
  obtain ⟨V0, hV0⟩ : ∃ V0, V0 = w6.alloc (.cells #[Value.slice A3 n c3, .slice (some ⟨g, 0, none⟩) n cg, .slice A3 k c3, .slice A9 (n + 1) c9, .slice B m.length cb] 22) := ⟨_, rfl⟩
  rw [← hV0] at HAL g60' ⊢
  have g60 := Lib.hid g60'
  obtain ⟨SB, hSB⟩ : ∃ SB, SB = w6.heap.size := ⟨_, rfl⟩
  rw [← hSB] at HAL ⊢
  clear hV0 hSB g60'
  have GV : Hid (w.grownBy V0 none) := only_step G6.out g60.out (fun _ h => by cases h)
  have ROWS : Hid (∀ i : Nat, i < 5 → ∃ (Av : Option Addr) (cv : Nat) (Z : List Int), (∀ V, V0.grownBy V none → Hid (V.cell? ⟨SB, i, none⟩ = some (.slice Av Z.length cv) ∧ Has V V.heap.size Av (bs Z))) ∧ (∀ x ∈ Z, 0 ≤ x ∧ x ≤ 255) ∧ Z.length ≤ 1099511627776 ∧ Z.length ≤ cv) := by
    intro i hi
    have up : ∀ (A : Option Addr) (l : List Int), Has w6 w6.heap.size A (bs l) → ∀ V, V0.grownBy V none → Has V V.heap.size A (bs l) := fun A l h V hV =>
      (h.only (only_step g60.out hV (fun _ h => by cases h)) (Nat.le_refl _) (fun _ h => by cases h)).more (only_step g60.out hV (fun _ h => by cases h)).size
    have up0 : ∀ (A : Option Addr) (l : List Int), Has W0 W0.heap.size A (bs l) → Has w6 w6.heap.size A (bs l) := fun A l h => (h.only D6.out (Nat.le_refl _) (fun _ h => by cases h)).more D6.out.size
    have fl : F.length = n := HN.out.symm
    rcases (show i = 0 ∨ i = 1 ∨ i = 2 ∨ i = 3 ∨ i = 4 by omega) with rfl | rfl | rfl | rfl | rfl
    · exact ⟨A3, c3, F, fun V hV => ⟨by rw [HAL V hV 0, fl]; rfl, up _ _ (up0 _ _ HF0.out) V hV⟩, BF.out, by omega, by rw [fl]; exact c3l⟩
    · exact ⟨some ⟨g, 0, none⟩, cg, Y, fun V hV => ⟨by rw [HAL V hV 1, YL.out]; rfl, up _ _ (up0 _ _ HY0.out) V hV⟩, YB.out, by rw [YL.out]; omega, by rw [YL.out]; exact cgl⟩
    · have tl : (F.take k).length = k := by rw [List.length_take]; omega
      have ht : Has W0 W0.heap.size A3 (bs (F.take k)) := by rw [show bs (F.take k) = (bs F).take k by simp [bs, List.map_take]]; exact HF0.out.take k
      exact ⟨A3, c3, F.take k, fun V hV => ⟨by rw [HAL V hV 2, tl]; rfl, up _ _ (up0 _ _ ht) V hV⟩, fun x hx => BF.out x (List.mem_of_mem_take hx), by rw [tl]; omega, by rw [tl]; omega⟩
    · exact ⟨A9, c9, Z2, fun V hV => ⟨by rw [HAL V hV 3, ZN.out]; rfl, up _ _ (Has.own O6.out) V hV⟩, fun x hx => by
        rw [HZ.out] at hx
        rcases List.mem_append.1 hx with h | h
        · exact BF.out x h
        · rw [List.mem_singleton.1 h]; exact ⟨b1, b2⟩, by rw [ZN.out]; omega, by rw [ZN.out]; exact c9l⟩
    · exact ⟨B, cb, m, fun V hV => ⟨by rw [HAL V hV 4]; rfl, up _ _ (up0 _ _ HB0.out) V hV⟩, BM.out, by omega, hcb⟩
  clear HAL ownE srcF WK len1 len2 O9 cgl c3l c9l
  go_wp2_with fail
  go_loopw [15] (fun si wx => ∃ i : Nat, i ≤ 5 ∧ si = .int .i64 i ∧ Hid (V0.grownBy wx none)) (fun si _ => 5 - (intOf si).toNat)
  case atStart => exact ⟨0, by omega, rfl, only_refl _ _⟩
  case round =>
    obtain ⟨j, hj, rfl, hVj⟩ := hrel
    have hGj : Hid (w.grownBy wr none) := only_step GV.out hVj.out (fun _ h => by cases h)
    by_cases hlt : j < 5
    · have v1 : (j : Int) < 5 := by omega
      have v0 : (0 : Int) ≤ (j : Int) := by omega
      have vs : IntKind.i64.wrap ((j : Int) + 1) = (j : Int) + 1 := by rw [IntKind.wrap_i64]; omega
      obtain ⟨Av, cv, Z, hC, zb, zl, zc⟩ := ROWS.out j hlt
      have ce := (hC wr hVj.out).out.1
      obtain ⟨r, hr⟩ : ∃ r, r = oneE Z := ⟨_, rfl⟩
      have rr : (r == r) = true := by simp
      have O1 := one_any Av cv Z wr (hC wr hVj.out).out.2 zb zl zc (HT.out.grow hGj.out)
      rw [← hr] at O1
      have RO : ∀ V, V0.grownBy V none → Hid (Calls Tryd.prog 16 #[.slice Av Z.length cv] V fun e w' => ∃ v, e = .returned (.tuple #[v, .int .i64 r]) ∧ OneV V w' Z v ∧ V.grownBy w' none) := fun V hV => by
        have h := rone_any Av cv Z V (hC V hV).out.2 zb zl zc
        rw [← hr] at h; exact h
      have O1' := Lib.hid O1
      clear O1 zb zl zc hr
      go_wp2_with fail
      refine O1'.out.mono ?_
      rintro _ w7 ⟨v7, rfl, q7, g7⟩
      obtain ⟨A7, c7, rfl, h7⟩ := OneV.row q7
      have V7 : Hid (V0.grownBy w7 none) := only_step hVj.out g7 (fun _ h => by cases h)
      have H7 := Lib.hid h7
      have ce7 := (hC w7 V7.out).out.1
      clear q7 g7 h7 O1'
      go_wp2_with fail
      refine (RO w7 V7.out).out.mono ?_
      rintro _ w8 ⟨v8, rfl, q8, g8⟩
      obtain ⟨A8, c8, rfl, h8⟩ := OneV.row q8
      have V8 : Hid (V0.grownBy w8 none) := only_step V7.out g8 (fun _ h => by cases h)
      have cva := conv_string (H7.out.only g8 (Nat.le_refl _) (fun _ h => by cases h)) c7
      have cvb := conv_string h8 c8
      clear q8 g8 h8 RO hC ce ce7
      obtain ⟨tt, htt⟩ : ∃ tt, tt = strOfNums (resP Z) := ⟨_, rfl⟩
      obtain ⟨rl, hrl⟩ : ∃ rl, rl = (resP Z).length := ⟨_, rfl⟩
      rw [← htt, ← hrl] at cva cvb
      rw [← hrl]
      clear htt hrl
      go_wp2_with fail
      exact ⟨⟨j + 1, by omega, by go_num, V8⟩, by simp [intOf]; omega⟩
    · have v1 : ¬ (j : Int) < 5 := by omega
      go_wp2_with fail
      go_ret
      exact ⟨rfl, hGj.out⟩
end Go.Proofs.YtjdpnidenjeigaaDoor
