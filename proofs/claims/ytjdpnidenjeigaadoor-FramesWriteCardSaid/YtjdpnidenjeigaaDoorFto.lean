/- The walk of FramesTorn: it returns true for every input. Asked of the world: the table's cells. -/
import Derived.Test.YtjdpnidenjeigaaDoorFtp
namespace Go.Proofs.YtjdpnidenjeigaaDoor
open Go.RowKit Go.ChangeShapes

/-- append onto a []byte of the call's own, at a step of a region that draws its order. -/
theorem step_app_bytes {w : World} {ops : Array Oper} {o : Oper} {a : Act} {K : Act → World → Prop} {Q : Exit → Act → World → Prop} {E : Prop} (hgd : o.guard = none) (s x : Operand) (tx : TypeId)
    (ho : o.op = .call { callee := .builtin .append, args := #[s, x], argTypes := #[22, tx] })
    (base : Nat) (v : Value) (xs : List Value) (hs : a.eval s = v) (hown : w.ownsRow base 5 1 v xs.length xs) (u : Value) (news : List Value) (hu : a.eval x = u) (hsrc : Src Tryd.prog 1 tx u news.length news w)
    (hlen : xs.length + news.length ≤ 70368744177664) (hbase : base ≤ w.heap.size)
    (h : ∀ v' w', Grew w w' base 5 v v' (xs ++ news) → K (a.put o.dst v') w') : if Region.wanted o (yielded ops a.tmps) = true then Oper.wp Tryd.prog o a w K Q else E := by
  have hw : Region.wanted o (yielded ops a.tmps) = true := by simp [Region.wanted, hgd]
  rw [if_pos hw]
  obtain ⟨i0, hi, hz0, hz1, hz2⟩ := info_parts Tryd.info_u8
  obtain ⟨v', w', hrun, hgr⟩ := run_append_src (P := Tryd.prog) w base 22 tx o.type 5 i0 (.int .u8 0) 1 Tryd.underlying22 hi hz0 hz1 hz2 rfl v xs hown u news hsrc (by simp only [maxLen]; omega) (by omega) hbase
  unfold Oper.wp execOp
  simp only [ho, resolve, invoke, builtin, Sem.run_bind, Sem.run_pure, Result.andThen_ok, List.map_toArray, List.map_cons, List.map_nil, hs, hu, hrun]
  exact h v' w' hgr
theorem own_lit0 (w : World) : (w.alloc (.cells #[] 5)).ownsRow w.heap.size 5 1 (.slice (some ⟨w.heap.size, 0, none⟩) 0 0) ([] : List Value).length [] :=
  ⟨rfl, .inr ⟨w.heap.size, 0, #[], rfl, Nat.le_refl _, heap_alloc_new w _, Nat.le_refl _, Nat.zero_le _, rfl, rfl⟩⟩
theorem Has.srcAt {w w' : World} {A : Option Addr} {l : List Int} (h : Has w w.heap.size A (bs l)) (hg : w.grownBy w' none) (c : Nat) : Src Tryd.prog 1 22 (.slice A l.length c) (bs l).length (bs l) w' := by
  have h := ((h.only hg (Nat.le_refl _) (fun _ h => by cases h)).more hg.size).src (P := Tryd.prog) (tx := 22) Tryd.underlying22 c (bs_one _)
  rw [bs_len] at h ⊢
  exact h

set_option maxRecDepth 100000 in
set_option maxHeartbeats 8000000 in
theorem torn_core (A B : Option Addr) (ca cb : Nat) (L : List (List Int)) (m : List Int) (cut : Int) (w : World) (hA : RR w A L) (hB : Has w w.heap.size B (bs m)) (hb : ∀ l ∈ L, ∀ x ∈ l, 0 ≤ x ∧ x ≤ 255) (bm : ∀ x ∈ m, 0 ≤ x ∧ x ≤ 255)
    (hl : ∀ x ∈ L, x.length ≤ 300) (hn : L.length ≤ 10) (hm : m.length ≤ 300) (e1 : -9223372036854775808 ≤ cut) (e2 : cut ≤ 9223372036854775807) (hT : Tab w) :
    Calls Tryd.prog 5 #[.slice A L.length ca, .slice B m.length cb, .int .i64 cut] w fun e w' => e = .returned (.bool true) ∧ w.grownBy w' none := by
  have HA := Lib.hid hA
  have HBm := Lib.hid hB
  have HBL := Lib.hid hb
  have HLL := Lib.hid hl
  have BM := Lib.hid bm
  have HT := Lib.hid hT
  have t3 : ¬ (300 : Int) < (m.length : Int) := by omega
  have FL := frP_len m
  have BF := frP_byte m bm
  obtain ⟨M, hM⟩ : ∃ M, M = logP L := ⟨_, rfl⟩
  have MB := logP_byte L hb
  have ML := logP_bound L hl
  have SPm := scanP_log L (frP m) hb (fun l h => by have := hl l h; omega)
  have SPf := scanP_fr m [] bm (by omega)
  rw [List.append_nil, scanP_no (l := []) (by decide)] at SPf
  rw [SPf, ← hM] at SPm
  have SPt : ∀ k, k < (frP m).length → scanP (M ++ (frP m).take k) = (L, M.length) := fun k hk => by
    have h := one_cut m (by omega) k hk
    have h0 : firstE ((frP m).take k) ≠ 0 := fun h0 => by
      unfold oneE at h; rw [h0, if_neg (by omega)] at h
      split at h <;> omega
    rw [hM, scanP_log L _ hb (fun l h => by have := hl l h; omega), scanP_no h0]; simp
  rw [← hM] at MB ML
  obtain ⟨F, hF⟩ : ∃ F, F = frP m := ⟨_, rfl⟩
  rw [← hF] at FL BF SPm SPt
  have F8 : 8 ≤ F.length := by omega
  have F9 : F.length ≤ 308 := by omega
  have mb : M.length ≤ 3080 := by
    have : L.length * 308 ≤ 10 * 308 := Nat.mul_le_mul_right _ hn
    omega
  have HM := Lib.hid hM
  have HF := Lib.hid hF
  have FL' := Lib.hid FL
  have BF' := Lib.hid BF
  have MB' := Lib.hid MB
  obtain ⟨Z2, hZ2⟩ : ∃ Z2, Z2 = M ++ F := ⟨_, rfl⟩
  have SPm2 : scanP Z2 = (L ++ [m], M.length + F.length) := by rw [hZ2, SPm]; simp; omega
  have SPm' := Lib.hid SPm2
  have Z2B := Lib.hid (show ∀ x ∈ Z2, 0 ≤ x ∧ x ≤ 255 from fun x hx => by rw [hZ2] at hx; exact (List.mem_append.1 hx).elim (MB'.out x) (BF'.out x))
  have Z2L := Lib.hid (show Z2.length ≤ 4000 by rw [hZ2, List.length_append]; omega)
  have HZ2 := Lib.hid hZ2
  have k1 := Int.emod_nonneg cut (show (F.length : Int) ≠ 0 by omega)
  have k2 := Int.emod_lt_of_pos cut (show (0 : Int) < (F.length : Int) by omega)
  obtain ⟨k, hk⟩ : ∃ k : Nat, cut % (F.length : Int) = k := ⟨(cut % (F.length : Int)).toNat, by omega⟩
  have hkl : k < F.length := by omega
  have WK : ∀ W, Hid (Calls Tryd.prog 14 #[.int .i64 cut, .int .i64 F.length] W fun e w' => e = .returned (.int .i64 k) ∧ W = w') := fun W => by rw [← hk]; exact within_any cut F.length e1 e2 (by omega) (by omega) W
  obtain ⟨Z, hZ⟩ : ∃ Z, Z = M ++ F.take k := ⟨_, rfl⟩
  have SPk0 := SPt k hkl
  rw [← hZ] at SPk0
  have SPk := Lib.hid SPk0
  have ZB := Lib.hid (show ∀ x ∈ Z, 0 ≤ x ∧ x ≤ 255 from fun x hx => by rw [hZ] at hx; exact (List.mem_append.1 hx).elim (MB'.out x) (fun h => BF'.out x (List.mem_of_mem_take h)))
  have ZL := Lib.hid (show Z.length ≤ 4000 by rw [hZ, List.length_append, List.length_take]; omega)
  have HZ := Lib.hid hZ
  obtain ⟨t, ht⟩ : ∃ t, t = strOfNums m := ⟨_, rfl⟩
  have CV : ∀ W, w.grownBy W none → Hid ((convert 22 9 (.slice B m.length cb)).run Tryd.prog W = .ok (.string t) W) := fun W hW => by
    rw [ht]; exact conv_string (HBm.out.only hW (Nat.le_refl _) (fun _ h => by cases h)) cb
  have Ht := Lib.hid ht
  have TKL := Lib.hid (show (F.take k).length = k by rw [List.length_take]; omega)
  have wl : IntKind.i64.wrap ((L.length : Int) + 1) = (L.length : Int) + 1 := by rw [IntKind.wrap_i64]; omega
  have wm : IntKind.i64.wrap ((M.length : Int) + (F.length : Int)) = (M.length : Int) + (F.length : Int) := by rw [IntKind.wrap_i64]; omega
  clear hA hB hb bm hl hT FL BF hM MB ML SPm SPf SPt hF k1 k2 hk ht hZ SPk0 hZ2 SPm2
  go_enter Tryd.func5, Tryd.ntmps5
  go_wp2_with fail
  refine (known_any w HT.out).mono ?_
  rintro _ w1 ⟨rfl, g1⟩
  have G1 := Lib.hid g1
  have R1 := Lib.hid (HA.out.grow g1)
  clear g1
  go_wp2_with fail
  refine (few_is A ca L true (iff_yes' ⟨HLL.out, hn⟩) w1 R1.out (by unfold maxLen; omega)).mono ?_
  rintro _ w2 ⟨rfl, rfl⟩
  go_wp2_with fail
  refine (log_any A ca L w1 R1.out HBL.out HLL.out hn).mono ?_
  rintro _ w3 ⟨v3, rfl, o3, g3⟩
  rw [← HM.out] at o3
  obtain ⟨A3, c3, rfl⟩ := own_slice o3
  have H3 : Hid (Has w3 w3.heap.size A3 (bs M)) := Has.own o3
  have G3 : Hid (w.grownBy w3 none) := only_step G1.out g3 (fun _ h => by cases h)
  clear o3 g3 R1
  go_wp2_with fail
  refine (frame_any B cb m w3 ((HBm.out.only G3.out (Nat.le_refl _) (fun _ h => by cases h)).more G3.out.size) BM.out (by omega) (HT.out.grow G3.out)).mono ?_
  rintro _ w4 ⟨v4, rfl, o4, g4⟩
  rw [← HF.out, bs_len] at o4
  obtain ⟨A4, c4, rfl⟩ := own_slice o4
  have H4 : Hid (Has w4 w4.heap.size A4 (bs F)) := Has.own o4
  have G4 : Hid (w.grownBy w4 none) := only_step G3.out g4 (fun _ h => by cases h)
  have H34 : Hid (Has w4 w4.heap.size A3 (bs M)) := (H3.out.only g4 (Nat.le_refl _) (fun _ h => by cases h)).more g4.size
  have c4l := own_cap o4
  clear o4 g4 H3
  go_wp2_with fail
  refine (WK _).out.mono ?_
  rintro _ w5 ⟨rfl, rfl⟩
  have kc : (k : Int) ≤ (c4 : Int) := by omega
  have k0 : (0 : Int) ≤ (k : Int) := by omega
  -- the torn log
  have DW : Hid (w4.grownBy (w4.alloc (.cells #[] 5)).drew none) := only_drew (World.grownBy_alloc w4 _ none)
  have lit := Lib.hid ((own_lit0 w4).kept (only_drew (only_refl _ none)) (by right; simp [Value.ownBlock]))
  have sM := Lib.hid (H34.out.srcAt DW.out c3)
  have len1 : ([] : List Value).length + (bs M).length ≤ 70368744177664 := by rw [bs_len]; show 0 + M.length ≤ _; omega
  have len2 : (bs M).length + (bs (F.take k)).length ≤ 70368744177664 := by rw [bs_len, bs_len, TKL.out]; omega
  have bz : w4.heap.size ≤ (w4.alloc (.cells #[] 5)).drew.heap.size := DW.out.size
  go_wp2_with fail
  go_region_held3 (fun _ => True) (first | trivial) ((first
    | (go_at_call 19; refine SC6'.out.mono ?_; rintro e w7 ⟨v7, rfl, r7, g7⟩; obtain ⟨A7, c7, rfl⟩ := r7.form; have R7 := Lib.hid r7; have G7 : Hid (w.grownBy w7 none) := only_step G6.out g7 (fun _ h => by cases h); have D7 : Hid (w4.grownBy w7 none) := only_step D6.out g7 (fun _ h => by cases h); clear r7 g7)
    | ((fail_if_success (have := O6)); refine step_app_bytes (by rfl) _ _ 22 (by rfl) w4.heap.size v5 (bs M) (by rfl) O5.out (.slice A4 k c4) (bs (F.take k)) (by rfl) sF.out len2 z5 ?_; intro v6 w6 g6; rw [← bs_append, ← HZ.out] at g6; have D6 := Lib.hid (g6.all O5.out D5.out (Nat.le_refl _)); have O6 := Lib.hid g6.own; obtain ⟨A6, c6, rfl⟩ := own_slice O6.out; have G6 : Hid (w.grownBy w6 none) := only_step G4.out D6.out (fun _ h => by cases h); have N6 := own_cap O6.out; rw [bs_len] at N6 ⊢; have SC6 := scan_any A6 c6 Z w6 (Has.own O6.out) ZB.out (Nat.le_trans ZL.out (by decide)) N6 (HT.out.grow G6.out); rw [SPk.out] at SC6; have SC6' := Lib.hid SC6; clear g6 SC6)
    | ((fail_if_success (have := O5)); refine step_app_bytes (by rfl) _ _ 22 (by rfl) w4.heap.size (.slice (some ⟨w4.heap.size, 0, none⟩) 0 0) [] (by rfl) lit.out (.slice A3 M.length c3) (bs M) (by rfl) sM.out len1 bz ?_; intro v5 w5 g5; rw [List.nil_append] at g5; have D5 := Lib.hid (g5.all lit.out DW.out (Nat.le_refl _)); have O5 := Lib.hid g5.own; have sF : Hid (Src Tryd.prog 1 22 (.slice A4 k c4) (bs (F.take k)).length (bs (F.take k)) w5) := (by have h := Has.srcAt (A := A4) (l := F.take k) (w := w4) (by rw [show bs (F.take k) = (bs F).take k by simp [bs, List.map_take]]; exact H4.out.take k) D5.out c4; rw [TKL.out] at h; exact h); have z5 : w4.heap.size ≤ w5.heap.size := D5.out.size; clear g5)))
  clear SC6' O5 O6 D5 D6 sF z5 N6 lit sM len2 bz DW
  -- the log with the whole frame
  have H7M := Lib.hid ((H34.out.only D7.out (Nat.le_refl _) (fun _ h => by cases h)).more D7.out.size)
  have H7F := Lib.hid ((H4.out.only D7.out (Nat.le_refl _) (fun _ h => by cases h)).more D7.out.size)
  have a7 : Hid (w.grownBy (w7.alloc (.cells #[] 5)) none) := only_alloc G7.out _
  have d7 := Lib.hid (World.grownBy_alloc w7 (.cells #[] 5) none)
  have s7 := Lib.hid (H7M.out.srcAt d7.out c3)
  have len3 : (bs M).length + (bs F).length ≤ 70368744177664 := by rw [bs_len, bs_len]; omega
  have z7 := d7.out.size
  go_wp2_with (first
    | (at_builtin; refine app_bytes rfl _ _ 22 rfl w7.heap.size (.slice (some ⟨w7.heap.size, 0, none⟩) 0 0) [] rfl (own_lit0 w7) (.slice A3 M.length c3) (bs M) rfl s7.out len1 z7 ?_; intro v8 w8 g8; rw [List.nil_append] at g8; have D8 := Lib.hid (g8.all (own_lit0 w7) d7.out (Nat.le_refl _)); have O8 := Lib.hid g8.own; have s8 := Lib.hid (H7F.out.srcAt D8.out c4); have z8 : w7.heap.size ≤ w8.heap.size := D8.out.size; clear g8)
    | (at_builtin; refine app_bytes rfl _ _ 22 rfl w7.heap.size v8 (bs M) rfl O8.out (.slice A4 F.length c4) (bs F) rfl s8.out len3 z8 ?_; intro v9 w9 g9; rw [← bs_append, ← HZ2.out] at g9; have D9 := Lib.hid (g9.all O8.out D8.out (Nat.le_refl _)); have O9 := Lib.hid g9.own; clear g9; obtain ⟨A9, c9, rfl⟩ := own_slice O9.out))
  have G9 : Hid (w.grownBy w9 none) := only_step G7.out D9.out (fun _ h => by cases h)
  have N9 := own_cap O9.out
  rw [bs_len] at N9 ⊢
  refine (scan_any A9 c9 Z2 w9 (Has.own O9.out) Z2B.out (Nat.le_trans Z2L.out (by decide)) N9 (HT.out.grow G9.out)).mono ?_
  rw [SPm'.out]
  rintro _ w10 ⟨v10, rfl, r10, g10⟩
  have G10 : Hid (w.grownBy w10 none) := only_step G9.out g10 (fun _ h => by cases h)
  have D10 : Hid (w7.grownBy w10 none) := only_step D9.out g10 (fun _ h => by cases h)
  obtain ⟨es, ho, he⟩ := r10
  rw [List.length_append, List.length_singleton] at ho
  obtain ⟨g, cz0, rfl, hg⟩ := own_form ho (by omega)
  obtain ⟨Az, cz, hx1, hx2, hx3⟩ := he L.length m (by rw [List.getElem?_append_right (Nat.le_refl _)]; simp)
  have hcell : w10.cell? ⟨g, L.length, none⟩ = some (.slice Az m.length cz) := by
    have := ho.cells (g := g) rfl L.length _ hx1
    rw [Addr.add_lit, Nat.zero_add] at this
    exact this
  have hgl := (ho.lt g rfl).2
  have hH : Has w10 w10.heap.size Az (bs m) := by
    rcases hx3 with h0 | ⟨b, off, e, hb, _, hc⟩
    · exact .inl (by rw [h0]; rfl)
    · exact .inr ⟨b, off, e, hb, hc⟩
  have SV : ∀ V, w10.grownBy V none → Hid (V.cell? ⟨g, L.length, none⟩ = some (.slice Az m.length cz) ∧ (convert 22 9 (.slice Az m.length cz)).run Tryd.prog V = .ok (.string t) V ∧ (convert 22 9 (.slice B m.length cb)).run Tryd.prog V = .ok (.string t) V ∧ w10.grownBy V none) := fun V hV => by
    refine ⟨(World.cell?_of_block (hV.block g hgl (by simp))).trans hcell, ?_, (CV _ (only_step G10.out hV (fun _ h => by cases h))).out, hV⟩
    rw [Ht.out]; exact conv_string (hH.only hV (Nat.le_refl _) (fun _ h => by cases h)) cz
  have RW : ∀ V, w10.grownBy V none → Hid (Calls Tryd.prog 21 #[.slice A7 L.length c7, .slice A L.length ca] V fun e w' => e = .returned (.bool true) ∧ V.grownBy w' none) := fun V hV =>
    rows_same A7 A c7 ca L V ((R7.out.grow (only_step D10.out hV (fun _ h => by cases h))).rr) (HA.out.grow (only_step G10.out hV (fun _ h => by cases h))) (by omega)
  have d0 : w10.grownBy w10.drew none := only_drew (only_refl _ none)
  have L0 : (0 : Int) ≤ (L.length : Int) := by omega
  have L1 : (L.length : Int) < (L.length : Int) + 1 := by omega
  clear ho he hx1 hx2 hx3 hcell hgl hH g10 N9 a7 d7 s7 len3 z7 len1
  go_wp2_with fail
  go_region_held3 (fun V => V.cell? ⟨g, L.length, none⟩ = some (.slice Az m.length cz) ∧ (convert 22 9 (.slice Az m.length cz)).run Tryd.prog V = .ok (.string t) V ∧ (convert 22 9 (.slice B m.length cb)).run Tryd.prog V = .ok (.string t) V ∧ w10.grownBy V none) (first | exact (SV _ (by assumption)).out) ((first
    | (go_at_call 21; refine (RW _ d0).out.mono ?_; rintro e wa ⟨rfl, ga⟩; have da : w10.grownBy wa none := only_step d0 ga (fun _ h => by cases h))))
  go_wp2_with fail
  go_ret
  exact ⟨rfl, only_step G10.out da (fun _ h => by cases h)⟩

theorem framesTorn_walk (A B : Option Addr) (ca cb : Nat) (L : List (List Int)) (m : List Int) (cut : Int) (w : World) (hA : RR w A L) (hB : Has w w.heap.size B (bs m)) (hb : ∀ l ∈ L, ∀ x ∈ l, 0 ≤ x ∧ x ≤ 255) (bm : ∀ x ∈ m, 0 ≤ x ∧ x ≤ 255)
    (hmax : L.length ≤ maxLen) (e1 : -9223372036854775808 ≤ cut) (e2 : cut ≤ 9223372036854775807) (hT : Tab w) :
    Calls Tryd.prog 5 #[.slice A L.length ca, .slice B m.length cb, .int .i64 cut] w fun e w' => e = .returned (.bool true) ∧ w.grownBy w' none := by
  by_cases hf : (∀ x ∈ L, x.length ≤ 300) ∧ L.length ≤ 10
  · by_cases hm : m.length ≤ 300
    · exact torn_core A B ca cb L m cut w hA hB hb bm hf.1 hf.2 hm e1 e2 hT
    · have t3 : (300 : Int) < (m.length : Int) := by omega
      have HT := Lib.hid hT
      have HA := Lib.hid hA
      have HF := Lib.hid hf
      have HM := Lib.hid hmax
      clear hA hB hb bm hT hf hmax hm
      go_enter Tryd.func5, Tryd.ntmps5
      go_wp2_with fail
      refine (known_any w HT.out).mono ?_
      rintro _ w1 ⟨rfl, g1⟩
      have G1 := Lib.hid g1
      clear g1
      go_wp2_with fail
      refine (few_is A ca L true (iff_yes' HF.out) w1 (HA.out.grow G1.out) HM.out).mono ?_
      rintro _ w2 ⟨rfl, rfl⟩
      go_wp2_with fail
      go_ret
      exact ⟨rfl, G1.out⟩
  · have HT := Lib.hid hT
    have HA := Lib.hid hA
    have HF := Lib.hid hf
    have HM := Lib.hid hmax
    clear hA hB hb bm hT hf hmax
    go_enter Tryd.func5, Tryd.ntmps5
    go_wp2_with fail
    refine (known_any w HT.out).mono ?_
    rintro _ w1 ⟨rfl, g1⟩
    have G1 := Lib.hid g1
    clear g1
    go_wp2_with fail
    refine (few_is A ca L false ⟨fun e => (by cases e), fun e => absurd e HF.out⟩ w1 (HA.out.grow G1.out) HM.out).mono ?_
    rintro _ w2 ⟨rfl, rfl⟩
    go_wp2_with fail
    go_ret
    exact ⟨rfl, G1.out⟩
end Go.Proofs.YtjdpnidenjeigaaDoor
