/- The walk of DiskCuts: it returns true for every input. No condition. -/
import Derived.Test.YtmjfemnjkgfgfaaTurns
import Derived.Lib.SlBytesRow
namespace Go.Proofs.Ytmjfemnjkgfgfaa
open Go.RowKit Go.Deep

theorem nums_append (x y : List Int) : strOfNums x ++ strOfNums y = strOfNums (x ++ y) := by
  apply ByteArray.ext
  apply Array.toList_inj.1
  rw [ByteArray.data_append, Array.toList_append, strOfNums_data, strOfNums_data, strOfNums_data, List.map_append]
theorem nums_take (x : List Int) (n : Nat) : (strOfNums x).extract 0 n = strOfNums (x.take n) := by
  apply ByteArray.ext
  apply Array.toList_inj.1
  rw [ByteArray.data_extract, Array.toList_extract, strOfNums_data, strOfNums_data, List.map_take]
  simp
def c1 (a : List Int) : DS := { L := a, S := [], sy := 0, rm := 1000, st := 0, sn := 1, op := 1, dd := false }
def c2 (l : List Int) : DS := { L := l, S := [], sy := l.length, rm := 1000, st := 0, sn := 2, op := 2, dd := false }
def c3 (l b : List Int) : DS := { L := l ++ b, S := [], sy := l.length, rm := 1000, st := 0, sn := 3, op := 3, dd := false }
theorem cut1 (a : List Int) (ha : a.length ≤ 300) : appendS (newS 1000) a = c1 a ∧ appendE (newS 1000) a = 0 ∧ Ok (c1 a) := by
  have hf : ¬ (newS 1000).rm < ((newS 1000).L.length : Int) + (newS 1000).S.length + a.length := by simp [newS]; omega
  refine ⟨by unfold appendS; rw [if_neg (by simp only [newS, Bool.false_eq_true, false_or]; exact hf)]; rfl, by unfold appendE; rw [if_neg (by show ¬ false = true; decide), if_neg hf]; rfl, ⟨by show a.length ≤ _; omega, Nat.zero_le _, ⟨Int.le_refl _, by show (0 : Int) ≤ (a.length : Int); omega⟩, ⟨by show (0 : Int) ≤ 1000; decide, by show (1000 : Int) ≤ _; decide⟩, Int.le_refl _, ⟨by show (0 : Int) ≤ 1; decide, by show (1 : Int) ≤ _; decide⟩, ⟨by show (0 : Int) ≤ 1; decide, by show (1 : Int) ≤ _; decide⟩⟩⟩
theorem cut2 (a : List Int) (m : Nat) (hm : m ≤ a.length) (l : List Int) (hl : l = a.take m) : cutS (c1 a) m = c2 l ∧ cutE (c1 a) m = 0 := by
  have hf : ¬ ((m : Int) < 0 ∨ ((c1 a).L.length : Int) < m) := by show ¬ ((m : Int) < 0 ∨ (a.length : Int) < m); omega
  have hlm : l.length = m := by rw [hl, List.length_take]; omega
  refine ⟨?_, by unfold cutE; rw [if_neg (by show ¬ false = true; decide), if_neg hf]; rfl⟩
  unfold cutS
  rw [if_neg (by simp only [c1, Bool.false_eq_true, false_or]; exact hf), if_pos (by show (!goes 0 1 || _) = true; rfl)]
  show ({ L := a.take m, S := [], sy := ((m : Nat) : Int), rm := 1000, st := 0, sn := 1 + 1, op := spO 0 1 1, dd := false || goes 0 1 } : DS) = c2 l
  rw [← hl, ← hlm]
  rfl
theorem ok2 (l : List Int) (hl : l.length ≤ 300) : Ok (c2 l) := ⟨by show l.length ≤ _; omega, Nat.zero_le _, ⟨by show (0 : Int) ≤ (l.length : Int); omega, Int.le_refl _⟩, ⟨by show (0 : Int) ≤ 1000; decide, by show (1000 : Int) ≤ _; decide⟩, Int.le_refl _, ⟨by show (0 : Int) ≤ 2; decide, by show (2 : Int) ≤ _; decide⟩, ⟨by show (0 : Int) ≤ 2; decide, by show (2 : Int) ≤ _; decide⟩⟩
theorem cut3 (l b : List Int) (hl : l.length ≤ 300) (hb : b.length ≤ 300) : appendS (c2 l) b = c3 l b ∧ appendE (c2 l) b = 0 ∧ Ok (c3 l b) := by
  have hf : ¬ (c2 l).rm < ((c2 l).L.length : Int) + (c2 l).S.length + b.length := by show ¬ (1000 : Int) < (l.length : Int) + (([] : List Int).length : Int) + b.length; simp only [List.length_nil]; omega
  refine ⟨by unfold appendS; rw [if_neg (by simp only [c2, Bool.false_eq_true, false_or]; exact hf)]; rfl, by unfold appendE; rw [if_neg (by show ¬ false = true; decide), if_neg hf]; rfl, ⟨by show (l ++ b).length ≤ _; rw [List.length_append]; omega, Nat.zero_le _, ⟨by show (0 : Int) ≤ (l.length : Int); omega, by show (l.length : Int) ≤ ((l ++ b).length : Int); rw [List.length_append]; omega⟩, ⟨by show (0 : Int) ≤ 1000; decide, by show (1000 : Int) ≤ _; decide⟩, Int.le_refl _, ⟨by show (0 : Int) ≤ 3; decide, by show (3 : Int) ≤ _; decide⟩, ⟨by show (0 : Int) ≤ 3; decide, by show (3 : Int) ≤ _; decide⟩⟩⟩
theorem cut4 (l b : List Int) (p : Int) : ∃ k : Nat, k ≤ b.length ∧ crashK (c3 l b) p = k ∧ (crashS (c3 l b) p).L = l ++ b.take k := by
  have hc : (((c3 l b).L.length : Int) - (c3 l b).sy + 1) = (b.length : Int) + 1 := by show ((l ++ b).length : Int) - (l.length : Int) + 1 = _; rw [List.length_append]; omega
  have h1 := Int.emod_nonneg p (show ((b.length : Int) + 1) ≠ 0 by omega)
  have h2 := Int.emod_lt_of_pos p (show (0 : Int) < (b.length : Int) + 1 by omega)
  have hk : crashK (c3 l b) p = p % ((b.length : Int) + 1) := by unfold crashK; rw [hc]
  refine ⟨(p % ((b.length : Int) + 1)).toNat, by omega, by rw [hk]; omega, ?_⟩
  show (l ++ b).take ((l.length : Int) + crashK (c3 l b) p).toNat = _
  rw [hk, show ((l.length : Int) + p % ((b.length : Int) + 1)).toNat = l.length + (p % ((b.length : Int) + 1)).toNat by omega, List.take_length_add_append]
set_option maxRecDepth 100000 in
set_option maxHeartbeats 2000000 in
theorem cuts_core (A B : Option Addr) (ca cb : Nat) (a b : List Int) (n pick : Int) (w : World) (hA : Has w w.heap.size A (bs a)) (hB : Has w w.heap.size B (bs b)) (hcb : b.length ≤ cb)
    (n1 : -9223372036854775808 ≤ n) (n2 : n ≤ 9223372036854775807) (f1 : -9223372036854775808 ≤ pick) (f2 : pick ≤ 9223372036854775807) (ha : a.length + b.length ≤ 300) :
    Calls Try.prog 8 #[.slice A a.length ca, .slice B b.length cb, .int .i64 n, .int .i64 pick] w fun e w' => e = .returned (.bool true) ∧ Below w.heap.size w w' := by
  have hwab : IntKind.i64.wrap ((a.length : Int) + (b.length : Int)) = (a.length : Int) + (b.length : Int) := by rw [IntKind.wrap_i64]; omega
  have hwa1 : IntKind.i64.wrap ((a.length : Int) + 1) = (a.length : Int) + 1 := by rw [IntKind.wrap_i64]; omega
  have t1 : ¬ (300 : Int) < (a.length : Int) + (b.length : Int) := by omega
  have ha1 : a.length ≤ 300 := by omega
  have hb1 : b.length ≤ 300 := by omega
  have KN := fun W => Lib.hid (known_any W)
  have WM := fun W => Lib.hid (within_any n ((a.length : Int) + 1) n1 n2 (by omega) (by omega) W)
  have pm1 := Int.emod_nonneg n (show ((a.length : Int) + 1) ≠ 0 by omega)
  have pm2 := Int.emod_lt_of_pos n (show (0 : Int) < (a.length : Int) + 1 by omega)
  obtain ⟨m, hm⟩ : ∃ m : Nat, (m : Int) = n % ((a.length : Int) + 1) := ⟨(n % ((a.length : Int) + 1)).toNat, by omega⟩
  rw [← hm] at WM pm2
  have hml : m ≤ a.length := by omega
  obtain ⟨lm, hlm⟩ : ∃ lm, lm = a.take m := ⟨_, rfl⟩
  have hlml : lm.length = m := by rw [hlm, List.length_take]; omega
  obtain ⟨s11, s12, s13⟩ := cut1 a ha1
  obtain ⟨s21, s22⟩ := cut2 a m hml lm hlm
  obtain ⟨s31, s32, s33⟩ := cut3 lm b (by omega) hb1
  obtain ⟨k, hk, hck, hcl⟩ := cut4 lm b pick
  have hkb : (k : Int) ≤ (b.length : Int) := by omega
  have OK2 := Lib.hid (ok2 lm (by omega))
  have OK1 := Lib.hid s13
  have OK3 := Lib.hid s33
  obtain ⟨gx, hgx⟩ : ∃ gx, gx = lm ++ b.take k := ⟨_, rfl⟩
  rw [← hgx] at hcl
  obtain ⟨sa, hsa⟩ : ∃ sa, sa = strOfNums a := ⟨_, rfl⟩
  obtain ⟨sm, hsm⟩ : ∃ sm, sm = strOfNums lm := ⟨_, rfl⟩
  obtain ⟨sk, hsk⟩ : ∃ sk, sk = strOfNums (b.take k) := ⟨_, rfl⟩
  obtain ⟨sx, hsx⟩ : ∃ sx, sx = strOfNums gx := ⟨_, rfl⟩
  have za : sa.size = a.length := by rw [hsa, strOfNums_size]
  have hex : sa.extract 0 m = sm := by rw [hsa, nums_take a m, ← hlm, hsm]
  have hap : sm ++ sk = sx := by rw [hsm, hsk, nums_append, ← hgx, hsx]
  have hbig : ¬ 9223372036854775807 < sm.size + sk.size := by rw [hsm, hsk, strOfNums_size, strOfNums_size, List.length_take]; omega
  have HA := Lib.hid hA
  have HB := Lib.hid hB
  have HCA : Hid (∀ W : World, Below w.heap.size w W → (convert 31 9 (.slice A a.length ca)).run Try.prog W = .ok (.string sa) W) := fun W hW => by rw [hsa]; exact conv_string (hA.below hW) ca
  have HCK : Hid (∀ W : World, Below w.heap.size w W → (convert 31 9 (.slice B k cb)).run Try.prog W = .ok (.string sk) W) := fun W hW => by
    have h := (hB.below hW).take k
    rw [show (bs b).take k = bs (b.take k) by rw [bs, ← List.map_take]; rfl] at h
    have h2 := conv_string h cb
    rw [show (b.take k).length = k by rw [List.length_take]; omega, ← hsk] at h2
    exact h2
  have HSM := Lib.hid hsm
  have HSX := Lib.hid hsx
  have HCL := Lib.hid (And.intro hck (And.intro hcl (And.intro s31 (And.intro s32 (And.intro s21 s22)))))
  have HGL : Hid (gx.length ≤ 1000) := by rw [hgx, List.length_append, List.length_take]; show _ ≤ _; omega
  have S1 := Lib.hid (And.intro s11 s12)
  have hs0 : Hid (lm.length = m) := hlml
  clear hA hB hm hlm hlml hgx hsa hsm hsk hsx pm1 n1 n2 s11 s12 s13 s21 s22 s31 s32 s33 hck hcl
  go_enter Try.func8, Try.ntmps8
  go_wp2_with fail
  refine (KN _).out.mono ?_
  rintro _ w1 ⟨rfl, b1⟩
  have z1 := b1.size
  have NW := Lib.hid (new_any w.heap.size 1000 w1 (by decide) (by decide) z1)
  go_wp2_with fail
  refine NW.out.mono ?_
  rintro _ w2 ⟨g, rfl, D2, gg2⟩
  have hgB := D2.lt
  have b2 : Below w.heap.size w w2 := b1.trans (bel gg2 (fun _ h => by cases h) z1)
  have AP := append_any w.heap.size g (newS 1000) A ca a w2 D2 (new_ok 1000 (by decide) (by decide)) ((HA.out.below b2).more b2.size) (by omega)
  rw [S1.out.1, S1.out.2] at AP
  have AP := Lib.hid AP
  clear D2 NW gg2 b1
  go_wp2_with fail
  refine AP.out.mono ?_
  rintro _ w3 ⟨rfl, D3, b3'⟩
  have b3 := b2.trans b3'
  have hca3 := HCA.out _ b3
  clear AP b2 b3'
  go_wp2_with fail
  refine (WM _).out.mono ?_
  rintro _ w4 ⟨rfl, rfl⟩
  have DW : Dk w3.drew w.heap.size g (c1 a) := D3.below (only_drew (only_refl w3 none))
  have b3d : Below w.heap.size w w3.drew := b3.trans (bel (only_drew (only_refl w3 none)) (fun _ h => by cases h) b3.size)
  have z3d := b3d.size
  have CT := cut_any w.heap.size g (c1 a) m w3.drew DW OK1.out
  rw [HCL.out.2.2.2.2.1, HCL.out.2.2.2.2.2] at CT
  have CT := Lib.hid CT
  have LGG : ∀ (d : DS) (l : List Int) (s : ByteArray), d.L = l → l.length ≤ 1000 → s = strOfNums l → ∀ W, Dk W w.heap.size g d → Hid (Calls Try.prog 25 #[.pointer (some ⟨g, 0, none⟩)] W fun e w' => (∃ A q, e = .returned (.slice A l.length q) ∧ (convert 31 9 (.slice A l.length q)).run Try.prog w' = .ok (.string s) w') ∧ W.grownBy w' none) := fun d l s hd hl hs W hW =>
    (log_any w.heap.size g d W hW (by rw [hd]; omega)).mono fun _ _ ⟨⟨v, he, ho⟩, hg⟩ => by
      obtain ⟨A, q, rfl⟩ := own_slice ho
      rw [hd] at he ho
      exact ⟨⟨A, q, he, by rw [hs]; exact conv_string (Has.own ho) q⟩, hg⟩
  have LG2 := LGG (c2 lm) lm sm rfl (by have := hs0.out; omega) HSM.out
  have LGX := LGG (crashS (c3 lm b) pick) gx sx HCL.out.2.1 HGL.out HSX.out
  clear LGG D3 DW
  go_wp2_with fail
  go_region_with (first
    | (go_at_call 23; refine CT.out.mono ?_; rintro e w5 ⟨rfl, D5, g5⟩)
    | (go_at_call 25; refine (LG2 _ D5).out.mono ?_; rintro e w6 ⟨⟨A6, q6, rfl, cv6⟩, g6⟩))
  have b5 : Below w.heap.size w w5 := b3d.trans (bel g5 (fun k hk => by cases hk; exact hgB.1) z3d)
  have D6 : Dk w6 w.heap.size g (c2 lm) := D5.below g6
  have b6 : Below w.heap.size w w6 := b5.trans (bel g6 (fun _ h => by cases h) b5.size)
  have z6 := b6.size
  have AP2 := append_any w.heap.size g (c2 lm) B cb b w6 D6 OK2.out ((HB.out.below b6).more b6.size) (by omega)
  rw [HCL.out.2.2.1, HCL.out.2.2.2.1] at AP2
  have AP2 := Lib.hid AP2
  clear D5 D6 cv6 g6 g5 b5 CT LG2 b3d z3d
  go_wp2_with fail
  refine AP2.out.mono ?_
  rintro _ w7 ⟨rfl, D7, b7'⟩
  have b7 := b6.trans b7'
  have z7 := b7.size
  have CR := crash_any w.heap.size g (c3 lm b) pick w7 D7 OK3.out f1 f2
  rw [HCL.out.1] at CR
  have CR := Lib.hid CR
  clear AP2 D7 b7'
  go_wp2_with fail
  refine CR.out.mono ?_
  rintro _ w8 ⟨rfl, D8, g8⟩
  have b8 : Below w.heap.size w w8 := b7.trans (bel g8 (fun k hk => by cases hk; exact hgB.1) z7)
  have z8 := b8.size
  have D8d : Dk w8.drew w.heap.size g (crashS (c3 lm b) pick) := D8.below (only_drew (only_refl w8 none))
  have LGD := LGX _ D8d
  have b8d : Below w.heap.size w w8.drew := b8.trans (bel (only_drew (only_refl w8 none)) (fun _ h => by cases h) z8)
  have hck8 := HCK.out _ b8d
  have hkz : (0 : Int) ≤ (k : Int) := by omega
  have hkc : (k : Int) ≤ (cb : Int) := by omega
  clear CR D8 g8
  go_wp2_with fail
  refine wp_region_held_drew (S := fun V => (convert 31 9 (.slice B k cb)).run Try.prog V = .ok (.string sk) V) (by kernel_rfl) hck8 (fun hHeld => ?_)
  refine wpAnyH_take (i := 0) (oi := { dst := some 54, op := Op.move (Operand.tmp 12), type := 3, pos := "more.go:116", after := #[], guard := none }) (v := ?_) rfl (by kernel_rfl) (by kernel_rfl) (by kernel_rfl) (fun _ _ _ h => h) (Or.inl ⟨by rfl, ?_⟩) hHeld ?_
  rotate_left
  · (intro W hSw; (try dsimp only at hSw); go_simp; try with_reducible rfl)
  try simp only [Act.put, List.setIfInBounds_toArray, List.set_cons_zero, List.set_cons_succ]
  refine wpAnyH_take (i := 1) (oi := { dst := some 55, op := Op.binOp BinOp.geq 3 (Operand.tmp 54) (Operand.const (Value.int IntKind.i64 0)) 3, type := 4, pos := "more.go:116", after := #[{ on := 0, ground := Ground.data }], guard := none }) (v := .bool true) rfl (by kernel_rfl) (by kernel_rfl) (by kernel_rfl) (fun _ _ _ h => h) (Or.inl ⟨by rfl, ?_⟩) hHeld ?_
  · (intro W hSw; (try dsimp only at hSw); go_simp; try with_reducible rfl)
  try simp only [Act.put, List.setIfInBounds_toArray, List.set_cons_zero, List.set_cons_succ]
  refine wpAnyH_take (i := 2) (oi := { dst := some 56, op := Op.move (Operand.tmp 55), type := 4, pos := "more.go:116", after := #[{ on := 1, ground := Ground.data }], guard := none }) (v := ?_) rfl (by kernel_rfl) (by kernel_rfl) (by kernel_rfl) (fun _ _ _ h => h) (Or.inl ⟨by rfl, ?_⟩) hHeld ?_
  rotate_left
  · (intro W hSw; (try dsimp only at hSw); go_simp; try with_reducible rfl)
  try simp only [Act.put, List.setIfInBounds_toArray, List.set_cons_zero, List.set_cons_succ]
  refine wpAnyH_take (i := 3) (oi := { dst := some 57, op := Op.move (Operand.tmp 12), type := 3, pos := "more.go:116", after := #[{ on := 2, ground := Ground.guard }], guard := some (2, true) }) (v := ?_) rfl (by kernel_rfl) (by kernel_rfl) (by kernel_rfl) (fun _ _ _ h => h) (Or.inl ⟨by rfl, ?_⟩) hHeld ?_
  rotate_left
  · (intro W hSw; (try dsimp only at hSw); go_simp; try with_reducible rfl)
  try simp only [Act.put, List.setIfInBounds_toArray, List.set_cons_zero, List.set_cons_succ]
  refine wpAnyH_take (i := 4) (oi := { dst := some 58, op := Op.move (Operand.tmp 1), type := 31, pos := "more.go:116", after := #[{ on := 2, ground := Ground.guard }], guard := some (2, true) }) (v := ?_) rfl (by kernel_rfl) (by kernel_rfl) (by kernel_rfl) (fun _ _ _ h => h) (Or.inl ⟨by rfl, ?_⟩) hHeld ?_
  rotate_left
  · (intro W hSw; (try dsimp only at hSw); go_simp; try with_reducible rfl)
  try simp only [Act.put, List.setIfInBounds_toArray, List.set_cons_zero, List.set_cons_succ]
  refine wpAnyH_take (i := 5) (oi := { dst := some 59, op := Op.call { callee := Callee.builtin Builtin.len, args := #[Operand.tmp 58], argTypes := #[31] }, type := 3, pos := "more.go:116", after := #[{ on := 4, ground := Ground.data }, { on := 2, ground := Ground.guard }], guard := some (2, true) }) (v := ?_) rfl (by kernel_rfl) (by kernel_rfl) (by kernel_rfl) (fun _ _ _ h => h) (Or.inl ⟨by rfl, ?_⟩) hHeld ?_
  rotate_left
  · (intro W hSw; (try dsimp only at hSw); go_simp; try with_reducible rfl)
  try simp only [Act.put, List.setIfInBounds_toArray, List.set_cons_zero, List.set_cons_succ]
  refine wpAnyH_take (i := 6) (oi := { dst := some 60, op := Op.binOp BinOp.leq 3 (Operand.tmp 57) (Operand.tmp 59) 3, type := 4, pos := "more.go:116", after := #[{ on := 3, ground := Ground.data }, { on := 5, ground := Ground.data }, { on := 2, ground := Ground.guard }], guard := some (2, true) }) (v := .bool true) rfl (by kernel_rfl) (by kernel_rfl) (by kernel_rfl) (fun _ _ _ h => h) (Or.inl ⟨by rfl, ?_⟩) hHeld ?_
  · (intro W hSw; (try dsimp only at hSw); go_simp; try with_reducible rfl)
  try simp only [Act.put, List.setIfInBounds_toArray, List.set_cons_zero, List.set_cons_succ]
  refine wpAnyH_take (i := 7) (oi := { dst := some 61, op := Op.pick (Operand.tmp 56) (Operand.tmp 60) (Operand.const (Value.bool false)), type := 4, pos := "more.go:116", after := #[{ on := 2, ground := Ground.data }, { on := 6, ground := Ground.data }], guard := none }) (v := ?_) rfl (by kernel_rfl) (by kernel_rfl) (by kernel_rfl) (fun _ _ _ h => h) (Or.inl ⟨by rfl, ?_⟩) hHeld ?_
  rotate_left
  · (intro W hSw; (try dsimp only at hSw); go_simp; try with_reducible rfl)
  try simp only [Act.put, List.setIfInBounds_toArray, List.set_cons_zero, List.set_cons_succ]
  refine wpAnyH_take (i := 8) (oi := { dst := some 62, op := Op.move (Operand.tmp 61), type := 4, pos := "more.go:116", after := #[{ on := 7, ground := Ground.data }, { on := 2, ground := Ground.chain }], guard := none }) (v := ?_) rfl (by kernel_rfl) (by kernel_rfl) (by kernel_rfl) (fun _ _ _ h => h) (Or.inl ⟨by rfl, ?_⟩) hHeld ?_
  rotate_left
  · (intro W hSw; (try dsimp only at hSw); go_simp; try with_reducible rfl)
  try simp only [Act.put, List.setIfInBounds_toArray, List.set_cons_zero, List.set_cons_succ]
  refine wpAnyH_take (i := 9) (oi := { dst := some 63, op := Op.move (Operand.tmp 9), type := 24, pos := "more.go:116", after := #[{ on := 8, ground := Ground.guard }], guard := some (8, true) }) (v := ?_) rfl (by kernel_rfl) (by kernel_rfl) (by kernel_rfl) (fun _ _ _ h => h) (Or.inl ⟨by rfl, ?_⟩) hHeld ?_
  rotate_left
  · (intro W hSw; (try dsimp only at hSw); go_simp; try with_reducible rfl)
  try simp only [Act.put, List.setIfInBounds_toArray, List.set_cons_zero, List.set_cons_succ]
  refine wpAnyH_take (i := 12) (oi := { dst := some 66, op := Op.move (Operand.tmp 11), type := 9, pos := "more.go:116", after := #[{ on := 8, ground := Ground.guard }], guard := some (8, true) }) (v := ?_) rfl (by kernel_rfl) (by kernel_rfl) (by kernel_rfl) (fun _ _ _ h => h) (Or.inl ⟨by rfl, ?_⟩) hHeld ?_
  rotate_left
  · (intro W hSw; (try dsimp only at hSw); go_simp; try with_reducible rfl)
  try simp only [Act.put, List.setIfInBounds_toArray, List.set_cons_zero, List.set_cons_succ]
  refine wpAnyH_take (i := 13) (oi := { dst := some 67, op := Op.move (Operand.tmp 2), type := 3, pos := "more.go:116", after := #[{ on := 8, ground := Ground.guard }], guard := some (8, true) }) (v := ?_) rfl (by kernel_rfl) (by kernel_rfl) (by kernel_rfl) (fun _ _ _ h => h) (Or.inl ⟨by rfl, ?_⟩) hHeld ?_
  rotate_left
  · (intro W hSw; (try dsimp only at hSw); go_simp; try with_reducible rfl)
  try simp only [Act.put, List.setIfInBounds_toArray, List.set_cons_zero, List.set_cons_succ]
  refine wpAnyH_take (i := 14) (oi := { dst := some 68, op := Op.slice 9 (Operand.tmp 66) none (some (Operand.tmp 67)) none, type := 9, pos := "more.go:116", after := #[{ on := 12, ground := Ground.data }, { on := 13, ground := Ground.data }, { on := 8, ground := Ground.guard }], guard := some (8, true) }) (v := .string sm) rfl (by kernel_rfl) (by kernel_rfl) (by kernel_rfl) (fun _ _ _ h => h) (Or.inl ⟨by rfl, ?_⟩) hHeld ?_
  · (intro W hSw; (try dsimp only at hSw); go_simp; try with_reducible rfl)
  try simp only [Act.put, List.setIfInBounds_toArray, List.set_cons_zero, List.set_cons_succ]
  refine wpAnyH_take (i := 15) (oi := { dst := some 69, op := Op.move (Operand.tmp 1), type := 31, pos := "more.go:116", after := #[{ on := 8, ground := Ground.guard }], guard := some (8, true) }) (v := ?_) rfl (by kernel_rfl) (by kernel_rfl) (by kernel_rfl) (fun _ _ _ h => h) (Or.inl ⟨by rfl, ?_⟩) hHeld ?_
  rotate_left
  · (intro W hSw; (try dsimp only at hSw); go_simp; try with_reducible rfl)
  try simp only [Act.put, List.setIfInBounds_toArray, List.set_cons_zero, List.set_cons_succ]
  refine wpAnyH_take (i := 16) (oi := { dst := some 70, op := Op.move (Operand.tmp 12), type := 3, pos := "more.go:116", after := #[{ on := 8, ground := Ground.guard }], guard := some (8, true) }) (v := ?_) rfl (by kernel_rfl) (by kernel_rfl) (by kernel_rfl) (fun _ _ _ h => h) (Or.inl ⟨by rfl, ?_⟩) hHeld ?_
  rotate_left
  · (intro W hSw; (try dsimp only at hSw); go_simp; try with_reducible rfl)
  try simp only [Act.put, List.setIfInBounds_toArray, List.set_cons_zero, List.set_cons_succ]
  refine wpAnyH_take (i := 17) (oi := { dst := some 71, op := Op.slice 31 (Operand.tmp 69) none (some (Operand.tmp 70)) none, type := 31, pos := "more.go:116", after := #[{ on := 15, ground := Ground.data }, { on := 16, ground := Ground.data }, { on := 8, ground := Ground.guard }], guard := some (8, true) }) (v := .slice B k cb) rfl (by kernel_rfl) (by kernel_rfl) (by kernel_rfl) (fun _ _ _ h => h) (Or.inl ⟨by rfl, ?_⟩) hHeld ?_
  · (intro W hSw; (try dsimp only at hSw); go_simp; try with_reducible rfl)
  try simp only [Act.put, List.setIfInBounds_toArray, List.set_cons_zero, List.set_cons_succ]
  refine wpAnyH_take (i := 18) (oi := { dst := some 72, op := Op.convert 31 9 (Operand.tmp 71), type := 9, pos := "more.go:116", after := #[{ on := 17, ground := Ground.data }, { on := 8, ground := Ground.guard }], guard := some (8, true) }) (v := .string sk) rfl (by kernel_rfl) (by kernel_rfl) (by kernel_rfl) (fun _ _ _ h => h) (Or.inl ⟨by rfl, ?_⟩) hHeld ?_
  · (intro W hSw; (try dsimp only at hSw); go_simp; try with_reducible rfl)
  try simp only [Act.put, List.setIfInBounds_toArray, List.set_cons_zero, List.set_cons_succ]
  refine wpAnyH_take (i := 19) (oi := { dst := some 73, op := Op.binOp BinOp.add 9 (Operand.tmp 68) (Operand.tmp 72) 9, type := 9, pos := "more.go:116", after := #[{ on := 14, ground := Ground.data }, { on := 18, ground := Ground.data }, { on := 8, ground := Ground.guard }], guard := some (8, true) }) (v := .string sx) rfl (by kernel_rfl) (by kernel_rfl) (by kernel_rfl) (fun _ _ _ h => h) (Or.inl ⟨by rfl, ?_⟩) hHeld ?_
  · (intro W hSw; (try dsimp only at hSw); go_simp; try with_reducible rfl)
  try simp only [Act.put, List.setIfInBounds_toArray, List.set_cons_zero, List.set_cons_succ]
  refine wpAnyH_ready (rs := [10]) (by kernel_rfl) (by simp) ?_
  refine AllReadyH.cons (o := { dst := some 64, op := Op.call { callee := Callee.value (Operand.func 25), args := #[Operand.tmp 63], argTypes := #[24] }, type := 31, pos := "more.go:116", after := #[{ on := 9, ground := Ground.data }, { on := 8, ground := Ground.chain }, { on := 8, ground := Ground.guard }], guard := some (8, true) }) rfl (fun K hK => ?_) AllReadyH.nil
  go_simp
  go_at_call 25
  refine LGD.out.mono ?_
  rintro _ w9 ⟨⟨A9, q9, rfl, cv9⟩, g9⟩
  dsimp only
  have b9 : Below w.heap.size w w9 := b8d.trans (bel g9 (fun _ h => by cases h) b8d.size)
  have hck9 := HCK.out _ b9
  refine hK.out _ _ hck9 (fun hHeld2 => ?_)
  clear hK K
  try simp only [Act.put, List.setIfInBounds_toArray, List.set_cons_zero, List.set_cons_succ]
  refine wpAnyH_ready (rs := [11]) (by kernel_rfl) (by simp) ?_
  refine AllReadyH.cons (o := { dst := some 65, op := Op.convert 31 9 (Operand.tmp 64), type := 9, pos := "more.go:116", after := #[{ on := 10, ground := Ground.data }, { on := 8, ground := Ground.guard }], guard := some (8, true) }) rfl (fun K hK => ?_) AllReadyH.nil
  go_simp
  refine hK.out _ _ hck9 (fun hHeld3 => ?_)
  clear hK K
  try simp only [Act.put, List.setIfInBounds_toArray, List.set_cons_zero, List.set_cons_succ]
  refine wpAnyH_take (i := 20) (oi := { dst := some 74, op := Op.binOp BinOp.eql 9 (Operand.tmp 65) (Operand.tmp 73) 9, type := 4, pos := "more.go:116", after := #[{ on := 11, ground := Ground.data }, { on := 19, ground := Ground.data }, { on := 8, ground := Ground.guard }], guard := some (8, true) }) (v := .bool true) rfl (by kernel_rfl) (by kernel_rfl) (by kernel_rfl) (fun _ _ _ h => h) (Or.inl ⟨by rfl, ?_⟩) hHeld3 ?_
  · (intro W hSw; (try dsimp only at hSw); go_simp; try with_reducible rfl)
  try simp only [Act.put, List.setIfInBounds_toArray, List.set_cons_zero, List.set_cons_succ]
  refine wpAnyH_take (i := 21) (oi := { dst := some 75, op := Op.pick (Operand.tmp 62) (Operand.tmp 74) (Operand.const (Value.bool false)), type := 4, pos := "more.go:116", after := #[{ on := 8, ground := Ground.data }, { on := 20, ground := Ground.data }], guard := none }) (v := ?_) rfl (by kernel_rfl) (by kernel_rfl) (by kernel_rfl) (fun _ _ _ h => h) (Or.inl ⟨by rfl, ?_⟩) hHeld3 ?_
  rotate_left
  · (intro W hSw; (try dsimp only at hSw); go_simp; try with_reducible rfl)
  try simp only [Act.put, List.setIfInBounds_toArray, List.set_cons_zero, List.set_cons_succ]
  refine wpAnyH_take (i := 22) (oi := { dst := some 8, op := Op.assign (Operand.tmp 75), type := 4, pos := "more.go:116", after := #[{ on := 21, ground := Ground.data }, { on := 10, ground := Ground.chain }, { on := 0, ground := Ground.phase }, { on := 1, ground := Ground.phase }, { on := 2, ground := Ground.phase }, { on := 3, ground := Ground.phase }, { on := 4, ground := Ground.phase }, { on := 5, ground := Ground.phase }, { on := 6, ground := Ground.phase }, { on := 7, ground := Ground.phase }, { on := 8, ground := Ground.phase }, { on := 9, ground := Ground.phase }, { on := 10, ground := Ground.phase }, { on := 11, ground := Ground.phase }, { on := 12, ground := Ground.phase }, { on := 13, ground := Ground.phase }, { on := 14, ground := Ground.phase }, { on := 15, ground := Ground.phase }, { on := 16, ground := Ground.phase }, { on := 17, ground := Ground.phase }, { on := 18, ground := Ground.phase }, { on := 19, ground := Ground.phase }, { on := 20, ground := Ground.phase }, { on := 21, ground := Ground.phase }], guard := none }) (v := ?_) rfl (by kernel_rfl) (by kernel_rfl) (by kernel_rfl) (fun _ _ _ h => h) (Or.inl ⟨by rfl, ?_⟩) hHeld3 ?_
  rotate_left
  · (intro W hSw; (try dsimp only at hSw); go_simp; try with_reducible rfl)
  try simp only [Act.put, List.setIfInBounds_toArray, List.set_cons_zero, List.set_cons_succ]
  refine wpAnyH_done (by kernel_rfl) ?_ _
  go_wp2_with fail
  go_ret
  exact ⟨rfl, b9⟩

theorem diskCuts_walk (A B : Option Addr) (ca cb : Nat) (a b : List Int) (n pick : Int) (w : World) (hA : Has w w.heap.size A (bs a)) (hB : Has w w.heap.size B (bs b)) (hcb : b.length ≤ cb) (hma : a.length ≤ 140737488355328) (hmb : b.length ≤ 140737488355328)
    (n1 : -9223372036854775808 ≤ n) (n2 : n ≤ 9223372036854775807) (f1 : -9223372036854775808 ≤ pick) (f2 : pick ≤ 9223372036854775807) :
    Calls Try.prog 8 #[.slice A a.length ca, .slice B b.length cb, .int .i64 n, .int .i64 pick] w fun e w' => e = .returned (.bool true) ∧ Below w.heap.size w w' := by
  by_cases ha : a.length + b.length ≤ 300
  · exact cuts_core A B ca cb a b n pick w hA hB hcb n1 n2 f1 f2 ha
  · have KN := fun W => Lib.hid (known_any W)
    clear hA hB
    have hwab : IntKind.i64.wrap ((a.length : Int) + (b.length : Int)) = (a.length : Int) + (b.length : Int) := by rw [IntKind.wrap_i64]; omega
    have t1 : (300 : Int) < (a.length : Int) + (b.length : Int) := by omega
    go_enter Try.func8, Try.ntmps8
    go_wp2_with fail
    refine (KN _).out.mono ?_
    rintro _ w1 ⟨rfl, b1⟩
    go_wp2_with fail
    go_ret
    exact ⟨rfl, b1⟩
end Go.Proofs.Ytmjfemnjkgfgfaa
