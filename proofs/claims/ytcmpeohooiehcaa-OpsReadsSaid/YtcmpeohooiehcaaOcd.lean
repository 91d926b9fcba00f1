/- Rows of dots as cells; ops.checkDots and checkKind of a remove; Check of one. No condition of the program's own. -/
import Derived.Test.YtcmpeohooiehcaaOdt
namespace Go.Proofs.Ytcmpeohooiehcaa
open Go.RowKit Go.Deep

def dc (l : List (Int × Int × Int)) : List Value := l.flatMap fun p => [.int .i64 p.1, .int .i64 p.2.1, .int .i64 p.2.2]
theorem dc_len (l : List (Int × Int × Int)) : (dc l).length = l.length * 3 := by
  induction l with
  | nil => rfl
  | cons p r ih => show (_ :: _ :: _ :: dc r).length = _; simp only [List.length_cons, ih]; omega
theorem dc_append (l m : List (Int × Int × Int)) : dc (l ++ m) = dc l ++ dc m := by simp [dc]
theorem dc_one (l : List (Int × Int × Int)) : ∀ u ∈ dc l, u.oneCell' = true := fun u hu => by
  obtain ⟨p, _, hp⟩ := List.mem_flatMap.1 hu
  simp at hp
  rcases hp with rfl | rfl | rfl <;> rfl
theorem Try.info_dot : (Try.prog.info? 23).map (fun i => (i.zero, i.size, i.bytes)) = some (some (.agg #[.int .i64 0, .int .i64 0, .int .i64 0]), 3, 24) := by kernel_rfl
theorem dc_at (l : List (Int × Int × Int)) : ∀ (i : Nat) (x : Int × Int × Int), l[i]? = some x → (dc l)[i * 3]? = some (.int .i64 x.1) ∧ (dc l)[i * 3 + 1]? = some (.int .i64 x.2.1) ∧ (dc l)[i * 3 + 2]? = some (.int .i64 x.2.2) := by
  induction l with
  | nil => intro i x h; simp at h
  | cons p r ih =>
    intro i x h
    have e : dc (p :: r) = .int .i64 p.1 :: .int .i64 p.2.1 :: .int .i64 p.2.2 :: dc r := rfl
    cases i with
    | zero => simp at h; subst h; exact ⟨rfl, rfl, rfl⟩
    | succ k =>
      have := ih k x (by simpa using h)
      rw [e, show (k + 1) * 3 = k * 3 + 1 + 1 + 1 by omega, show k * 3 + 1 + 1 + 1 + 2 = k * 3 + 2 + 1 + 1 + 1 by omega]
      simpa using this
/-- Where a row of dots stands. -/
theorem Has.dot {w : World} {lim : Nat} {A : Option Addr} {l : List (Int × Int × Int)} (h : Has w lim A (dc l)) {i : Nat} {x : Int × Int × Int} (hx : l[i]? = some x) :
    ∃ b off, A = some ⟨b, off, none⟩ ∧ b < lim ∧ w.cell? ⟨b, off + i * 3, none⟩ = some (.int .i64 x.1) ∧ w.cell? ⟨b, off + i * 3 + 1, none⟩ = some (.int .i64 x.2.1) ∧ w.cell? ⟨b, off + i * 3 + 2, none⟩ = some (.int .i64 x.2.2) := by
  have h2 := dc_at l i x hx
  rcases h with h0 | ⟨b, off, hA, hb, hc⟩
  · rw [h0] at h2; simp at h2
  · exact ⟨b, off, hA, hb, hc _ _ h2.1, by rw [Nat.add_assoc]; exact hc _ _ h2.2.1, by rw [Nat.add_assoc]; exact hc _ _ h2.2.2⟩

def rises (l : List (Int × Int × Int)) : Prop := ∀ k x y, l[k]? = some x → l[k + 1]? = some y → dless x y
theorem cds_many (A : Option Addr) (n c : Nat) (hn : 8 < n) (w : World) : Calls Try.prog 45 #[.slice A n c] w fun e w' => e = .returned (.int .i64 4) ∧ w.grownBy w' none := by
  have t : (8 : Int) < (n : Int) := by omega
  go_enter Try.func45, Try.ntmps45
  go_wp2_with fail
  go_ret
  exact ⟨rfl, only_refl _ _⟩
set_option maxRecDepth 100000 in
set_option maxHeartbeats 1000000 in
theorem cds_few (A : Option Addr) (c : Nat) (l : List (Int × Int × Int)) (r : Bool) (hr : r = true ↔ rises l) (w : World) (h : Has w w.heap.size A (dc l)) (hn : l.length ≤ 8) :
    Calls Try.prog 45 #[.slice A l.length c] w fun e w' => e = .returned (.int .i64 (if r then 0 else 10)) ∧ w.grownBy w' none := by
  have t : ¬ (8 : Int) < (l.length : Int) := by omega
  have HR := Lib.hid hr
  have HA := Lib.hid h
  clear hr h
  go_enter Try.func45, Try.ntmps45
  go_wp2_with fail
  go_loopw [3] (fun si wr => ∃ k : Nat, k ≤ l.length ∧ si = .int .i64 ((k : Int) + 1) ∧ Hid (∀ j x y, j < k → l[j]? = some x → l[j + 1]? = some y → dless x y) ∧ Hid (w.grownBy wr none)) (fun si _ => l.length + 1 - (intOf si).toNat)
  case atStart => exact ⟨0, Nat.zero_le _, rfl, fun j _ _ h => absurd h (by omega), only_refl _ _⟩
  case round =>
    obtain ⟨k, hk, rfl, HJ, hG⟩ := hrel
    by_cases hlt : k + 1 < l.length
    · have u1 : (k : Int) + 1 < (l.length : Int) := by omega
      have u0 : (0 : Int) ≤ (k : Int) + 1 := by omega
      have u2 : (0 : Int) ≤ (k : Int) := by omega
      have u3 : (k : Int) < (l.length : Int) := by omega
      have hes : IntKind.i64.wrap ((k : Int) + 1 + 1) = (k : Int) + 1 + 1 := by rw [IntKind.wrap_i64]; omega
      have hed : IntKind.i64.wrap ((k : Int) + 1 - 1) = (k : Int) := by rw [IntKind.wrap_i64]; omega
      have hed2 : IntKind.i64.wrap (k : Int) = (k : Int) := by rw [IntKind.wrap_i64]; omega
      have htn : ((k : Int) + 1).toNat = k + 1 := by omega
      obtain ⟨x, hx⟩ : ∃ x, l[k]? = some x := ⟨_, List.getElem?_eq_getElem (by omega)⟩
      obtain ⟨y, hy⟩ : ∃ y, l[k + 1]? = some y := ⟨_, List.getElem?_eq_getElem hlt⟩
      obtain ⟨b, off, rfl, hb, x1, x2, x3⟩ := HA.out.dot hx
      obtain ⟨b', off', e', _, y1, y2, y3⟩ := HA.out.dot hy
      simp only [Option.some.injEq, Addr.mk.injEq, and_true] at e'
      obtain ⟨rfl, rfl⟩ := e'
      have SV : ∀ V, w.grownBy V none → Hid (V.cell? ⟨b, off + k * 3, none⟩ = some (.int .i64 x.1) ∧ V.cell? ⟨b, off + k * 3 + 1, none⟩ = some (.int .i64 x.2.1) ∧ V.cell? ⟨b, off + k * 3 + 2, none⟩ = some (.int .i64 x.2.2) ∧
          V.cell? ⟨b, off + (k + 1) * 3, none⟩ = some (.int .i64 y.1) ∧ V.cell? ⟨b, off + (k + 1) * 3 + 1, none⟩ = some (.int .i64 y.2.1) ∧ V.cell? ⟨b, off + (k + 1) * 3 + 2, none⟩ = some (.int .i64 y.2.2) ∧ w.grownBy V none) := fun V hV => by
        have o : ∀ j, V.cell? ⟨b, j, none⟩ = w.cell? ⟨b, j, none⟩ := fun j => World.cell?_of_block (hV.block b hb (by simp))
        exact ⟨(o _).trans x1, (o _).trans x2, (o _).trans x3, (o _).trans y1, (o _).trans y2, (o _).trans y3, hV⟩
      have HX := Lib.hid hx
      have HY := Lib.hid hy
      have d0 := only_drew hG.out
      clear hx hy x1 x2 x3 y1 y2 y3
      by_cases hl : dless x y
      · have t3 : ¬ 0 ≤ ordP x y := fun e => (ord_less x y).1 e hl
        go_wp2_with fail
        go_region_held3 (fun V => V.cell? ⟨b, off + k * 3, none⟩ = some (.int .i64 x.1) ∧ V.cell? ⟨b, off + k * 3 + 1, none⟩ = some (.int .i64 x.2.1) ∧ V.cell? ⟨b, off + k * 3 + 2, none⟩ = some (.int .i64 x.2.2) ∧
          V.cell? ⟨b, off + (k + 1) * 3, none⟩ = some (.int .i64 y.1) ∧ V.cell? ⟨b, off + (k + 1) * 3 + 1, none⟩ = some (.int .i64 y.2.1) ∧ V.cell? ⟨b, off + (k + 1) * 3 + 2, none⟩ = some (.int .i64 y.2.2) ∧ w.grownBy V none)
          (first | exact (SV _ (by assumption)).out) ((first
          | (go_at_call 60; refine (dord_any x y _).mono ?_; rintro e wa ⟨rfl, ga⟩; have da : w.grownBy wa none := only_step d0 ga (fun _ h => by cases h))))
        go_wp2_with fail
        refine ⟨⟨k + 1, by omega, by go_num, fun j x' y' hj hx' hy' => ?_, da⟩, ?_⟩
        · rcases Nat.lt_or_ge j k with h5 | h5
          · exact HJ.out j x' y' h5 hx' hy'
          · obtain rfl : j = k := by omega
            rw [HX.out] at hx'
            rw [HY.out] at hy'
            cases hx'; cases hy'
            exact hl
        · simp [intOf]; omega
      · have t3 : 0 ≤ ordP x y := (ord_less x y).2 hl
        obtain rfl : r = false := by
          cases r
          · rfl
          · exact absurd (HR.out.1 rfl k x y HX.out HY.out) hl
        go_wp2_with fail
        go_region_held3 (fun V => V.cell? ⟨b, off + k * 3, none⟩ = some (.int .i64 x.1) ∧ V.cell? ⟨b, off + k * 3 + 1, none⟩ = some (.int .i64 x.2.1) ∧ V.cell? ⟨b, off + k * 3 + 2, none⟩ = some (.int .i64 x.2.2) ∧
          V.cell? ⟨b, off + (k + 1) * 3, none⟩ = some (.int .i64 y.1) ∧ V.cell? ⟨b, off + (k + 1) * 3 + 1, none⟩ = some (.int .i64 y.2.1) ∧ V.cell? ⟨b, off + (k + 1) * 3 + 2, none⟩ = some (.int .i64 y.2.2) ∧ w.grownBy V none)
          (first | exact (SV _ (by assumption)).out) ((first
          | (go_at_call 60; refine (dord_any x y _).mono ?_; rintro e wa ⟨rfl, ga⟩; have da : w.grownBy wa none := only_step d0 ga (fun _ h => by cases h))))
        go_wp2_with fail
        go_ret
        exact ⟨rfl, da⟩
    · have u1 : ¬ (k : Int) + 1 < (l.length : Int) := by omega
      obtain rfl : r = true := HR.out.2 fun j x y hx hy => HJ.out j x y (by
        have := (List.getElem?_eq_some_iff.1 hy).1; omega) hx hy
      go_wp2_with fail
      go_ret
      exact ⟨rfl, hG.out⟩

def dotsP (l : List (Int × Int × Int)) (r : Bool) : Int := if 8 < l.length then 4 else if r then 0 else 10
theorem cds_any (A : Option Addr) (c : Nat) (l : List (Int × Int × Int)) (r : Bool) (hr : r = true ↔ rises l) (w : World) (h : Has w w.heap.size A (dc l)) :
    Calls Try.prog 45 #[.slice A l.length c] w fun e w' => e = .returned (.int .i64 (dotsP l r)) ∧ w.grownBy w' none := by
  unfold dotsP
  by_cases hn : 8 < l.length
  · rw [if_pos hn]; exact cds_many A l.length c hn w
  · rw [if_neg hn]; exact cds_few A c l r hr w h (by omega)
set_option maxRecDepth 100000 in
theorem knd3_any (d e s coll ver n time : Int) (key text : ByteArray) (A : Option Addr) (c : Nat) (l : List (Int × Int × Int)) (r : Bool) (hr : r = true ↔ rises l) (h0 : key.size ≠ 0) (w : World) (h : Has w w.heap.size A (dc l)) :
    Calls Try.prog 28 #[.agg #[.int .i64 d, .int .i64 e, .int .i64 s, .int .i64 coll, .int .i64 ver, .int .i64 3, .string key, .string text, .int .i64 n, .int .i64 time, .slice A l.length c]] w fun e' w' => e' = .returned (.int .i64 (dotsP l r)) ∧ w.grownBy w' none := by
  have hk : (key.toList == ([] : List UInt8)) = false := str_some key h0
  have HC : ∀ o, Hid (Calls Try.prog 45 #[.slice A l.length c] (w.alloc o) fun e w' => e = .returned (.int .i64 (dotsP l r)) ∧ (w.alloc o).grownBy w' none) := fun o =>
    cds_any A c l r hr _ ((h.only (World.grownBy_alloc w o none) (Nat.le_refl _) (fun _ h => by cases h)).more (World.grownBy_alloc w o none).size)
  clear h0 h hr
  go_enter Try.func28, Try.ntmps28
  go_wp2_with fail
  refine (HC _).out.mono ?_
  rintro _ w1 ⟨rfl, g1⟩
  have hb := g1.block w.heap.size (by show _ < (w.heap.push _).size; rw [Array.size_push]; omega) (by simp)
  rw [heap_alloc_new] at hb
  have hk6 : w1.cell? ⟨w.heap.size, 6, none⟩ = some (.string key) := by unfold World.cell?; rw [hb]; rfl
  clear hb
  go_wp2_with fail
  go_ret
  exact ⟨rfl, only_step (World.grownBy_alloc w _ none) g1 (fun _ h => by cases h)⟩

/- As chk_on, but checkKind's contract is asked for at the one world where it is called. -/
set_option maxRecDepth 100000 in
theorem chk_at (d e s coll ver kind n time : Int) (key text : ByteArray) (A : Option Addr) (len c : Nat) (w : World) (h0 : 0 ≤ d ∧ d ≤ 5) (h1 : 1 ≤ e ∧ e ≤ 1073741824) (h2 : 1 ≤ s ∧ s ≤ 1073741824) (h3 : 0 ≤ coll ∧ coll ≤ 2) (h4 : 1 ≤ ver ∧ ver ≤ 3) (h5 : 0 ≤ time ∧ time ≤ 1099511627776) (h6 : 1 ≤ kind ∧ kind ≤ 5) (h7 : textOk key) (h8 : textOk text) (r : Int) (HK : Calls Try.prog 28 #[.agg #[.int .i64 d, .int .i64 e, .int .i64 s, .int .i64 coll, .int .i64 ver, .int .i64 kind, .string key, .string text, .int .i64 n, .int .i64 time, .slice A len c]] (w.alloc (.cells #[.int .i64 d, .int .i64 e, .int .i64 s, .int .i64 coll, .int .i64 ver, .int .i64 kind, .string key, .string text, .int .i64 n, .int .i64 time, .slice A len c] 26)) fun e' w' => e' = .returned (.int .i64 r) ∧ w.grownBy w' none) :
    Calls Try.prog 13 #[.agg #[.int .i64 d, .int .i64 e, .int .i64 s, .int .i64 coll, .int .i64 ver, .int .i64 kind, .string key, .string text, .int .i64 n, .int .i64 time, .slice A len c]] w fun e' w' => e' = .returned (.int .i64 r) ∧ w.grownBy w' none := by
  have HK' := Lib.hid HK
  clear HK
  have H0 := Lib.hid h0
  have H1 := Lib.hid h1
  have H2 := Lib.hid h2
  have H3 := Lib.hid h3
  have H4 := Lib.hid h4
  have H5 := Lib.hid h5
  have H6 := Lib.hid h6
  have H7 := Lib.hid h7
  have H8 := Lib.hid h8
  clear h0 h1 h2 h3 h4 h5 h6 h7 h8
  go_enter Try.func13, Try.ntmps13
  go_wp2_with fail
  refine (dev_is d true (iff_yes H0.out) _).mono ?_
  rintro _ w0 ⟨rfl, rfl⟩
  go_wp2_with fail
  refine (wn_is e 1 1073741824 true (iff_yes H1.out) _).mono ?_
  rintro _ w1 ⟨rfl, rfl⟩
  go_wp2_with fail
  refine (wn_is s 1 1073741824 true (iff_yes H2.out) _).mono ?_
  rintro _ w2 ⟨rfl, rfl⟩
  go_wp2_with fail
  refine (col_is coll true (iff_yes H3.out) _).mono ?_
  rintro _ w3 ⟨rfl, rfl⟩
  go_wp2_with fail
  refine (ver_is ver true (iff_yes H4.out) _).mono ?_
  rintro _ w4 ⟨rfl, rfl⟩
  go_wp2_with fail
  refine (wn_is time 0 1099511627776 true (iff_yes H5.out) _).mono ?_
  rintro _ w5 ⟨rfl, rfl⟩
  go_wp2_with fail
  refine (wn_is kind 1 5 true (iff_yes H6.out) _).mono ?_
  rintro _ w6 ⟨rfl, rfl⟩
  go_wp2_with fail
  refine (text_is key true (iff_yes H7.out) _).mono ?_
  rintro _ w7 ⟨rfl, rfl⟩
  go_wp2_with fail
  refine (text_is text true (iff_yes H8.out) _).mono ?_
  rintro _ w8 ⟨rfl, rfl⟩
  go_wp2_with fail
  refine HK'.out.mono ?_
  rintro _ w10 ⟨rfl, g10⟩
  go_wp2_with fail
  go_ret
  exact ⟨rfl, g10⟩


theorem tok_k' : textOk { data := #[107] } := ⟨by decide, fun i h => by
  have : i = 0 := by simp [ByteArray.size] at h; omega
  subst this; exact (by decide : 32 ≤ (107 : UInt8).toNat ∧ (107 : UInt8).toNat ≠ 127)⟩
theorem tok_0' : textOk { data := #[] } := ⟨by decide, fun i h => by simp [ByteArray.size] at h⟩
/-- Check of the law's remove. -/
theorem check_rem (A : Option Addr) (c : Nat) (l : List (Int × Int × Int)) (r : Bool) (hr : r = true ↔ rises l) (w : World) (h : Has w w.heap.size A (dc l)) :
    Calls Try.prog 13 #[.agg #[.int .i64 0, .int .i64 1, .int .i64 1, .int .i64 0, .int .i64 1, .int .i64 3, .string { data := #[107] }, .string { data := #[] }, .int .i64 0, .int .i64 0, .slice A l.length c]] w fun e' w' => e' = .returned (.int .i64 (dotsP l r)) ∧ w.grownBy w' none :=
  chk_at 0 1 1 0 1 3 0 0 _ _ A l.length c w (by decide) (by decide) (by decide) (by decide) (by decide) (by decide) (by decide) tok_k' tok_0' _
    ((knd3_any 0 1 1 0 1 0 0 _ _ A c l r hr (by decide) _ ((h.only (World.grownBy_alloc w _ none) (Nat.le_refl _) (fun _ h => by cases h)).more (World.grownBy_alloc w _ none).size)).mono fun _ _ ⟨he, hg⟩ => ⟨he, only_step (World.grownBy_alloc w _ none) hg (fun _ h => by cases h)⟩)
end Go.Proofs.Ytcmpeohooiehcaa
