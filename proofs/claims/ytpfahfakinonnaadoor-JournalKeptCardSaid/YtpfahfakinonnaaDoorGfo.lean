/- The reference's get and One. No condition of the program's own. -/
import Derived.Test.YtpfahfakinonnaaDoorGfc
import Derived.Deep.QuietTactic
namespace Go.Proofs.YtpfahfakinonnaaDoor
open Go.RowKit Go.ChangeShapes

theorem Grew.all {a w w' : World} {base e : Nat} {v v' : Value} {l : List Value} {xs : List Value} (h : Grew w w' base e v v' xs) (ho : w.ownsRow base e 1 v l.length l) (hg : a.grownBy w Option.none) (hb : a.heap.size ≤ base) : a.grownBy w' Option.none :=
  only_step hg h.only (fun k hk => .inr (by
    rcases own_at ho with h | ⟨q, h, hq⟩
    · rw [h] at hk; cases hk
    · rw [h] at hk; cases hk; omega))
theorem or_add (a b k : Nat) (hb : b < 2 ^ k) (h : a * 2 ^ k + b < 4294967296) : bits .or .u32 ((a * 2 ^ k : Nat) : Int) (b : Int) = ((a * 2 ^ k + b : Nat) : Int) := by
  rw [u32_or_nat _ _ (by omega) (by omega)]
  have := Nat.two_pow_add_eq_or_of_lt (i := k) hb a
  rw [Nat.mul_comm] at this
  rw [← this]
set_option maxRecDepth 100000 in
theorem get_any (A : Option Addr) (n c : Nat) (l : List Int) (hn : n = l.length) (w : World) (h : Has w w.heap.size A (bs l)) (hb : ∀ x ∈ l, 0 ≤ x ∧ x ≤ 255) (h4 : 4 ≤ l.length) :
    Calls Tryd.prog 49 #[.slice A n c] w fun e w' => e = .returned (.int .u32 (rd4 l)) ∧ w.grownBy w' none := by
  obtain ⟨b0, b1, b2, b3, r, rfl⟩ : ∃ a b c d r, l = a :: b :: c :: d :: r := by
    match l, h4 with
    | a :: b :: c :: d :: r, _ => exact ⟨a, b, c, d, r, rfl⟩
  have k0 := hb b0 (by simp)
  have k1 := hb b1 (by simp)
  have k2 := hb b2 (by simp)
  have k3 := hb b3 (by simp)
  obtain ⟨b0, rfl⟩ : ∃ m : Nat, b0 = m := ⟨b0.toNat, by omega⟩
  obtain ⟨b1, rfl⟩ : ∃ m : Nat, b1 = m := ⟨b1.toNat, by omega⟩
  obtain ⟨b2, rfl⟩ : ∃ m : Nat, b2 = m := ⟨b2.toNat, by omega⟩
  obtain ⟨b3, rfl⟩ : ∃ m : Nat, b3 = m := ⟨b3.toNat, by omega⟩
  obtain ⟨b, off, rfl, hbb, hc⟩ : ∃ b off, A = some ⟨b, off, none⟩ ∧ b < w.heap.size ∧ ∀ j u, (bs ((b0 : Int) :: b1 :: b2 :: b3 :: r))[j]? = some u → w.cell? ⟨b, off + j, none⟩ = some u := by
    rcases h with h0 | ⟨b, off, hA, hb, hc⟩
    · simp [bs] at h0
    · exact ⟨b, off, hA, hb, hc⟩
  have c0 : ∀ q, (w.drewN q).cell? ⟨b, off, none⟩ = some (.int .u8 b0) := fun _ => hc 0 _ rfl
  have c1 : ∀ q, (w.drewN q).cell? ⟨b, off + 1, none⟩ = some (.int .u8 b1) := fun _ => hc 1 _ rfl
  have c2 : ∀ q, (w.drewN q).cell? ⟨b, off + 2, none⟩ = some (.int .u8 b2) := fun _ => hc 2 _ rfl
  have c3 : ∀ q, (w.drewN q).cell? ⟨b, off + 3, none⟩ = some (.int .u8 b3) := fun _ => hc 3 _ rfl
  have n0 : (0 : Int) < (n : Int) := by rw [hn]; simp; omega
  have n1 : (1 : Int) < (n : Int) := by rw [hn]; simp; omega
  have n2 : (2 : Int) < (n : Int) := by rw [hn]; simp; omega
  have n3 : (3 : Int) < (n : Int) := by rw [hn]; simp; omega
  have v0 : IntKind.u32.wrap (b0 : Int) = (b0 : Int) := by have := IntKind.wrap_u32 (b0 : Int); rw [this]; omega
  have v1 : IntKind.u32.wrap (b1 : Int) = (b1 : Int) := by have := IntKind.wrap_u32 (b1 : Int); rw [this]; omega
  have v2 : IntKind.u32.wrap (b2 : Int) = (b2 : Int) := by have := IntKind.wrap_u32 (b2 : Int); rw [this]; omega
  have v3 : IntKind.u32.wrap (b3 : Int) = (b3 : Int) := by have := IntKind.wrap_u32 (b3 : Int); rw [this]; omega
  have s0 : IntKind.u32.wrap ((b0 : Int) * 16777216) = (b0 : Int) * 16777216 := by have := IntKind.wrap_u32 ((b0 : Int) * 16777216); rw [this]; omega
  have s1 : IntKind.u32.wrap ((b1 : Int) * 65536) = (b1 : Int) * 65536 := by have := IntKind.wrap_u32 ((b1 : Int) * 65536); rw [this]; omega
  have s2 : IntKind.u32.wrap ((b2 : Int) * 256) = (b2 : Int) * 256 := by have := IntKind.wrap_u32 ((b2 : Int) * 256); rw [this]; omega
  obtain ⟨x1, hx1⟩ : ∃ x, x = b0 * 16777216 + b1 * 65536 := ⟨_, rfl⟩
  obtain ⟨x2, hx2⟩ : ∃ x, x = x1 + b2 * 256 := ⟨_, rfl⟩
  obtain ⟨x3, hx3⟩ : ∃ x, x = x2 + b3 := ⟨_, rfl⟩
  have o1 : bits .or .u32 ((b0 : Int) * 16777216) ((b1 : Int) * 65536) = (x1 : Int) := by
    have := or_add b0 (b1 * 65536) 24 (by omega) (by omega)
    rw [show ((b0 * 2 ^ 24 : Nat) : Int) = (b0 : Int) * 16777216 by omega, show ((b1 * 65536 : Nat) : Int) = (b1 : Int) * 65536 by omega] at this
    rw [this, hx1]
  have o2 : bits .or .u32 (x1 : Int) ((b2 : Int) * 256) = (x2 : Int) := by
    have := or_add (b0 * 256 + b1) (b2 * 256) 16 (by omega) (by omega)
    rw [show ((b0 * 256 + b1) * 2 ^ 16 : Nat) = x1 by omega, show ((b2 * 256 : Nat) : Int) = (b2 : Int) * 256 by omega] at this
    rw [this, hx2]
  have o3 : bits .or .u32 (x2 : Int) (b3 : Int) = (x3 : Int) := by
    have := or_add ((b0 * 256 + b1) * 256 + b2) b3 8 (by omega) (by omega)
    rw [show (((b0 * 256 + b1) * 256 + b2) * 2 ^ 8 : Nat) = x2 by omega] at this
    rw [this, hx3]
  have hR : ((rd4 ((b0 : Int) :: b1 :: b2 :: b3 :: r) : Nat) : Int) = (x3 : Int) := by
    simp only [rd4, List.getD_cons_zero, List.getD_cons_succ, Int.toNat_natCast]; omega
  rw [hR]
  clear hR h hb hc hn h4 hx1 hx2 hx3
  go_enter Tryd.func49, Tryd.ntmps49
  go_wp2_with fail
  go_quiet (fail)
  go_wp2_with fail
  go_ret
  exact ⟨rfl, only_drewN (only_refl _ _) _⟩
set_option maxRecDepth 100000 in
set_option maxHeartbeats 2000000 in
theorem rone_any (A : Option Addr) (c : Nat) (l : List Int) (w : World) (h : Has w w.heap.size A (bs l)) (hb : ∀ x ∈ l, 0 ≤ x ∧ x ≤ 255) (hl : l.length ≤ 1099511627776) (hc : l.length ≤ c) :
    Calls Tryd.prog 30 #[.slice A l.length c] w fun e w' => ∃ v, e = .returned (.tuple #[v, .int .i64 (oneE l)]) ∧ OneV w w' l v ∧ w.grownBy w' none := by
  by_cases h8 : l.length < 8
  · have t0 : (l.length : Int) < 8 := by omega
    have eE : firstE l = 8 := by unfold firstE; rw [if_pos h8]
    have eO : oneE l = 8 := by unfold oneE; rw [eE, if_pos (.inl rfl)]
    rw [eO]
    have EE := Lib.hid eO
    clear h hb eE eO
    go_enter Tryd.func30, Tryd.ntmps30
    go_wp2_with fail
    go_ret2
    exact ⟨_, rfl, OneV.bad (by rw [EE.out]; decide), only_refl _ _⟩
  · have t0 : ¬ (l.length : Int) < 8 := by omega
    obtain ⟨b, off, rfl⟩ : ∃ b off, A = some ⟨b, off, none⟩ := by
      rcases h with h | ⟨b, off, hA, _⟩
      · have := congrArg List.length h; rw [bs_len, List.length_nil] at this; omega
      · exact ⟨b, off, hA⟩
    have W1 := Lib.hid (get_any (some ⟨b, off, none⟩) l.length c l rfl w h hb (by omega))
    have hr := rd4_lt l hb
    obtain ⟨n, hn⟩ : ∃ n, n = rd4 l := ⟨_, rfl⟩
    rw [← hn] at W1 hr
    have v1 : IntKind.i64.wrap (n : Int) = (n : Int) := by rw [IntKind.wrap_i64]; omega
    have v3 : IntKind.i64.wrap (8 + (n : Int)) = 8 + (n : Int) := by rw [IntKind.wrap_i64]; omega
    by_cases hg : 4194304 < n
    · have t1 : (4194304 : Int) < (n : Int) := by omega
      have eE : firstE l = 5 := by unfold firstE; rw [if_neg h8, if_pos (by omega)]
      have eO : oneE l = 5 := by unfold oneE; rw [eE, if_pos (.inr rfl)]
      rw [eO]
      have EE := Lib.hid eO
      clear h hb eE eO hn
      go_enter Tryd.func30, Tryd.ntmps30
      go_wp2_with fail
      refine W1.out.mono ?_
      rintro _ w1 ⟨rfl, g1⟩
      go_wp2_with fail
      go_ret2
      exact ⟨_, rfl, OneV.bad (by rw [EE.out]; decide), g1⟩
    · have t1 : ¬ (4194304 : Int) < (n : Int) := by omega
      by_cases hs : l.length < 8 + n
      · have t2 : (l.length : Int) < 8 + (n : Int) := by omega
        have eE : firstE l = 8 := by unfold firstE; rw [if_neg h8, if_neg (by omega), if_pos (by omega)]
        have eO : oneE l = 8 := by unfold oneE; rw [eE, if_pos (.inl rfl)]
        rw [eO]
        have EE := Lib.hid eO
        clear h hb eE eO hn
        go_enter Tryd.func30, Tryd.ntmps30
        go_wp2_with fail
        refine W1.out.mono ?_
        rintro _ w1 ⟨rfl, g1⟩
        go_wp2_with fail
        go_ret2
        exact ⟨_, rfl, OneV.bad (by rw [EE.out]; decide), g1⟩
      · have t2 : ¬ (l.length : Int) < 8 + (n : Int) := by omega
        have e85 : firstE l ≠ 8 ∧ firstE l ≠ 5 := by
          unfold firstE; rw [if_neg h8, if_neg (by omega), if_neg (by omega)]
          split <;> decide
        by_cases hm : 8 + n < l.length
        · have t3 : 8 + (n : Int) < (l.length : Int) := by omega
          have eO : oneE l = 9 := by unfold oneE; rw [if_neg (by rintro (h | h); exact e85.1 h; exact e85.2 h), if_pos (by omega)]
          rw [eO]
          have EE := Lib.hid eO
          clear h hb eO hn e85
          go_enter Tryd.func30, Tryd.ntmps30
          go_wp2_with fail
          refine W1.out.mono ?_
          rintro _ w1 ⟨rfl, g1⟩
          go_wp2_with fail
          go_ret2
          exact ⟨_, rfl, OneV.bad (by rw [EE.out]; decide), g1⟩
        · have t3 : ¬ 8 + (n : Int) < (l.length : Int) := by omega
          have hln : l.length = 8 + n := by omega
          have hrec : recP l = l.drop 8 := by unfold recP; rw [← hn]; exact List.take_of_length_le (by rw [List.length_drop]; omega)
          have EF : oneE l = if crcP (recP l) = rd4 (l.drop 4) then 0 else 10 := by
            unfold oneE; rw [if_neg (by rintro (h | h); exact e85.1 h; exact e85.2 h), if_neg (by omega)]
            unfold firstE; rw [if_neg h8, if_neg (by omega), if_neg (by omega)]
          have HR : ∀ A' V, (A' = some ⟨b, off + 8, none⟩ ∨ l.length = 8) → w.grownBy V none → Has V V.heap.size A' (bs (recP l)) := fun A' V hA' hV => by
            rw [hrec]
            rcases hA' with rfl | h0
            · have := h.drop' (n := 8) (by omega)
              exact (this.only hV (Nat.le_refl _) (fun _ h => by cases h)).more hV.size
            · exact .inl (by rw [List.drop_of_length_le (by omega)]; rfl)
          have RLn : (recP l).length = l.length - 8 := by rw [hrec, List.length_drop]
          have RB : ∀ x ∈ recP l, 0 ≤ x ∧ x ≤ 255 := fun x hx => by rw [hrec] at hx; exact hb x (List.mem_of_mem_drop hx)
          have C1 : ∀ A' c' V, (A' = some ⟨b, off + 8, none⟩ ∨ l.length = 8) → w.grownBy V none → Hid (Calls Tryd.prog 50 #[.slice A' (l.length - 8) c'] V fun e w' => e = .returned (.int .u32 (crcP (recP l))) ∧ V = w') := fun A' c' V hA' hV => by
            have := rcrc_any A' c' (recP l) V (HR A' V hA' hV) RB (by rw [RLn]; unfold maxLen; omega)
            rw [RLn] at this
            exact this
          have W2 : ∀ V, w.grownBy V none → Hid (Calls Tryd.prog 49 #[.slice (some ⟨b, off + 4, none⟩) (l.length - 4) (c - 4)] V fun e w' => e = .returned (.int .u32 (rd4 (l.drop 4))) ∧ V.grownBy w' none) := fun V hV =>
            get_any (some ⟨b, off + 4, none⟩) (l.length - 4) (c - 4) (l.drop 4) (by rw [List.length_drop]) V (((h.drop' (n := 4) (by omega)).only hV (Nat.le_refl _) (fun _ h => by cases h)).more hV.size) (fun x hx => hb x (List.mem_of_mem_drop hx)) (by rw [List.length_drop]; omega)
          have HR' := Lib.hid HR
          have RLn' := Lib.hid RLn
          obtain ⟨q, hq⟩ : ∃ q, q = crcP (recP l) := ⟨_, rfl⟩
          obtain ⟨r, hr2⟩ : ∃ r, r = rd4 (l.drop 4) := ⟨_, rfl⟩
          rw [← hq] at C1 EF
          rw [← hr2] at W2 EF
          have s4 : (4 : Int) ≤ (l.length : Int) := by omega
          have s8 : (8 : Int) ≤ (l.length : Int) := by omega
          have s6 : ¬ c = 4 := by omega
          have hcc := Lib.hid hc
          have hl8 := Lib.hid (show c = 8 → l.length = 8 by omega)
          have E8 := Lib.hid e85
          have LB := Lib.hid hl
          clear h hb hq hr2 hrec RB RLn HR hln t0 hc
          by_cases hqr : q = r
          · rw [if_pos hqr] at EF
            have tq : ((q : Int) != (r : Int)) = false := by simp [hqr]
            rw [EF]
            have EO := Lib.hid EF
            clear EF hqr
            by_cases hc8 : c = 8
            · have C1' := fun V hV => C1 (some ⟨b, off, none⟩) (c - 8) V (.inr (hl8.out hc8)) hV
              have HRR := Lib.hid (fun V hV => HR'.out (some ⟨b, off, none⟩) V (.inr (hl8.out hc8)) hV)
              clear C1 HR' hl8
              subst hc8
              go_enter Tryd.func30, Tryd.ntmps30
              go_wp2_with fail
              refine W1.out.mono ?_
              rintro _ w1 ⟨rfl, g1⟩
              have d1 : w.grownBy w1.drew none := only_drew g1
              go_wp2_with fail
              go_region_held3 (fun _ => True) (first | trivial) ((first
                | (go_at_call 50; refine (C1' _ d1).out.mono ?_; rintro e wa ⟨rfl, rfl⟩)
                | (go_at_call 49; refine (W2 _ d1).out.mono ?_; rintro e wb ⟨rfl, gb⟩; have db : w.grownBy wb none := only_step d1 gb (fun _ h => by cases h))))
              have sM : Hid (Src Tryd.prog 1 33 (.slice (some ⟨b, off, none⟩) (l.length - 8) (8 - 8)) (bs (recP l)).length (bs (recP l)) (wb.alloc (.cells #[] 5))) := by
                have h := (HRR.out _ (only_alloc db (.cells #[] 5))).src (P := Tryd.prog) (tx := 33) Tryd.underlying33 (8 - 8) (bs_one _)
                rw [bs_len, RLn'.out] at h
                rw [bs_len, RLn'.out]
                exact h
              have len1 : ([] : List Value).length + (bs (recP l)).length ≤ 70368744177664 := by rw [bs_len, RLn'.out]; show 0 + (l.length - 8) ≤ _; have := LB.out; omega
              have lit : (wb.alloc (.cells #[] 5)).ownsRow wb.heap.size 5 1 (.slice (some ⟨wb.heap.size, 0, none⟩) 0 0) ([] : List Value).length [] :=
                ⟨rfl, .inr ⟨wb.heap.size, 0, #[], rfl, Nat.le_refl _, heap_alloc_new wb _, Nat.le_refl _, Nat.zero_le _, rfl, rfl⟩⟩
              go_wp2_with (at_builtin; go_loud (refine app_bytes rfl _ _ 33 rfl wb.heap.size (.slice (some ⟨wb.heap.size, 0, none⟩) 0 0) [] rfl lit (.slice (some ⟨b, off, none⟩) (l.length - 8) (8 - 8)) (bs (recP l)) rfl sM.out len1 (World.grownBy_alloc wb _ none).size ?_); intro v4 w4' g4)
              rw [List.nil_append] at g4
              go_ret2
              refine ⟨_, rfl, ?_, g4.all lit (only_alloc db _) db.size⟩
              unfold OneV
              rw [if_pos EO.out]
              rcases g4.own with ⟨h1, h2⟩
              exact ⟨h1, h2.imp id fun ⟨g, cap, cur, hv, hg, h3⟩ => ⟨g, cap, cur, hv, Nat.le_trans db.size hg, h3⟩⟩
            · have C1' := fun V hV => C1 (some ⟨b, off + 8, none⟩) (c - 8) V (.inl rfl) hV
              have HRR := Lib.hid (fun V hV => HR'.out (some ⟨b, off + 8, none⟩) V (.inl rfl) hV)
              clear C1 HR' hl8
              go_enter Tryd.func30, Tryd.ntmps30
              go_wp2_with fail
              refine W1.out.mono ?_
              rintro _ w1 ⟨rfl, g1⟩
              have d1 : w.grownBy w1.drew none := only_drew g1
              go_wp2_with fail
              go_region_held3 (fun _ => True) (first | trivial) ((first
                | (go_at_call 50; refine (C1' _ d1).out.mono ?_; rintro e wa ⟨rfl, rfl⟩)
                | (go_at_call 49; refine (W2 _ d1).out.mono ?_; rintro e wb ⟨rfl, gb⟩; have db : w.grownBy wb none := only_step d1 gb (fun _ h => by cases h))))
              have sM : Hid (Src Tryd.prog 1 33 (.slice (some ⟨b, off + 8, none⟩) (l.length - 8) (c - 8)) (bs (recP l)).length (bs (recP l)) (wb.alloc (.cells #[] 5))) := by
                have h := (HRR.out _ (only_alloc db (.cells #[] 5))).src (P := Tryd.prog) (tx := 33) Tryd.underlying33 (c - 8) (bs_one _)
                rw [bs_len, RLn'.out] at h
                rw [bs_len, RLn'.out]
                exact h
              have len1 : ([] : List Value).length + (bs (recP l)).length ≤ 70368744177664 := by rw [bs_len, RLn'.out]; show 0 + (l.length - 8) ≤ _; have := LB.out; omega
              have lit : (wb.alloc (.cells #[] 5)).ownsRow wb.heap.size 5 1 (.slice (some ⟨wb.heap.size, 0, none⟩) 0 0) ([] : List Value).length [] :=
                ⟨rfl, .inr ⟨wb.heap.size, 0, #[], rfl, Nat.le_refl _, heap_alloc_new wb _, Nat.le_refl _, Nat.zero_le _, rfl, rfl⟩⟩
              go_wp2_with (at_builtin; go_loud (refine app_bytes rfl _ _ 33 rfl wb.heap.size (.slice (some ⟨wb.heap.size, 0, none⟩) 0 0) [] rfl lit (.slice (some ⟨b, off + 8, none⟩) (l.length - 8) (c - 8)) (bs (recP l)) rfl sM.out len1 (World.grownBy_alloc wb _ none).size ?_); intro v4 w4' g4)
              rw [List.nil_append] at g4
              go_ret2
              refine ⟨_, rfl, ?_, g4.all lit (only_alloc db _) db.size⟩
              unfold OneV
              rw [if_pos EO.out]
              rcases g4.own with ⟨h1, h2⟩
              exact ⟨h1, h2.imp id fun ⟨g, cap, cur, hv, hg, h3⟩ => ⟨g, cap, cur, hv, Nat.le_trans db.size hg, h3⟩⟩
          · rw [if_neg hqr] at EF
            have tq : ((q : Int) != (r : Int)) = true := by simp; omega
            rw [EF]
            have EO := Lib.hid EF
            clear EF hqr
            by_cases hc8 : c = 8
            · have C1' := fun V hV => C1 (some ⟨b, off, none⟩) (c - 8) V (.inr (hl8.out hc8)) hV
              have HRR := Lib.hid (fun V hV => HR'.out (some ⟨b, off, none⟩) V (.inr (hl8.out hc8)) hV)
              clear C1 HR' hl8
              subst hc8
              go_enter Tryd.func30, Tryd.ntmps30
              go_wp2_with fail
              refine W1.out.mono ?_
              rintro _ w1 ⟨rfl, g1⟩
              have d1 : w.grownBy w1.drew none := only_drew g1
              go_wp2_with fail
              go_region_held3 (fun _ => True) (first | trivial) ((first
                | (go_at_call 50; refine (C1' _ d1).out.mono ?_; rintro e wa ⟨rfl, rfl⟩)
                | (go_at_call 49; refine (W2 _ d1).out.mono ?_; rintro e wb ⟨rfl, gb⟩; have db : w.grownBy wb none := only_step d1 gb (fun _ h => by cases h))))
              go_wp2_with fail
              go_ret2
              exact ⟨_, rfl, OneV.bad (by rw [EO.out]; decide), db⟩
            · have C1' := fun V hV => C1 (some ⟨b, off + 8, none⟩) (c - 8) V (.inl rfl) hV
              have HRR := Lib.hid (fun V hV => HR'.out (some ⟨b, off + 8, none⟩) V (.inl rfl) hV)
              clear C1 HR' hl8
              go_enter Tryd.func30, Tryd.ntmps30
              go_wp2_with fail
              refine W1.out.mono ?_
              rintro _ w1 ⟨rfl, g1⟩
              have d1 : w.grownBy w1.drew none := only_drew g1
              go_wp2_with fail
              go_region_held3 (fun _ => True) (first | trivial) ((first
                | (go_at_call 50; refine (C1' _ d1).out.mono ?_; rintro e wa ⟨rfl, rfl⟩)
                | (go_at_call 49; refine (W2 _ d1).out.mono ?_; rintro e wb ⟨rfl, gb⟩; have db : w.grownBy wb none := only_step d1 gb (fun _ h => by cases h))))
              go_wp2_with fail
              go_ret2
              exact ⟨_, rfl, OneV.bad (by rw [EO.out]; decide), db⟩
end Go.Proofs.YtpfahfakinonnaaDoor
