/- The reference's Reader in memory ('Rdf'), and the contract of its Int: it answers as package code's does. -/
import Derived.Test.YtcmpeohooiehcaaCm
import Derived.BigQuiet
import Derived.Deep.QuietTactic
namespace Go.Proofs.Ytcmpeohooiehcaa
open Go.RowKit
variable {lim : Nat}

/-- Block g is a Reader of the reference's that has the bytes l left, and the error e. -/
def Rdf (lim : Nat) (w : World) (g : Nat) (l : List Int) (e : Int) : Prop :=
  ∃ A c full p, w.heap[g]? = some (.cells #[.slice A (List.length full) c, .int .i64 (p : Nat), .int .i64 e] 89 (0, 0)) ∧ Has w lim A (bs full) ∧ p ≤ full.length ∧ full.drop p = l ∧ full.length ≤ c ∧ full.length ≤ 1099511627776 ∧ lim ≤ g
theorem Rdf.lt {w : World} {g : Nat} {l : List Int} {e : Int} (h : Rdf lim w g l e) : g < w.heap.size := by
  obtain ⟨A, c, f, p, hg, _⟩ := h
  rcases Nat.lt_or_ge g w.heap.size with h1 | h1
  · exact h1
  · rw [Array.getElem?_eq_none h1] at hg; cases hg
theorem Rdf.only {w w' : World} {g : Nat} {l : List Int} {e : Int} {r : Option Nat} (h : Rdf lim w g l e) (hg : w.grownBy w' r) (hr : ∀ k, r = some k → lim ≤ k ∧ g ≠ k) : Rdf lim w' g l e := by
  have hlt := h.lt
  obtain ⟨A, c, f, p, hh, ha, h1, h2, h3, h4, hlg⟩ := h
  exact ⟨A, c, f, p, (hg.block g hlt (fun e => (hr _ e.symm).2 rfl)).trans hh, ha.only hg (by omega) (fun k hk => (hr k hk).1), h1, h2, h3, h4, hlg⟩
theorem Rdf.set1 {w : World} {g : Nat} {l : List Int} {e : Int} {A : Option Addr} {c : Nat} {full : List Int} {p : Nat} (hg : w.heap[g]? = some (.cells #[.slice A full.length c, .int .i64 p, .int .i64 e] 89 (0, 0)))
    (ha : Has w lim A (bs full)) (hc : full.length ≤ c) (hf : full.length ≤ 1099511627776) (hlg : lim ≤ g) (q : Nat) (hq : q ≤ full.length) (hl : full.drop q = l) : Rdf lim (w.setCell ⟨g, 1, none⟩ (.int .i64 q)) g l e ∧ w.grownBy (w.setCell ⟨g, 1, none⟩ (.int .i64 q)) (some g) :=
  ⟨⟨A, c, full, q, by rw [heap_set hg]; rfl, ha.keep (fun p hp => World.cell?_setCell_other _ _ _ _ (fun e => by subst e; have h9 : g < lim := hp; omega)), hq, hl, hc, hf, hlg⟩, only_set (only_refl _ _) (.inl rfl) _⟩
theorem Rdf.set2 {w : World} {g : Nat} {l : List Int} {e : Int} (h : Rdf lim w g l e) (f : Int) : Rdf lim (w.setCell ⟨g, 2, none⟩ (.int .i64 f)) g l f ∧ w.grownBy (w.setCell ⟨g, 2, none⟩ (.int .i64 f)) (some g) := by
  obtain ⟨A, c, full, p, hg, ha, h1, h2, h3, h4, hlg⟩ := h
  exact ⟨⟨A, c, full, p, by rw [heap_set hg]; rfl, ha.keep (fun p hp => World.cell?_setCell_other _ _ _ _ (fun e => by subst e; have h9 : g < lim := hp; omega)), h1, h2, h3, h4, hlg⟩, only_set (only_refl _ _) (.inl rfl) _⟩
/-- What a read hands back: the value, or the zero value beside the error that it leaves. -/
def RefPost {α : Type} (lim : Nat) (enc : α → World → Value → Prop) (zero : Value) (w : World) (g : Nat) (r : Except Int α × List Int) (e : Ending) (w' : World) : Prop :=
  match r.1 with
  | .ok n => (∃ v, e = .returned v ∧ enc n w' v) ∧ Rdf lim w' g r.2 0 ∧ w.grownBy w' (some g)
  | .error c => e = .returned zero ∧ Rdf lim w' g r.2 c ∧ w.grownBy w' (some g)

set_option maxRecDepth 100000 in
theorem rfInt_err (g : Nat) (l : List Int) (e0 : Int) (w : World) (h : Rdf lim w g l e0) (he : ¬ e0 = 0) :
    Calls Try.prog 57 #[.pointer (some ⟨g, 0, none⟩)] w fun e w' => e = .returned (.int .i64 0) ∧ Rdf lim w' g l e0 ∧ w.grownBy w' none := by
  have H := Lib.hid h
  obtain ⟨A, c, full, p, hg, _⟩ := h
  have c2 : w.cell? ⟨g, 2, none⟩ = some (.int .i64 e0) := by simp [World.cell?, hg]
  have hq : (e0 == 0) = false := by rw [beq_eq_false_iff_ne]; exact he
  have hq2 : (e0 != 0) = true := by rw [bne_iff_ne]; exact he
  clear hg
  go_enter Try.func57, Try.ntmps57
  go_wp2
  go_loopw [3, 4] (fun su sk wr => su = .int .u64 0 ∧ sk = .int .i64 0 ∧ w = wr) (fun _ _ _ => 0)
  case atStart => exact ⟨rfl, rfl, rfl⟩
  case round =>
    obtain ⟨rfl, rfl, rfl⟩ := hrel
    go_wp2_with fail
    go_quiet (fail)
    go_wp2_with fail
    go_ret
    exact ⟨rfl, H.out, only_drewN (only_refl _ _) _⟩

theorem shr_parity (u : Nat) (h : u ≤ 18446744073709551615) : bits .and .u64 (u : Int) 1 = ((u % 2 : Nat) : Int) := by
  rw [show (1 : Int) = ((1 : Nat) : Int) from rfl, u64_and_nat u 1 (by omega) (by omega), nat_mask1]
/-- What a number is whose bytes l are still to come, u what stood ahead of them. -/
def numFrom (first : Bool) (u : Nat) (l : List Int) : Except Int Int × List Int := match l with
  | [] => (.error 8, [])
  | y :: l' => if (first = true ∧ y = 128) ∨ 144115188075855872 ≤ u then (.error 10, l') else if y.toNat < 128 then (.ok (zag ((u * 128 + y.toNat % 128 : Nat) : Int)), l') else numFrom false (u * 128 + y.toNat % 128) l'
theorem numLoop_from : ∀ (l : List Int) (x u : Nat), 128 ≤ x → numLoop x u l = numFrom false u l
  | [], x, u, h => by unfold numLoop numFrom; rw [if_neg (by omega)]
  | y :: l', x, u, h => by
    unfold numLoop numFrom
    rw [if_neg (by omega)]
    by_cases hb : 144115188075855872 ≤ u
    · simp [hb]
    · simp only [if_neg hb]
      rw [if_neg (by simp; omega)]
      by_cases hy : y.toNat < 128
      · rw [if_pos hy]; unfold numLoop; rw [if_pos hy]
      · rw [if_neg hy, numLoop_from l' _ _ (by omega)]
theorem number_from (l : List Int) (hb : bytesOk l) : number l = numFrom true 0 l := by
  cases l with
  | nil => rfl
  | cons y l' =>
    have hy := hb y (by simp)
    unfold number numFrom
    by_cases h : y = 128
    · simp [h]
    · simp only [if_neg h]
      rw [if_neg (by simp [h])]
      by_cases hl : y.toNat < 128
      · rw [if_pos hl]; unfold numLoop; rw [if_pos hl]; simp
      · rw [if_neg hl, numLoop_from l' _ _ (by omega)]; simp

set_option maxRecDepth 100000 in
set_option maxRecDepth 100000 in
set_option maxHeartbeats 1000000 in
theorem rfInt_ok (g : Nat) (l : List Int) (w : World) (h : Rdf lim w g l 0) (hb : bytesOk l) :
    Calls Try.prog 57 #[.pointer (some ⟨g, 0, none⟩)] w (RefPost lim numOf (.int .i64 0) w g (number l)) := by
  have hll : l.length ≤ 1099511627776 := by
    obtain ⟨A, c, full, p, _, _, _, hd, _, hf, _⟩ := h
    rw [← hd, List.length_drop]; omega
  rw [number_from l hb]
  obtain ⟨r, hr⟩ : ∃ r, numFrom true 0 l = r := ⟨_, rfl⟩
  rw [hr]
  have HR := Lib.hid hr
  have HB := Lib.hid hb
  clear hr hb
  go_enter Try.func57, Try.ntmps57
  go_wp2
  go_loopw [3, 4] (fun su sk wr => ∃ (u k : Nat) (l' : List Int), su = .int .u64 u ∧ sk = .int .i64 k ∧ u ≤ 18446744073709551615 ∧ k + l'.length ≤ l.length ∧ Rdf lim wr g l' 0 ∧ Hid (bytesOk l') ∧ Hid (numFrom (k == 0) u l' = r) ∧ w.grownBy wr (some g))
    (fun _ sk _ => l.length - (intOf sk).toNat)
  case atStart => exact ⟨0, 0, l, rfl, rfl, by omega, by omega, h, HB, HR, only_refl _ _⟩
  case round =>
    obtain ⟨u, k, l', rfl, rfl, hu, hk, hR, hB, hV, hG⟩ := hrel
    have H := Lib.hid hR
    obtain ⟨A, c, full, p, hg, ha, hp, hd, hc, hf, hlg⟩ := hR
    have c0 : wr.cell? ⟨g, 0, none⟩ = some (.slice A full.length c) := by simp [World.cell?, hg]
    have c1 : wr.cell? ⟨g, 1, none⟩ = some (.int .i64 p) := by simp [World.cell?, hg]
    have c2 : wr.cell? ⟨g, 2, none⟩ = some (.int .i64 0) := by simp [World.cell?, hg]
    have f1 : wr.frozen? ⟨g, 1, none⟩ = false := by simp [World.frozen?, hg]
    have f2 : wr.frozen? ⟨g, 2, none⟩ = false := by simp [World.frozen?, hg]
    cases l' with
    | nil =>
      have hpl : full.length ≤ p := by rw [List.drop_eq_nil_iff] at hd; exact hd
      have ht : (full.length : Int) ≤ (p : Int) := by omega
      have hv : r = (.error 8, []) := by rw [← hV.out]; rfl
      subst hv
      have HS : ∀ n, Hid (Rdf lim ((wr.drewN n).setCell ⟨g, 2, none⟩ (.int .i64 8)) g [] 8 ∧ (wr.drewN n).grownBy ((wr.drewN n).setCell ⟨g, 2, none⟩ (.int .i64 8)) (some g)) := fun n =>
        Rdf.set2 (show Rdf lim (wr.drewN n) g [] 0 from H.out) 8
      clear hV hg ha hd
      go_wp2_with fail
      go_quiet (fail)
      go_wp2_with fail
      go_ret
      exact ⟨rfl, (HS _).out.1, only_step (only_drewN hG _) (HS _).out.2 (fun _ h => .inl h)⟩
    | cons y l' =>
      obtain ⟨y, rfl⟩ : ∃ n : Nat, y = n := ⟨y.toNat, by have := hB.out y (by simp); omega⟩
      have hy : y ≤ 255 := by have := hB.out (y : Int) (by simp); omega
      have hB' : Hid (bytesOk l') := fun q hq => hB.out q (by simp [hq])
      have hpl : p < full.length := by
        rcases Nat.lt_or_ge p full.length with h | h
        · exact h
        · rw [List.drop_eq_nil_of_le h] at hd; cases hd
      rw [List.drop_eq_getElem_cons hpl] at hd
      injection hd with hd1 hd2
      have ht : ¬ (full.length : Int) ≤ (p : Int) := by omega
      have ht2 : (p : Int) < (full.length : Int) := by omega
      have ht3 : (0 : Int) ≤ (p : Int) := by omega
      obtain ⟨b, off, rfl, hbg, hcell⟩ : ∃ b off, A = some ⟨b, off, none⟩ ∧ b < g ∧ wr.cell? ⟨b, off + p, none⟩ = some (.int .u8 (y : Int)) := by
        rcases ha with h0 | ⟨b, off, hA, hbg, hcc⟩
        · have h9 : (bs full).length = 0 := by rw [h0]; rfl
          rw [bs_len] at h9; omega
        · exact ⟨b, off, hA, by omega, hcc p _ (by simp [bs, hpl, hd1])⟩
      have HS : ∀ n, Hid (Rdf lim ((wr.drewN n).setCell ⟨g, 1, none⟩ (.int .i64 ((p : Int) + 1))) g l' 0 ∧ (wr.drewN n).grownBy ((wr.drewN n).setCell ⟨g, 1, none⟩ (.int .i64 ((p : Int) + 1))) (some g)) := fun n => by
        have h := Rdf.set1 (w := wr.drewN n) (l := l') (e := 0) hg ha hc hf hlg (p + 1) hpl hd2
        exact h
      have hes : IntKind.i64.wrap ((p : Int) + 1) = (p : Int) + 1 := by rw [IntKind.wrap_i64]; omega
      simp only [List.length_cons] at hk
      clear hg ha hd1 hd2
      have qu : ∀ h : 144115188075855872 ≤ u, ((u : Int) / 144115188075855872 != 0) = true := fun h => by rw [bne_iff_ne]; omega
      have ql : ∀ h : u < 144115188075855872, ((u : Int) / 144115188075855872 != 0) = false := fun h => by rw [bne_eq_false_iff_eq]; omega
      by_cases hk0 : k = 0
      · subst hk0
        by_cases hy0 : y = 128
        · subst hy0
          clear qu ql
          have hv : r = (.error 10, l') := by
            rw [← hV.out]; unfold numFrom
            rw [if_pos (.inl ⟨rfl, rfl⟩)]
          subst hv
          have HS2 : ∀ n, Hid (Rdf lim (((wr.drewN n).setCell ⟨g, 1, none⟩ (.int .i64 ((p : Int) + 1))).setCell ⟨g, 2, none⟩ (.int .i64 10)) g l' 10 ∧ w.grownBy (((wr.drewN n).setCell ⟨g, 1, none⟩ (.int .i64 ((p : Int) + 1))).setCell ⟨g, 2, none⟩ (.int .i64 10)) (some g)) := fun n => by
            have h := ((HS n).out.1).set2 10
            exact ⟨h.1, only_step (only_step (only_drewN hG n) (HS n).out.2 (fun _ h => .inl h)) h.2 (fun _ h => .inl h)⟩
          clear hV HS
          go_wp2_with fail
          go_quiet (fail)
          go_wp2_with fail
          go_quiet (fail)
          go_wp2_with fail
          go_ret
          exact ⟨rfl, (HS2 _).out⟩
        · have hq0 : ((y : Int) == 128) = false := by rw [beq_eq_false_iff_ne]; omega
          rcases Nat.lt_or_ge u 144115188075855872 with hbig | hbig
          · have hq1 := ql hbig
            clear qu ql
            obtain ⟨u2, hu2⟩ : ∃ u2 : Nat, u2 = u * 128 + y % 128 := ⟨_, rfl⟩
            obtain ⟨d, hd⟩ : ∃ d : Nat, d = y % 128 := ⟨_, rfl⟩
            have hand : bits .and .u8 (y : Int) 127 = (d : Int) := by
              have := and_127 y
              rw [Nat.mod_eq_of_lt (by omega)] at this
              rw [this, hd]
            have hor : bits .or .u64 ((u : Int) * 128) (d : Int) = (u2 : Int) := by
              have := or_7 u y (by omega)
              rw [show ((y : Int) % 128) = (d : Int) by omega, ← hu2] at this
              exact this
            have hu3 : u2 ≤ 18446744073709551615 := by omega
            have hV2 : Hid (r = if y < 128 then (.ok (zag (u2 : Int)), l') else numFrom false u2 l') := by
              unfold Hid
              rw [← hV.out, hu2]
              conv => lhs; unfold numFrom
              rw [if_neg (by simp; omega)]
              simp only [Int.toNat_natCast]
            have HS2 : ∀ n, Hid (w.grownBy ((wr.drewN n).setCell ⟨g, 1, none⟩ (.int .i64 ((p : Int) + 1))) (some g)) := fun n =>
              only_step (only_drewN hG n) (HS n).out.2 (fun _ h => .inl h)
            have hd2 : d ≤ 127 := by omega
            clear hV hu2 hd
            by_cases hlo : y < 128
            · have t1 : decide ((y : Int) < 128) = true := decide_eq_true (by omega)
              have hv : r = (.ok (zag (u2 : Int)), l') := by rw [hV2.out, if_pos hlo]
              subst hv
              clear hV2
              rcases Nat.mod_two_eq_zero_or_one u2 with hpar | hpar
              · have hb1 : bits .and .u64 (u2 : Int) 1 = 0 := by rw [shr_parity u2 hu3, hpar]; rfl
                have hz : zag (u2 : Int) = (u2 : Int) / 2 := by unfold zag; rw [if_pos (by omega)]
                have Hz := Lib.hid hz
                clear hz hpar
                go_wp2_with fail
                go_quiet (fail)
                go_wp2_with fail
                go_quiet (fail)
                go_wp2_with fail
                go_ret
                exact ⟨⟨_, rfl, by unfold numOf; rw [Hz.out]; rfl⟩, (HS _).out.1, (HS2 _).out⟩
              · have hb1 : bits .and .u64 (u2 : Int) 1 = 1 := by rw [shr_parity u2 hu3, hpar]; rfl
                have hz : zag (u2 : Int) = -1 - (u2 : Int) / 2 := by unfold zag; rw [if_neg (by omega)]; omega
                have Hz := Lib.hid hz
                clear hz hpar
                go_wp2_with fail
                go_quiet (fail)
                go_wp2_with fail
                go_quiet (fail)
                go_wp2_with fail
                go_ret
                exact ⟨⟨_, rfl, by unfold numOf; rw [Hz.out]; rfl⟩, (HS _).out.1, (HS2 _).out⟩
            · have t1 : decide ((y : Int) < 128) = false := decide_eq_false (by omega)
              go_wp2_with fail
              go_quiet (fail)
              go_wp2_with fail
              go_quiet (fail)
              go_wp2_with fail
              go_roundw
              case rel =>
                refine ⟨u2, 1, l', rfl, by go_num, hu3, by omega, (HS _).out.1, hB', ?_, (HS2 _).out⟩
                have h := hV2.out
                rw [if_neg hlo] at h
                unfold Hid
                rw [h]
                rfl
              case measure => simp [intOf]; omega
          · have hq1 := qu hbig
            clear qu ql
            have hv : r = (.error 10, l') := by
              rw [← hV.out]; unfold numFrom
              rw [if_pos (.inr hbig)]
            subst hv
            have HS2 : ∀ n, Hid (Rdf lim (((wr.drewN n).setCell ⟨g, 1, none⟩ (.int .i64 ((p : Int) + 1))).setCell ⟨g, 2, none⟩ (.int .i64 10)) g l' 10 ∧ w.grownBy (((wr.drewN n).setCell ⟨g, 1, none⟩ (.int .i64 ((p : Int) + 1))).setCell ⟨g, 2, none⟩ (.int .i64 10)) (some g)) := fun n => by
              have h := ((HS n).out.1).set2 10
              exact ⟨h.1, only_step (only_step (only_drewN hG n) (HS n).out.2 (fun _ h => .inl h)) h.2 (fun _ h => .inl h)⟩
            clear hV HS
            go_wp2_with fail
            go_quiet (fail)
            go_wp2_with fail
            go_quiet (fail)
            go_wp2_with fail
            go_ret
            exact ⟨rfl, (HS2 _).out⟩
      · have hwk : IntKind.i64.wrap ((k : Int) + 1) = (k : Int) + 1 := by rw [IntKind.wrap_i64]; omega
        have hqk : ((k : Int) == 0) = false := by rw [beq_eq_false_iff_ne]; omega
        rcases Nat.lt_or_ge u 144115188075855872 with hbig | hbig
        · have hq1 := ql hbig
          clear qu ql
          obtain ⟨u2, hu2⟩ : ∃ u2 : Nat, u2 = u * 128 + y % 128 := ⟨_, rfl⟩
          obtain ⟨d, hd⟩ : ∃ d : Nat, d = y % 128 := ⟨_, rfl⟩
          have hand : bits .and .u8 (y : Int) 127 = (d : Int) := by
            have := and_127 y
            rw [Nat.mod_eq_of_lt (by omega)] at this
            rw [this, hd]
          have hor : bits .or .u64 ((u : Int) * 128) (d : Int) = (u2 : Int) := by
            have := or_7 u y (by omega)
            rw [show ((y : Int) % 128) = (d : Int) by omega, ← hu2] at this
            exact this
          have hu3 : u2 ≤ 18446744073709551615 := by omega
          have hV2 : Hid (r = if y < 128 then (.ok (zag (u2 : Int)), l') else numFrom false u2 l') := by
            unfold Hid
            rw [← hV.out, hu2]
            conv => lhs; unfold numFrom
            rw [if_neg (by simp [hk0]; omega)]
            simp only [Int.toNat_natCast]
          have HS2 : ∀ n, Hid (w.grownBy ((wr.drewN n).setCell ⟨g, 1, none⟩ (.int .i64 ((p : Int) + 1))) (some g)) := fun n =>
            only_step (only_drewN hG n) (HS n).out.2 (fun _ h => .inl h)
          have hd2 : d ≤ 127 := by omega
          clear hV hu2 hd
          by_cases hlo : y < 128
          · have t1 : decide ((y : Int) < 128) = true := decide_eq_true (by omega)
            have hv : r = (.ok (zag (u2 : Int)), l') := by rw [hV2.out, if_pos hlo]
            subst hv
            clear hV2
            rcases Nat.mod_two_eq_zero_or_one u2 with hpar | hpar
            · have hb1 : bits .and .u64 (u2 : Int) 1 = 0 := by rw [shr_parity u2 hu3, hpar]; rfl
              have hz : zag (u2 : Int) = (u2 : Int) / 2 := by unfold zag; rw [if_pos (by omega)]
              have Hz := Lib.hid hz
              clear hz hpar
              go_wp2_with fail
              go_quiet (fail)
              go_wp2_with fail
              go_quiet (fail)
              go_wp2_with fail
              go_ret
              exact ⟨⟨_, rfl, by unfold numOf; rw [Hz.out]; rfl⟩, (HS _).out.1, (HS2 _).out⟩
            · have hb1 : bits .and .u64 (u2 : Int) 1 = 1 := by rw [shr_parity u2 hu3, hpar]; rfl
              have hz : zag (u2 : Int) = -1 - (u2 : Int) / 2 := by unfold zag; rw [if_neg (by omega)]; omega
              have Hz := Lib.hid hz
              clear hz hpar
              go_wp2_with fail
              go_quiet (fail)
              go_wp2_with fail
              go_quiet (fail)
              go_wp2_with fail
              go_ret
              exact ⟨⟨_, rfl, by unfold numOf; rw [Hz.out]; rfl⟩, (HS _).out.1, (HS2 _).out⟩
          · have t1 : decide ((y : Int) < 128) = false := decide_eq_false (by omega)
            go_wp2_with fail
            go_quiet (fail)
            go_wp2_with fail
            go_quiet (fail)
            go_wp2_with fail
            go_roundw
            case rel =>
              refine ⟨u2, k + 1, l', rfl, by go_num, hu3, by omega, (HS _).out.1, hB', ?_, (HS2 _).out⟩
              have h := hV2.out
              rw [if_neg hlo] at h
              unfold Hid
              rw [h]
              rfl
            case measure => simp [intOf]; omega
        · have hq1 := qu hbig
          clear qu ql
          have hv : r = (.error 10, l') := by
            rw [← hV.out]; unfold numFrom
            rw [if_pos (.inr hbig)]
          subst hv
          have HS2 : ∀ n, Hid (Rdf lim (((wr.drewN n).setCell ⟨g, 1, none⟩ (.int .i64 ((p : Int) + 1))).setCell ⟨g, 2, none⟩ (.int .i64 10)) g l' 10 ∧ w.grownBy (((wr.drewN n).setCell ⟨g, 1, none⟩ (.int .i64 ((p : Int) + 1))).setCell ⟨g, 2, none⟩ (.int .i64 10)) (some g)) := fun n => by
            have h := ((HS n).out.1).set2 10
            exact ⟨h.1, only_step (only_step (only_drewN hG n) (HS n).out.2 (fun _ h => .inl h)) h.2 (fun _ h => .inl h)⟩
          clear hV HS
          go_wp2_with fail
          go_quiet (fail)
          go_wp2_with fail
          go_quiet (fail)
          go_wp2_with fail
          go_ret
          exact ⟨rfl, (HS2 _).out⟩

end Go.Proofs.Ytcmpeohooiehcaa
