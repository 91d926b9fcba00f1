/- package code's Reader: what a Reader in memory reads ('Rdr'), the plain functions that say what a number, a text, a list of numbers is ('numB', ..), and the contracts of next and number. -/
import Derived.Test.YtcmpeohooiehcaaCc
import Derived.Test.YtcmpeohooiehcaaOgd
import Derived.Recover
import Derived.Defers
namespace Go.Proofs.Ytcmpeohooiehcaa
open Go.RowKit

/-- Block g is a Reader that has the bytes l left, and the error e. -/
def Rdr (w : World) (g : Nat) (l : List Int) (e : Int) : Prop :=
  ∃ A c, w.heap[g]? = some (.cells #[.slice A l.length c, .int .i64 e] 82 (0, 0)) ∧ Has w g A (bs l) ∧ l.length ≤ c
def restLen (w : World) (g : Nat) : Nat := match w.heap[g]? with
  | some (Obj.cells cs _ _) => (match cs[0]? with | some (Value.slice _ n _) => n | _ => 0)
  | _ => 0
theorem Rdr.len {w : World} {g : Nat} {l : List Int} {e : Int} (h : Rdr w g l e) : restLen w g = l.length := by
  obtain ⟨A, c, hg, _, _⟩ := h
  simp [restLen, hg]
theorem Rdr.lt {w : World} {g : Nat} {l : List Int} {e : Int} (h : Rdr w g l e) : g < w.heap.size := by
  obtain ⟨A, c, hg, _, _⟩ := h
  rcases Nat.lt_or_ge g w.heap.size with h1 | h1
  · exact h1
  · rw [Array.getElem?_eq_none h1] at hg; cases hg
theorem Rdr.only {w w' : World} {g : Nat} {l : List Int} {e : Int} {r : Option Nat} (h : Rdr w g l e) (hg : w.grownBy w' r) (hr : ∀ k, r = some k → g < k) : Rdr w' g l e := by
  have hlt := h.lt
  obtain ⟨A, c, hh, ha, hc⟩ := h
  exact ⟨A, c, (hg.block g hlt (fun e => by have := hr _ e.symm; omega)).trans hh, ha.only hg (by omega) (fun k hk => by have := hr k hk; omega), hc⟩
theorem Rdr.drew {w : World} {g : Nat} {l : List Int} {e : Int} (h : Rdr w g l e) : Rdr w.drew g l e := h

/-- A byte that is a fault, as the steps throw it. -/
def fault (c : Int) : List PanicEntry := [{ v := .iface 99 (.agg #[.int .i64 c]), recovered := false }]

set_option maxRecDepth 100000 in
theorem next_some (g : Nat) (x : Int) (l : List Int) (e0 : Int) (w : World) (h : Rdr w g (x :: l) e0) (hl : l.length ≤ 1099511627776) :
    Calls Try.prog 73 #[.pointer (some ⟨g, 0, none⟩)] w fun e w' => e = .returned (.int .u8 x) ∧ Rdr w' g l e0 ∧ w.grownBy w' (some g) := by
  have hlt := h.lt
  obtain ⟨A, c, hg, ha, hc⟩ := h
  rcases ha with ha | ⟨b, off, rfl, hb, hcell⟩
  · simp [bs] at ha
  have hx := hcell 0 (.int .u8 x) (by simp [bs])
  simp only [List.length_cons] at hg hc
  have c0 : w.cell? ⟨g, 0, none⟩ = some (.slice (some ⟨b, off, none⟩) (l.length + 1) c) := by simp [World.cell?, hg]
  have f0 : w.frozen? ⟨g, 0, none⟩ = false := by simp [World.frozen?, hg]
  have HG := Lib.hid hg
  have HC := fun (j : Nat) (u : Value) (h : (bs (x :: l))[j]? = some u) => Lib.hid (hcell j u h)
  have hcb : off + 0 = off := rfl
  rw [Nat.add_zero] at hx
  clear hg hcell hcb
  go_enter Try.func73, Try.ntmps73
  have keep : ∀ (A' : Option Addr) (c' : Nat), Has w g A' (bs l) → l.length ≤ c' → Rdr (w.setCell ⟨g, 0, none⟩ (.slice A' l.length c')) g l e0 ∧ w.grownBy (w.setCell ⟨g, 0, none⟩ (.slice A' l.length c')) (some g) := fun A' c' h1 h2 =>
    ⟨⟨A', c', by rw [heap_set HG.out]; rfl, h1.keep (fun p hp => World.cell?_setCell_other _ _ _ _ (fun e => by subst e; simp at hp)), h2⟩, only_set (only_refl _ _) (.inl rfl) _⟩
  have K := fun A' c' h1 h2 => Lib.hid (keep A' c' h1 h2)
  clear keep
  go_wp2
  · go_ret
    exact ⟨rfl, (K _ _ (.inl (by simp [bs]; apply List.eq_nil_of_length_eq_zero; omega)) (by omega)).out⟩
  · go_ret
    refine ⟨rfl, (K _ _ (.inr ⟨b, off + 1, rfl, hb, fun j u hu => ?_⟩) (by omega)).out⟩
    have h := (HC (j + 1) u (by simpa [bs] using hu)).out
    rw [show off + 1 + j = off + (j + 1) by omega]
    exact h

set_option maxRecDepth 100000 in
theorem next_none (g : Nat) (e0 : Int) (w : World) (h : Rdr w g [] e0) :
    Calls Try.prog 73 #[.pointer (some ⟨g, 0, none⟩)] w fun e w' => e = .panicked (fault 8) ∧ w = w' := by
  obtain ⟨A, c, hg, ha, hc⟩ := h
  simp only [List.length_nil] at hg
  have c0 : w.cell? ⟨g, 0, none⟩ = some (.slice A 0 c) := by simp [World.cell?, hg]
  clear hg ha hc
  go_enter Try.func73, Try.ntmps73
  go_wp2
  exact ⟨rfl, rfl, rfl⟩

/-- number has read l: the number handed back, or its fault thrown; what is left. -/
def NumPost (w : World) (g : Nat) (e0 : Int) (r : Except Int Int × List Int) (e : Ending) (w' : World) : Prop :=
  (match r.1 with
    | .ok n => e = .returned (.int .i64 n)
    | .error c => e = .panicked (fault c)) ∧ Rdr w' g r.2 e0 ∧ w.grownBy w' (some g)
def bytesOk (l : List Int) : Prop := ∀ x ∈ l, 0 ≤ x ∧ x ≤ 255
set_option maxRecDepth 100000 in
theorem unfold_any (u : Int) (h1 : 0 ≤ u) (h2 : u ≤ 18446744073709551615) (w : World) :
    Calls Try.prog 74 #[.int .u64 u] w fun e w' => e = .returned (.int .i64 (zag u)) ∧ w = w' := by
  have hv := Lib.hid (unfold_val u h1 h2)
  go_enter Try.func74, Try.ntmps74
  go_wp2
  go_ret
  exact ⟨by rw [← hv.out]; rfl, rfl⟩

set_option maxRecDepth 100000 in
set_option maxHeartbeats 1000000 in
theorem number_any (g : Nat) (l : List Int) (e0 : Int) (w : World) (h : Rdr w g l e0) (hl : l.length ≤ 1099511627776) (hb : bytesOk l) :
    Calls Try.prog 64 #[.pointer (some ⟨g, 0, none⟩)] w (NumPost w g e0 (number l)) := by
  cases l with
  | nil =>
    go_enter Try.func64, Try.ntmps64
    go_wp2_with (go_at_call 73; refine (next_none g e0 _ h).mono ?_; rintro e w' ⟨rfl, rfl⟩)
    exact ⟨rfl, rfl, h, only_refl _ _⟩
  | cons x l =>
    have hx := hb x (by simp)
    have hbl : bytesOk l := fun y hy => hb y (by simp [hy])
    obtain ⟨n, rfl⟩ : ∃ n : Nat, x = n := ⟨x.toNat, by omega⟩
    simp only [List.length_cons] at hl
    by_cases h128 : n = 128
    · subst h128
      go_enter Try.func64, Try.ntmps64
      go_wp2_with (go_at_call 73; refine (next_some g _ l e0 _ h (by omega)).mono ?_; rintro e w1 ⟨rfl, h1, g1⟩)
      exact ⟨rfl, rfl, h1, g1⟩
    · have hne : ¬ (n : Int) = 128 := by omega
      have hN : number ((n : Int) :: l) = numLoop n (n % 128) l := by simp [number, hne]
      rw [hN]
      clear hN
      obtain ⟨r, hr⟩ : ∃ r, numLoop n (n % 128) l = r := ⟨_, rfl⟩
      rw [hr]
      have HR := Lib.hid hr
      have hnb : n ≤ 255 := by omega
      have HB := Lib.hid hbl
      have hq0 : ((n : Int) == 128) = false := by rw [beq_eq_false_iff_ne]; exact hne
      clear hx hbl hb hr
      go_enter Try.func64, Try.ntmps64
      go_wp2_with (go_at_call 73; refine (next_some g _ l e0 _ h (by omega)).mono ?_; rintro e w1 ⟨rfl, h1, g1⟩)
      go_loopw [3, 4] (fun sx su wr => ∃ (y u : Nat) (l' : List Int), sx = .int .u8 y ∧ su = .int .u64 u ∧ y ≤ 255 ∧ u ≤ 18446744073709551615 ∧ Rdr wr g l' e0 ∧ l'.length ≤ 1099511627776 ∧ Hid (bytesOk l') ∧ Hid (numLoop y u l' = r) ∧ w.grownBy wr (some g))
        (fun _ _ wr => restLen wr g)
      case atStart => exact ⟨n, n % 128, l, rfl, by go_num, hnb, by omega, h1, by omega, HB, HR, g1⟩
      case round =>
        obtain ⟨y, u, l', rfl, rfl, hy, hu, hR, hl', hB, hV, hG⟩ := hrel
        have hm := hR.len
        by_cases hlt : y < 128
        · have ht : ¬ (128 : Int) ≤ (y : Int) := by omega
          have hv : r = (.ok (zag u), l') := by rw [← hV.out]; unfold numLoop; rw [if_pos hlt]
          subst hv
          clear hV hm
          go_wp2_with (go_at_call 74; refine (unfold_any u (by omega) (by omega) _).mono ?_; rintro e w2 ⟨rfl, rfl⟩)
          go_ret
          exact ⟨rfl, hR, hG⟩
        · have ht : (128 : Int) ≤ (y : Int) := by omega
          cases l' with
          | nil =>
            have hv : r = (.error 8, []) := by rw [← hV.out]; unfold numLoop; rw [if_neg hlt]
            subst hv
            clear hV hm
            go_wp2_with (go_at_call 73; refine (next_none g e0 _ hR).mono ?_; rintro e w' ⟨rfl, rfl⟩)
            exact ⟨rfl, rfl, hR, hG⟩
          | cons z l' =>
            have hz := hB.out z (by simp)
            obtain ⟨z, rfl⟩ : ∃ n : Nat, z = n := ⟨z.toNat, by omega⟩
            have hB' : Hid (bytesOk l') := fun q hq => hB.out q (by simp [hq])
            simp only [List.length_cons] at hl'
            by_cases hbig : u < 144115188075855872
            · have hV' : Hid (numLoop z (u * 128 + z % 128) l' = r) := by
                have h := hV.out
                unfold numLoop at h
                rw [if_neg hlt] at h
                simp only [if_neg (show ¬ 144115188075855872 ≤ u by omega)] at h
                exact h
              have hor := or_7 u z hbig
              have hq : ((u : Int) / 144115188075855872 != 0) = false := by rw [bne_eq_false_iff_eq]; omega
              have hz2 : (z : Int) ≤ 255 := hz.2
              clear hz hV hm
              go_wp2_with (go_at_call 73; refine (next_some g _ l' e0 _ hR (by omega)).mono ?_; rintro e w2 ⟨rfl, h2, g2⟩)
              go_roundw
              case rel => exact ⟨z, u * 128 + z % 128, l', rfl, by go_num, by omega, by omega, h2, by omega, hB', hV', only_step hG g2 (fun k hk => .inl hk)⟩
              case measure => rw [h2.len, hR.len]; simp
            · have hv : r = (.error 10, l') := by
                rw [← hV.out]; unfold numLoop; rw [if_neg hlt]
                simp only [if_pos (show 144115188075855872 ≤ u by omega)]
              subst hv
              have hq : ((u : Int) / 144115188075855872 != 0) = true := by rw [bne_iff_ne]; omega
              clear hz hV hm
              go_wp2_with (go_at_call 73; refine (next_some g _ l' e0 _ hR (by omega)).mono ?_; rintro e w2 ⟨rfl, h2, g2⟩)
              exact ⟨rfl, rfl, h2, only_step hG g2 (fun k hk => .inl hk)⟩
end Go.Proofs.Ytcmpeohooiehcaa
