/- The reference's Reader: Int, Fail, End, New, length, in whatever state. -/
import Derived.Test.YtcmpeohooiehcaaRf3
namespace Go.Proofs.Ytcmpeohooiehcaa
open Go.RowKit
variable {lim : Nat}

theorem rfInt_any (g : Nat) (l : List Int) (e0 : Int) (w : World) (h : Rdf lim w g l e0) (hb : bytesOk l) :
    Calls Try.prog 57 #[.pointer (some ⟨g, 0, none⟩)] w (RefPost lim numOf (.int .i64 0) w g (ans number l e0)) := by
  by_cases he : e0 = 0
  · subst he
    exact rfInt_ok g l w h hb
  · have ha : ans number l e0 = (.error e0, l) := if_neg he
    rw [ha]
    exact (rfInt_err g l e0 w h he).mono fun e w' hp => ⟨hp.1, hp.2.1, only_none hp.2.2 _⟩

set_option maxRecDepth 100000 in
theorem rfFail_any (g : Nat) (l : List Int) (e0 f : Int) (w : World) (h : Rdf lim w g l e0) :
    Calls Try.prog 59 #[.pointer (some ⟨g, 0, none⟩), .int .i64 f] w fun e w' => e = .returned (.tuple #[]) ∧ Rdf lim w' g l (failOf e0 f) ∧ w.grownBy w' (some g) := by
  have H := Lib.hid h
  have HS := Lib.hid (h.set2 f)
  obtain ⟨A, c, full, p, hg, _⟩ := h
  have c2 : w.cell? ⟨g, 2, none⟩ = some (.int .i64 e0) := by simp [World.cell?, hg]
  have f2 : w.frozen? ⟨g, 2, none⟩ = false := by simp [World.frozen?, hg]
  clear hg
  by_cases he : e0 = 0
  · subst he
    have hv : failOf 0 f = f := rfl
    rw [hv]
    clear hv
    go_enter Try.func59, Try.ntmps59
    go_wp2_with fail
    go_end0
    exact ⟨rfl, HS.out⟩
  · have hv : failOf e0 f = e0 := if_neg he
    rw [hv]
    have hq : (e0 == 0) = false := by rw [beq_eq_false_iff_ne]; exact he
    clear hv he
    go_enter Try.func59, Try.ntmps59
    go_wp2_with fail
    go_end0
    exact ⟨rfl, H.out, only_refl _ _⟩

set_option maxRecDepth 100000 in
theorem rfEnd_any (g : Nat) (l : List Int) (e0 : Int) (w : World) (h : Rdf lim w g l e0) :
    Calls Try.prog 44 #[.pointer (some ⟨g, 0, none⟩)] w fun e w' => e = .returned (.int .i64 (endOf l e0)) ∧ Rdf lim w' g l e0 ∧ w.grownBy w' none := by
  have H := Lib.hid h
  obtain ⟨A, c, full, p, hg, ha, hp, hd, hc, hf, hlg⟩ := h
  have c0 : w.cell? ⟨g, 0, none⟩ = some (.slice A full.length c) := by simp [World.cell?, hg]
  have c1 : w.cell? ⟨g, 1, none⟩ = some (.int .i64 p) := by simp [World.cell?, hg]
  have c2 : w.cell? ⟨g, 2, none⟩ = some (.int .i64 e0) := by simp [World.cell?, hg]
  have hll : l.length = full.length - p := by rw [← hd, List.length_drop]
  clear hg ha hd
  by_cases he : e0 = 0
  · subst he
    by_cases h0 : p < full.length
    · have hv : endOf l 0 = 9 := by unfold endOf; rw [if_pos ⟨rfl, by omega⟩]
      rw [hv]
      have hq2 : (p : Int) < (full.length : Int) := by omega
      clear hv hll
      go_enter Try.func44, Try.ntmps44
      go_wp2_with fail
      go_quiet (fail)
      go_wp2_with fail
      go_ret
      exact ⟨rfl, H.out, only_drewN (only_refl _ _) _⟩
    · have hv : endOf l 0 = 0 := by unfold endOf; rw [if_neg (by omega)]
      rw [hv]
      have hq2 : ¬ (p : Int) < (full.length : Int) := by omega
      clear hv hll
      go_enter Try.func44, Try.ntmps44
      go_wp2_with fail
      go_quiet (fail)
      go_wp2_with fail
      go_ret
      exact ⟨rfl, H.out, only_drewN (only_refl _ _) _⟩
  · have hv : endOf l e0 = e0 := by simp [endOf, he]
    rw [hv]
    have hq : (e0 == 0) = false := by rw [beq_eq_false_iff_ne]; exact he
    clear hv he hll
    go_enter Try.func44, Try.ntmps44
    go_wp2_with fail
    go_quiet (fail)
    go_wp2_with fail
    go_ret
    exact ⟨rfl, H.out, only_drewN (only_refl _ _) _⟩

set_option maxRecDepth 100000 in
theorem rfNew_any (A : Option Addr) (c : Nat) (l : List Int) (w : World) (h : Has w w.heap.size A (bs l)) (hc : l.length ≤ c) (hl : l.length ≤ 1099511627776) :
    Calls Try.prog 42 #[.slice A l.length c] w fun e w' => ∃ g, e = .returned (.pointer (some ⟨g, 0, none⟩)) ∧ Rdf w.heap.size w' g l 0 ∧ w.heap.size ≤ g ∧ w.grownBy w' none := by
  have H := Lib.hid h
  clear h
  go_enter Try.func42, Try.ntmps42
  go_wp2_with fail
  go_ret
  exact ⟨_, rfl, ⟨A, c, l, 0, heap_alloc_new _ _, (H.out.keep (fun p hp => World.cell?_alloc_lt _ _ _ hp)), Nat.zero_le _, rfl, hc, hl, Nat.le_refl _⟩, Nat.le_refl _, World.grownBy_alloc _ _ none⟩
end Go.Proofs.Ytcmpeohooiehcaa
