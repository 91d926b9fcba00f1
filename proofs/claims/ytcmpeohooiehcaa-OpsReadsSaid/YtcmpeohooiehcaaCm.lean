/- The Reader's methods as its callers see them: Int, Text, Ints, Fail, End and New, by the bytes that are left and the error that stands. -/
import Derived.Test.YtcmpeohooiehcaaCd
import Derived.BigQuiet
import Derived.Deep.QuietTactic
namespace Go.Proofs.Ytcmpeohooiehcaa
open Go.RowKit

/-- What a step answers on a Reader in whatever state. -/
def ans {α : Type} (f : List Int → Except Int α × List Int) (l : List Int) (e : Int) : Except Int α × List Int := if e = 0 then f l else (.error e, l)

set_option maxRecDepth 100000 in
theorem rInt_any (g : Nat) (l : List Int) (e0 : Int) (w : World) (h : Rdr w g l e0) (hl : l.length ≤ 1099511627776) (hb : bytesOk l) :
    Calls Try.prog 53 #[.pointer (some ⟨g, 0, none⟩)] w (ReadPost (numOf) (.int .i64 0) w g (ans number l e0)) := by
  have hmf : ∀ (fn : Fn) (first cap : Array Value) (w : World), (Instr.makeFunc fn first cap).run Try.prog w = .ok (.func fn first cap) w := fun _ _ _ _ => rfl
  by_cases he : e0 = 0
  · subst he
    have ha : ans number l 0 = number l := rfl
    rw [ha]
    have H := Lib.hid h
    have HB := Lib.hid hb
    clear h hb ha
    go_enter Try.func53, Try.ntmps53
    go_wp2_with fail
    refine (read_int g l _ H.out hl HB.out).mono ?_
    intro e w1 hp
    obtain ⟨v, rfl⟩ : ∃ v, e = .returned v := by
      unfold ReadPost at hp
      split at hp
      · exact ⟨_, hp.1.choose_spec.1⟩
      · exact ⟨_, hp.1⟩
    have HP := Lib.hid hp
    clear hp
    go_wp2_with fail
    go_ret
    exact HP.out
  · have ha : ans number l e0 = (.error e0, l) := if_neg he
    rw [ha]
    have H := Lib.hid h
    clear h ha
    go_enter Try.func53, Try.ntmps53
    go_wp2_with fail
    refine (read_int_err g l e0 _ _ H.out he).mono ?_
    rintro e w1 ⟨rfl, hR, hg⟩
    have HP : Hid (ReadPost (α := Int) (numOf) (.int .i64 0) w g (.error e0, l) (.returned (.int .i64 0)) w1) := ⟨rfl, hR, only_none hg _⟩
    clear hR hg he
    go_wp2_with fail
    go_ret
    exact HP.out

set_option maxRecDepth 100000 in
theorem rText_any (g : Nat) (l : List Int) (e0 : Int) (w : World) (h : Rdr w g l e0) (hl : l.length ≤ 1099511627776) (hb : bytesOk l) :
    Calls Try.prog 54 #[.pointer (some ⟨g, 0, none⟩)] w (ReadPost (strOf) (.string { data := #[] }) w g (ans textB l e0)) := by
  have hmf : ∀ (fn : Fn) (first cap : Array Value) (w : World), (Instr.makeFunc fn first cap).run Try.prog w = .ok (.func fn first cap) w := fun _ _ _ _ => rfl
  by_cases he : e0 = 0
  · subst he
    have ha : ans textB l 0 = textB l := rfl
    rw [ha]
    have H := Lib.hid h
    have HB := Lib.hid hb
    clear h hb ha
    go_enter Try.func54, Try.ntmps54
    go_wp2_with fail
    refine (read_text g l _ H.out hl HB.out).mono ?_
    intro e w1 hp
    obtain ⟨v, rfl⟩ : ∃ v, e = .returned v := by
      unfold ReadPost at hp
      split at hp
      · exact ⟨_, hp.1.choose_spec.1⟩
      · exact ⟨_, hp.1⟩
    have HP := Lib.hid hp
    clear hp
    go_wp2_with fail
    go_ret
    exact HP.out
  · have ha : ans textB l e0 = (.error e0, l) := if_neg he
    rw [ha]
    have H := Lib.hid h
    clear h ha
    go_enter Try.func54, Try.ntmps54
    go_wp2_with fail
    refine (read_text_err g l e0 _ _ H.out he).mono ?_
    rintro e w1 ⟨rfl, hR, hg⟩
    have HP : Hid (ReadPost (α := (List Int)) (strOf) (.string { data := #[] }) w g (.error e0, l) (.returned (.string { data := #[] })) w1) := ⟨rfl, hR, only_none hg _⟩
    clear hR hg he
    go_wp2_with fail
    go_ret
    exact HP.out

def failOf (e0 f : Int) : Int := if e0 = 0 then f else e0
theorem failOf_ne {e0 f : Int} (h : ¬ e0 = 0) : failOf e0 f = e0 := if_neg h
theorem failOf_zero (f : Int) : failOf 0 f = f := rfl
set_option maxRecDepth 100000 in
theorem fail_any (g : Nat) (l : List Int) (e0 f : Int) (w : World) (h : Rdr w g l e0) :
    Calls Try.prog 67 #[.pointer (some ⟨g, 0, none⟩), .int .i64 f] w fun e w' => e = .returned (.tuple #[]) ∧ Rdr w' g l (failOf e0 f) ∧ w.grownBy w' (some g) := by
  obtain ⟨A, k, hg, ha, hc⟩ := id h
  have c1 : w.cell? ⟨g, 1, none⟩ = some (.int .i64 e0) := by simp [World.cell?, hg]
  have f1 : w.frozen? ⟨g, 1, none⟩ = false := by simp [World.frozen?, hg]
  have keep : Hid (Rdr (w.setCell ⟨g, 1, none⟩ (.int .i64 f)) g l f ∧ w.grownBy (w.setCell ⟨g, 1, none⟩ (.int .i64 f)) (some g)) :=
    ⟨⟨A, k, by rw [heap_set hg]; rfl, ha.keep (fun p hp => World.cell?_setCell_other _ _ _ _ (fun e => by subst e; simp at hp)), hc⟩, only_set (only_refl _ _) (.inl rfl) _⟩
  have H := Lib.hid h
  clear hg ha hc h
  by_cases he : e0 = 0
  · subst he
    have hv : failOf 0 f = f := rfl
    rw [hv]
    clear hv
    go_enter Try.func67, Try.ntmps67
    go_wp2_with fail
    go_end0
    exact ⟨rfl, keep.out⟩
  · have hv : failOf e0 f = e0 := if_neg he
    rw [hv]
    have hq : (e0 == 0) = false := by rw [beq_eq_false_iff_ne]; exact he
    clear hv he
    go_enter Try.func67, Try.ntmps67
    go_wp2_with fail
    go_end0
    exact ⟨rfl, H.out, only_refl _ _⟩

/-- What End tells. -/
def endOf (l : List Int) (e : Int) : Int := if e = 0 ∧ 0 < l.length then 9 else e
set_option maxRecDepth 100000 in
theorem end_any (g : Nat) (l : List Int) (e0 : Int) (w : World) (h : Rdr w g l e0) (hl : l.length ≤ 1099511627776) :
    Calls Try.prog 41 #[.pointer (some ⟨g, 0, none⟩)] w fun e w' => e = .returned (.int .i64 (endOf l e0)) ∧ w = w' := by
  obtain ⟨A, k, hg, ha, hc⟩ := id h
  have c1 : w.cell? ⟨g, 1, none⟩ = some (.int .i64 e0) := by simp [World.cell?, hg]
  have c0 : w.cell? ⟨g, 0, none⟩ = some (.slice A l.length k) := by simp [World.cell?, hg]
  clear hg ha hc h
  by_cases he : e0 = 0
  · subst he
    by_cases h0 : 0 < l.length
    · have hv : endOf l 0 = 9 := by simp [endOf, h0]
      rw [hv]
      have hq : decide (0 < l.length) = true := by simpa using h0
      have hq2 : (0 : Int) < (l.length : Int) := by omega
      clear hv
      go_enter Try.func41, Try.ntmps41
      go_wp2_with fail
      go_ret
      exact ⟨rfl, rfl⟩
    · have hv : endOf l 0 = 0 := by simp [endOf, h0]
      rw [hv]
      have hq : decide (0 < l.length) = false := by simpa using h0
      have hq2 : ¬ (0 : Int) < (l.length : Int) := by omega
      clear hv
      go_enter Try.func41, Try.ntmps41
      go_wp2_with fail
      go_ret
      exact ⟨rfl, rfl⟩
  · have hv : endOf l e0 = e0 := by simp [endOf, he]
    rw [hv]
    have hq : (e0 == 0) = false := by rw [beq_eq_false_iff_ne]; exact he
    clear hv he
    go_enter Try.func41, Try.ntmps41
    go_wp2_with fail
    go_ret
    exact ⟨rfl, rfl⟩

set_option maxRecDepth 100000 in
theorem new_any (A : Option Addr) (c : Nat) (l : List Int) (w : World) (h : Has w w.heap.size A (bs l)) (hl : l.length ≤ 1099511627776) :
    Calls Try.prog 38 #[.slice A l.length c] w fun e w' => ∃ g, e = .returned (.pointer (some ⟨g, 0, none⟩)) ∧ Rdr w' g l 0 ∧ w.heap.size ≤ g ∧ w.grownBy w' none := by
  go_enter Try.func38, Try.ntmps38
  go_wp2_with fail
  have hf := fresh_any A c (bs l) w h (bs_one l) (by rw [bs_len]; exact hl)
  rw [bs_len] at hf
  refine hf.mono ?_
  rintro e w1 ⟨v1, rfl, g1⟩
  clear hf
  obtain ⟨A1, c1, rfl⟩ := own_slice g1.own
  have hlc : l.length ≤ c1 := by
    rcases g1.own.2 with ⟨h, h0⟩ | ⟨q, cap, cur, h, _, _, hn, _⟩
    · rw [bs_len] at h0; omega
    · rw [bs_len] at h; simp at h; rw [bs_len] at hn; omega
  have hH := Lib.hid (Has.own g1.own)
  have hG := Lib.hid (g1.none rfl)
  rw [bs_len]
  clear g1 h
  go_wp2_with fail
  go_ret
  refine ⟨_, rfl, ⟨A1, c1, heap_alloc_new _ _, (hH.out.keep (fun p hp => World.cell?_alloc_lt _ _ _ hp)), hlc⟩, hG.out.size, only_alloc hG.out _⟩
end Go.Proofs.Ytcmpeohooiehcaa
