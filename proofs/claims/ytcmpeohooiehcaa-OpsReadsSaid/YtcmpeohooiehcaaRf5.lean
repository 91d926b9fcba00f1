/- The reference's Reader: length, Text. -/
import Derived.Test.YtcmpeohooiehcaaRf4
namespace Go.Proofs.Ytcmpeohooiehcaa
open Go.RowKit
variable {lim : Nat}

theorem rfInt_bad {g : Nat} {l l' : List Int} {c e0 : Int} {w : World} (hr : ans number l e0 = (.error c, l')) (h : Rdf lim w g l e0) (hb : bytesOk l) :
    Calls Try.prog 57 #[.pointer (some ⟨g, 0, none⟩)] w fun e w' => e = .returned (.int .i64 0) ∧ Rdf lim w' g l' c ∧ w.grownBy w' (some g) :=
  (rfInt_any g l e0 w h hb).mono fun e w' hp => by unfold RefPost at hp; rw [hr] at hp; exact hp
theorem rfInt_good {g : Nat} {l l' : List Int} {n e0 : Int} {w : World} (hr : ans number l e0 = (.ok n, l')) (h : Rdf lim w g l e0) (hb : bytesOk l) :
    Calls Try.prog 57 #[.pointer (some ⟨g, 0, none⟩)] w fun e w' => e = .returned (.int .i64 n) ∧ Rdf lim w' g l' 0 ∧ w.grownBy w' (some g) :=
  (rfInt_any g l e0 w h hb).mono fun e w' hp => by
    unfold RefPost at hp; rw [hr] at hp
    obtain ⟨⟨v, h1, h2⟩, h3⟩ := hp
    exact ⟨by rw [h1, show v = _ from h2], h3⟩
theorem ans_err {l l' : List Int} {c e0 : Int} (hr : ans number l e0 = (.error c, l')) : ¬ c = 0 ∧ ans lengthB l e0 = (.error c, l') := by
  unfold ans at hr ⊢
  by_cases he : e0 = 0
  · rw [if_pos he] at hr ⊢
    have := number_errs l c l' hr
    exact ⟨by omega, by unfold lengthB; rw [hr]⟩
  · rw [if_neg he] at hr ⊢
    cases hr
    exact ⟨he, rfl⟩
theorem ans_ok {l l' : List Int} {n e0 : Int} (hr : ans number l e0 = (.ok n, l')) : e0 = 0 ∧ number l = (.ok n, l') := by
  unfold ans at hr
  by_cases he : e0 = 0
  · rw [if_pos he] at hr; exact ⟨he, hr⟩
  · rw [if_neg he] at hr; cases hr

set_option maxRecDepth 100000 in
theorem rfLen_any (g : Nat) (l : List Int) (e0 : Int) (w : World) (h : Rdf lim w g l e0) (hb : bytesOk l) :
    Calls Try.prog 68 #[.pointer (some ⟨g, 0, none⟩)] w (RefPost lim numOf (.int .i64 0) w g (ans lengthB l e0)) := by
  rcases hn : ans number l e0 with ⟨c | n, l'⟩
  · obtain ⟨hc, ha⟩ := ans_err hn
    rw [ha]
    have HN := Lib.hid (rfInt_bad hn h hb)
    have hq : (c == 0) = false := by rw [beq_eq_false_iff_ne]; exact hc
    have hq2 : (c != 0) = true := by rw [bne_iff_ne]; exact hc
    clear hn ha h hb
    go_enter Try.func68, Try.ntmps68
    go_wp2_with fail
    refine (HN.out).mono ?_
    rintro e w1 ⟨rfl, h1, g1⟩
    have H := Lib.hid h1
    obtain ⟨A, cc, full, p, hg, _⟩ := h1
    have c2 : w1.cell? ⟨g, 2, none⟩ = some (.int .i64 c) := by simp [World.cell?, hg]
    clear hg
    go_wp2_with fail
    go_ret
    exact ⟨rfl, H.out, g1⟩
  · obtain ⟨rfl, hok⟩ := ans_ok hn
    have HN := Lib.hid (rfInt_good hn h hb)
    have ha : ans lengthB l 0 = if n < 0 ∨ 65535 < n then (.error 4, l') else (.ok n, l') := by
      unfold ans; rw [if_pos rfl]; unfold lengthB; rw [hok]
    clear h hb
    by_cases hbad : n < 0 ∨ 65535 < n
    · rw [ha, if_pos hbad]
      clear hn ha hok
      go_enter Try.func68, Try.ntmps68
      go_wp2_with fail
      refine (HN.out).mono ?_
      rintro e w1 ⟨rfl, h1, g1⟩
      have HS := Lib.hid (h1.set2 4)
      obtain ⟨A, cc, full, p, hg, _⟩ := h1
      have c2 : w1.cell? ⟨g, 2, none⟩ = some (.int .i64 0) := by simp [World.cell?, hg]
      have f2 : w1.frozen? ⟨g, 2, none⟩ = false := by simp [World.frozen?, hg]
      clear hg
      by_cases h0 : n < 0
      · go_wp2_with fail
        go_ret
        exact ⟨rfl, HS.out.1, only_step g1 HS.out.2 (fun _ h => .inl h)⟩
      · have h5 : (65535 : Int) < n := by omega
        go_wp2_with fail
        go_ret
        exact ⟨rfl, HS.out.1, only_step g1 HS.out.2 (fun _ h => .inl h)⟩
    · rw [ha, if_neg hbad]
      have h0 : ¬ n < 0 := by omega
      have h5 : ¬ (65535 : Int) < n := by omega
      clear hn ha hok hbad
      go_enter Try.func68, Try.ntmps68
      go_wp2_with fail
      refine (HN.out).mono ?_
      rintro e w1 ⟨rfl, h1, g1⟩
      have H := Lib.hid h1
      obtain ⟨A, cc, full, p, hg, _⟩ := h1
      have c2 : w1.cell? ⟨g, 2, none⟩ = some (.int .i64 0) := by simp [World.cell?, hg]
      clear hg
      go_wp2_with fail
      go_ret
      exact ⟨⟨_, rfl, rfl⟩, H.out, g1⟩
end Go.Proofs.Ytcmpeohooiehcaa
