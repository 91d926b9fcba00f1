/- The reference's Reader: Text. -/
import Derived.Test.YtcmpeohooiehcaaRf5
namespace Go.Proofs.Ytcmpeohooiehcaa
open Go.RowKit
variable {lim : Nat}

theorem rfLen_bad {g : Nat} {l l' : List Int} {c e0 : Int} {w : World} (hr : ans lengthB l e0 = (.error c, l')) (h : Rdf lim w g l e0) (hb : bytesOk l) :
    Calls Try.prog 68 #[.pointer (some ⟨g, 0, none⟩)] w fun e w' => e = .returned (.int .i64 0) ∧ Rdf lim w' g l' c ∧ w.grownBy w' (some g) :=
  (rfLen_any g l e0 w h hb).mono fun e w' hp => by unfold RefPost at hp; rw [hr] at hp; exact hp
theorem rfLen_good {g : Nat} {l l' : List Int} {n e0 : Int} {w : World} (hr : ans lengthB l e0 = (.ok n, l')) (h : Rdf lim w g l e0) (hb : bytesOk l) :
    Calls Try.prog 68 #[.pointer (some ⟨g, 0, none⟩)] w fun e w' => e = .returned (.int .i64 n) ∧ Rdf lim w' g l' 0 ∧ w.grownBy w' (some g) :=
  (rfLen_any g l e0 w h hb).mono fun e w' hp => by
    unfold RefPost at hp; rw [hr] at hp
    obtain ⟨⟨v, h1, h2⟩, h3⟩ := hp
    exact ⟨by rw [h1, show v = _ from h2], h3⟩
theorem ansL_err {l l' : List Int} {c e0 : Int} (hr : ans lengthB l e0 = (.error c, l')) : ¬ c = 0 ∧ ans textB l e0 = (.error c, l') ∧ ans intsB l e0 = (.error c, l') := by
  unfold ans at hr ⊢
  by_cases he : e0 = 0
  · rw [if_pos he] at hr ⊢
    rw [if_pos he]
    refine ⟨?_, by unfold textB; rw [hr], by unfold intsB; rw [hr]⟩
    unfold lengthB at hr
    rcases hn : number l with ⟨c' | m, r⟩
    · rw [hn] at hr; cases hr
      have := number_errs l c l' hn; omega
    · rw [hn] at hr; simp only at hr
      split at hr
      · cases hr; omega
      · cases hr
  · rw [if_neg he] at hr ⊢
    rw [if_neg he]
    cases hr
    exact ⟨he, rfl, rfl⟩
theorem ansL_ok {l l' : List Int} {n e0 : Int} (hr : ans lengthB l e0 = (.ok n, l')) : e0 = 0 ∧ lengthB l = (.ok n, l') := by
  unfold ans at hr
  by_cases he : e0 = 0
  · rw [if_pos he] at hr; exact ⟨he, hr⟩
  · rw [if_neg he] at hr; cases hr

set_option maxRecDepth 100000 in
theorem rfText_any (g : Nat) (l : List Int) (e0 : Int) (w : World) (h : Rdf lim w g l e0) (hb : bytesOk l) :
    Calls Try.prog 58 #[.pointer (some ⟨g, 0, none⟩)] w (RefPost lim strOf (.string { data := #[] }) w g (ans textB l e0)) := by
  rcases hn : ans lengthB l e0 with ⟨c | n, l'⟩
  · obtain ⟨hc, ha, _⟩ := ansL_err hn
    rw [ha]
    have HN := Lib.hid (rfLen_bad hn h hb)
    have hq : (c == 0) = false := by rw [beq_eq_false_iff_ne]; exact hc
    have hq2 : (c != 0) = true := by rw [bne_iff_ne]; exact hc
    clear hn ha h hb
    go_enter Try.func58, Try.ntmps58
    go_wp2_with fail
    refine (HN.out).mono ?_
    rintro e w1 ⟨rfl, h1, g1⟩
    have H := Lib.hid h1
    obtain ⟨A, cc, full, p, hg, _⟩ := h1
    have c2 : w1.cell? ⟨g, 2, none⟩ = some (.int .i64 c) := by simp [World.cell?, hg]
    clear hg
    go_wp2_with fail
    go_quiet (fail)
    go_wp2_with fail
    go_ret
    exact ⟨rfl, H.out, only_drewN g1 _⟩
  · obtain ⟨rfl, hok⟩ := ansL_ok hn
    have hbd := lengthB_bd l n l' hok
    obtain ⟨k, rfl⟩ : ∃ k : Nat, n = k := ⟨n.toNat, by omega⟩
    have HN := Lib.hid (rfLen_good hn h hb)
    have ha : ans textB l 0 = if l'.length < k then (.error 8, l') else (.ok (l'.take k), l'.drop k) := by
      unfold ans; rw [if_pos rfl]; unfold textB; rw [hok]; simp
    clear h hb hn hok
    by_cases hbad : l'.length < k
    · rw [ha, if_pos hbad]
      clear ha
      go_enter Try.func58, Try.ntmps58
      go_wp2_with fail
      refine (HN.out).mono ?_
      rintro e w1 ⟨rfl, h1, g1⟩
      have HS : ∀ n, Hid (Rdf lim ((w1.drewN n).setCell ⟨g, 2, none⟩ (.int .i64 8)) g l' 8 ∧ (w1.drewN n).grownBy ((w1.drewN n).setCell ⟨g, 2, none⟩ (.int .i64 8)) (some g)) := fun n =>
        Rdf.set2 (show Rdf lim (w1.drewN n) g l' 0 from h1) 8
      obtain ⟨A, cc, full, p, hg, _, hp, hd, _, _⟩ := h1
      have c0 : w1.cell? ⟨g, 0, none⟩ = some (.slice A full.length cc) := by simp [World.cell?, hg]
      have c1 : w1.cell? ⟨g, 1, none⟩ = some (.int .i64 p) := by simp [World.cell?, hg]
      have c2 : w1.cell? ⟨g, 2, none⟩ = some (.int .i64 0) := by simp [World.cell?, hg]
      have f2 : w1.frozen? ⟨g, 2, none⟩ = false := by simp [World.frozen?, hg]
      have hll : l'.length = full.length - p := by rw [← hd, List.length_drop]
      have ht : (full.length : Int) - (p : Int) < (k : Int) := by omega
      clear hg hd hll
      go_wp2_with fail
      go_quiet (fail)
      go_wp2_with fail
      go_ret
      exact ⟨rfl, (HS _).out.1, only_step (only_drewN g1 _) (HS _).out.2 (fun _ h => .inl h)⟩
    · rw [ha, if_neg hbad]
      clear ha
      go_enter Try.func58, Try.ntmps58
      go_wp2_with fail
      refine (HN.out).mono ?_
      rintro e w1 ⟨rfl, h1, g1⟩
      obtain ⟨A, cc, full, p, hg, ha, hp, hd, hc, hf, hlg⟩ := h1
      have c0 : w1.cell? ⟨g, 0, none⟩ = some (.slice A full.length cc) := by simp [World.cell?, hg]
      have c1 : w1.cell? ⟨g, 1, none⟩ = some (.int .i64 p) := by simp [World.cell?, hg]
      have c2 : w1.cell? ⟨g, 2, none⟩ = some (.int .i64 0) := by simp [World.cell?, hg]
      have f1 : w1.frozen? ⟨g, 1, none⟩ = false := by simp [World.frozen?, hg]
      have hll : l'.length = full.length - p := by rw [← hd, List.length_drop]
      have ht : ¬ (full.length : Int) - (p : Int) < (k : Int) := by omega
      have hpk : p + k ≤ full.length := by omega
      have HS : ∀ n, Hid (Rdf lim ((w1.drewN n).setCell ⟨g, 1, none⟩ (.int .i64 ((p : Int) + k))) g (l'.drop k) 0 ∧ (w1.drewN n).grownBy ((w1.drewN n).setCell ⟨g, 1, none⟩ (.int .i64 ((p : Int) + k))) (some g)) := fun n => by
        have h := Rdf.set1 (w := w1.drewN n) (l := l'.drop k) (e := 0) hg ha hc hf hlg (p + k) hpk (by rw [← hd, List.drop_drop])
        exact h
      have hes : IntKind.i64.wrap ((p : Int) + k) = (p : Int) + k := by rw [IntKind.wrap_i64]; omega
      have hes2 : IntKind.i64.wrap ((p : Int) + k - k) = (p : Int) := by rw [IntKind.wrap_i64]; omega
      have HC : ∀ n m, Hid (Has (((w1.drewN n).setCell ⟨g, 1, none⟩ (.int .i64 ((p : Int) + k))).drewN m) lim (A.map (·.add p)) (bs (l'.take k))) := fun n m => by
        have h := (ha.drop p).take k
        rw [hd] at h
        have h2 : Has (w1.drewN n) lim (A.map (·.add p)) ((bs l').take k) := h
        have h3 := h2.keep (w' := (w1.drewN n).setCell ⟨g, 1, none⟩ (.int .i64 ((p : Int) + k))) (fun p hp => World.cell?_setCell_other _ _ _ _ (fun e => by subst e; have h9 : g < lim := hp; omega))
        unfold Hid
        rw [bs, List.map_take]
        exact h3
      have hlk : (l'.take k).length = k := by rw [List.length_take]; omega
      have k0 : ∀ n, ((w1.drewN n).setCell ⟨g, 1, none⟩ (.int .i64 ((p : Int) + k))).cell? ⟨g, 0, none⟩ = some (.slice A full.length cc) := fun n =>
        (World.cell?_setCell_other _ _ _ _ (by simp)).trans c0
      have k1 : ∀ n, ((w1.drewN n).setCell ⟨g, 1, none⟩ (.int .i64 ((p : Int) + k))).cell? ⟨g, 1, none⟩ = some (.int .i64 ((p : Int) + k)) := fun n =>
        World.cell?_setCell_same' _ _ _ (by rw [show (w1.drewN n).cell? ⟨g, 1, none⟩ = _ from c1]; rfl)
      have b1 : (0 : Int) ≤ (p : Int) := by omega
      have b2 : (p : Int) ≤ (p : Int) + (k : Int) := by omega
      have b3 : (p : Int) + (k : Int) ≤ (cc : Int) := by omega
      clear hg ha hd hll
      by_cases hpc : cc = p
      · have hk0 : k = 0 := by omega
        subst hk0
        subst hpc
        have hcv : ∀ W : World, (convert 35 9 (.slice A 0 0)).run Try.prog W = .ok (.string (strOfNums [])) W := fun W => conv_string (w := W) (lim := 0) (l := []) (.inl rfl) 0
        clear HC hlk
        rw [List.take_zero]
        go_wp2_with fail
        go_quiet (fail)
        go_wp2_with fail
        go_quiet (fail)
        go_wp2_with fail
        go_ret
        exact ⟨⟨_, rfl, rfl⟩, (HS _).out.1, only_drewN (only_step (only_drewN g1 _) (HS _).out.2 (fun _ h => .inl h)) _⟩
      · have hcv : ∀ n m, (convert 35 9 (.slice (A.map (·.add p)) k (cc - p))).run Try.prog (((w1.drewN n).setCell ⟨g, 1, none⟩ (.int .i64 ((p : Int) + k))).drewN m) = .ok (.string (strOfNums (l'.take k))) (((w1.drewN n).setCell ⟨g, 1, none⟩ (.int .i64 ((p : Int) + k))).drewN m) := fun n m => by
          have h := conv_string (HC n m).out (cc - p)
          rw [hlk] at h
          exact h
        have hpc' : ¬ p = cc := fun e => hpc e.symm
        clear HC hlk
        go_wp2_with fail
        go_quiet (fail)
        go_wp2_with fail
        go_quiet (fail)
        go_wp2_with fail
        go_ret
        exact ⟨⟨_, rfl, rfl⟩, (HS _).out.1, only_drewN (only_step (only_drewN g1 _) (HS _).out.2 (fun _ h => .inl h)) _⟩
end Go.Proofs.Ytcmpeohooiehcaa
