/- The reference's Reader: Ints. -/
import Derived.Test.YtjcanlnnadnodaaReftx
namespace Go.Proofs.Ytjcanlnnadnodaa
open Go.RowKit
variable {lim : Nat}

set_option maxRecDepth 100000 in
set_option maxHeartbeats 1000000 in
theorem rfInts_any (g : Nat) (l : List Int) (e0 : Int) (w : World) (h : Rdf lim w g l e0) (hb : bytesOk l) :
    Calls Try.prog 28 #[.pointer (some ⟨g, 0, none⟩)] w (RefPost lim (listOf w.heap.size) (.slice none 0 0) w g (ans intsB l e0)) := by
  have hgl := h.lt
  have hlg : lim ≤ g := by obtain ⟨A, c, full, p, _, _, _, _, _, _, h⟩ := h; exact h
  rcases hn : ans lengthB l e0 with ⟨c | n, l'⟩
  · obtain ⟨hc, _, ha⟩ := ansL_err hn
    rw [ha]
    have HN := Lib.hid (rfLen_bad hn h hb)
    have hq2 : (c != 0) = true := by rw [bne_iff_ne]; exact hc
    clear hn ha h hb
    go_enter Try.func28, Try.ntmps28
    go_wp2_with fail
    refine (HN.out).mono ?_
    rintro e w1 ⟨rfl, h1, g1⟩
    have H := Lib.hid h1
    obtain ⟨A, cc, full, p, hg, _⟩ := h1
    have c2 : w1.cell? ⟨g, 2, none⟩ = some (.int .i64 c) := by simp [World.cell?, hg]
    clear hg
    go_wp2_with fail
    go_loopw [4, 5] (fun sv si wr => sv = .slice none 0 0 ∧ si = .int .i64 0 ∧ w1 = wr) (fun _ _ _ => 0)
    case atStart => exact ⟨rfl, rfl, rfl⟩
    case round =>
      obtain ⟨rfl, rfl, rfl⟩ := hrel
      go_wp2_with fail
      go_ret
      exact ⟨rfl, H.out, g1⟩
  · obtain ⟨rfl, hok⟩ := ansL_ok hn
    have hbd := lengthB_bd l n l' hok
    obtain ⟨p0, hp0⟩ := lengthB_suffix l
    rw [hok] at hp0
    have hbl : bytesOk l' := fun x hx => hb x (by rw [hp0]; simp [hx])
    obtain ⟨k, rfl⟩ : ∃ k : Nat, n = k := ⟨n.toNat, by omega⟩
    have HN := Lib.hid (rfLen_good hn h hb)
    have hL : ans intsB l 0 = numsB [] k l' := by unfold ans; rw [if_pos rfl]; unfold intsB; rw [hok]; simp
    rw [hL]
    obtain ⟨r, hr⟩ : ∃ r, numsB [] k l' = r := ⟨_, rfl⟩
    rw [hr]
    have HR := Lib.hid hr
    have HB := Lib.hid hbl
    have hk : k ≤ 65535 := by omega
    clear hn hL hp0 hr hb hbl hbd hok h
    go_enter Try.func28, Try.ntmps28
    go_wp2_with fail
    refine (HN.out).mono ?_
    rintro e w1 ⟨rfl, h1, g1⟩
    go_wp2_with fail
    go_loopw [4, 5] (fun sv si wr => ∃ (j : Nat) (acc l2 : List Int) (c : Int), j ≤ k ∧ si = .int .i64 j ∧ acc.length = j ∧ wr.ownsRow w.heap.size 3 1 sv acc.length (is acc) ∧ Rdf lim wr g l2 c ∧ Hid (bytesOk l2) ∧ w.grownBy wr (some g) ∧ Hid ((c = 0 ∧ numsB acc (k - j) l2 = r) ∨ (¬ c = 0 ∧ r = (.error c, l2))))
      (fun _ si _ => k - (intOf si).toNat)
    case atStart => exact ⟨0, [], l', 0, Nat.zero_le _, rfl, rfl, World.ownsRow_nil _ _ _ _, h1, HB, g1, .inl ⟨rfl, HR.out⟩⟩
    case round =>
      obtain ⟨j, acc, l2, c, hj, rfl, ha, ho, hR, hB, hG, hV⟩ := hrel
      have hsz := hG.size
      have H := Lib.hid hR
      have hc2 : wr.cell? ⟨g, 2, none⟩ = some (.int .i64 c) := by
        obtain ⟨A, cc, full, p, hg, _⟩ := hR
        simp [World.cell?, hg]
      clear hR
      rcases hV.out with ⟨rfl, hV1⟩ | ⟨hne, hV1⟩
      · by_cases hlt : j < k
        · have hlti : (j : Int) < (k : Int) := by omega
          have key : ∃ (m : Int) (l3 : List Int) (c3 : Int), Calls Try.prog 23 #[.pointer (some ⟨g, 0, none⟩)] wr (fun e w' => e = .returned (.int .i64 m) ∧ Rdf lim w' g l3 c3 ∧ wr.grownBy w' (some g)) ∧ bytesOk l3 ∧
              ((c3 = 0 ∧ numsB (acc ++ [m]) (k - (j + 1)) l3 = r) ∨ (¬ c3 = 0 ∧ r = (.error c3, l3))) := by
            rcases hn : number l2 with ⟨c3 | m, l3⟩
            all_goals
              obtain ⟨p, hp⟩ := number_suffix l2
              rw [hn] at hp
              have hb3 : bytesOk l3 := fun x hx => hB.out x (by rw [hp]; simp [hx])
              rw [show k - j = (k - (j + 1)) + 1 by omega] at hV1
              unfold numsB at hV1
              rw [hn] at hV1
            · have := number_errs l2 c3 l3 hn
              exact ⟨0, l3, c3, rfInt_bad (e0 := 0) (by unfold ans; rw [if_pos rfl]; exact hn) H.out hB.out, hb3, .inr ⟨by omega, hV1.symm⟩⟩
            · exact ⟨m, l3, 0, rfInt_good (e0 := 0) (by unfold ans; rw [if_pos rfl]; exact hn) H.out hB.out, hb3, .inl ⟨rfl, hV1⟩⟩
          obtain ⟨m, l3, c3, HN2, hb3, hV2⟩ := key
          have HN2 := Lib.hid HN2
          have HB3 := Lib.hid hb3
          have HV2 := Lib.hid hV2
          clear hV1 hV hb3 hV2
          go_wp2_with (first
            | (go_at_call 23; refine (HN2.out).mono ?_; rintro e w2 ⟨rfl, h2, g2⟩; have ho2 := ho.kept g2 (by
                 rcases ho.2 with ⟨h, _⟩ | ⟨q, _, _, h, hq, _⟩
                 · rw [h]; exact .inl rfl
                 · rw [h]; right; intro e; injection e with e; simp at e; omega); have hsz2 := g2.size; have hil := is_len acc)
            | (at_builtin; go_loud (refine app_ints rfl _ _ 23 rfl w.heap.size _ (is acc) rfl (by rw [is_len]; exact ho2.alloc _) (.slice (some ⟨w2.heap.size, 0, none⟩) 1 1) [.int .i64 m] rfl (src_one 23 3 Try.underlying23 _ _ rfl) (by rw [is_len]; simp only [List.length_singleton]; omega) (by simp; omega) ?_); intro v3 w3 g3))
          go_roundw
          case rel =>
            have e1 : is acc ++ [Value.int .i64 m] = is (acc ++ [m]) := by simp [is]
            have e2 : (is (acc ++ [m])).length = (acc ++ [m]).length := is_len _
            have go3 := g3.own
            rw [e1, e2] at go3
            refine ⟨j + 1, acc ++ [m], l3, c3, by omega, by go_num, by simp [ha], go3, ?_, HB3, ?_, HV2⟩
            · have h2a := h2.only (World.grownBy_alloc w2 (.cells #[.int .i64 m] 3) none) (fun _ h => by cases h)
              refine h2a.only g3.only (fun q hq => ?_)
              have := ho2.lt q hq; exact ⟨by omega, by omega⟩
            · exact only_step (only_alloc (only_step hG g2 (fun k hk => .inl hk)) _) g3.only (fun q hq => .inr (ho2.lt q hq).1)
          case measure => simp [intOf]; omega
        · have hlti : ¬ (j : Int) < (k : Int) := by omega
          have hjk : j = k := by omega
          have hv : r = (.ok acc, l2) := by rw [← hV1, hjk, Nat.sub_self]; rfl
          subst hv
          clear hV hV1
          go_wp2_with fail
          go_ret
          exact ⟨⟨_, rfl, ho⟩, H.out, hG⟩
      · subst hV1
        have hq : (c == 0) = false := by rw [beq_eq_false_iff_ne]; exact hne
        have hq2 : (c != 0) = true := by rw [bne_iff_ne]; exact hne
        clear hV
        by_cases hlt : j < k
        · have hlti : (j : Int) < (k : Int) := by omega
          go_wp2_with fail
          go_ret
          exact ⟨rfl, H.out, hG⟩
        · have hlti : ¬ (j : Int) < (k : Int) := by omega
          go_wp2_with fail
          go_ret
          exact ⟨rfl, H.out, hG⟩
end Go.Proofs.Ytjcanlnnadnodaa
