/- Contract of frames.One. Asked of the world: the table's cells. -/
import Derived.Test.YtpfahfakinonnaaDoorGon
namespace Go.Proofs.YtpfahfakinonnaaDoor
open Go.RowKit Go.ChangeShapes

/-- What One hands back beside its error. -/
def OneV (w w' : World) (l : List Int) (v : Value) : Prop := if oneE l = 0 then w'.ownsRow w.heap.size 5 1 v (bs (recP l)).length (bs (recP l)) else v = .slice none 0 0
theorem OneV.bad {w w' : World} {l : List Int} (h : oneE l ≠ 0) : OneV w w' l (.slice none 0 0) := by unfold OneV; rw [if_neg h]
set_option maxRecDepth 100000 in
set_option maxHeartbeats 1000000 in
theorem one_any (A : Option Addr) (c : Nat) (l : List Int) (w : World) (h : Has w w.heap.size A (bs l)) (hb : ∀ x ∈ l, 0 ≤ x ∧ x ≤ 255) (hl : l.length ≤ 1099511627776) (hc : l.length ≤ c) (hT : Tab w) :
    Calls Tryd.prog 33 #[.slice A l.length c] w fun e w' => ∃ v, e = .returned (.tuple #[v, .int .i64 (oneE l)]) ∧ OneV w w' l v ∧ w.grownBy w' none := by
  have F1 := Lib.hid (first_any A c l w h hb hl hc hT)
  by_cases e8 : firstE l = 8
  · have eO : oneE l = 8 := by unfold oneE; rw [if_pos (.inl e8), e8]
    rw [e8] at F1
    rw [eO]
    have EO := Lib.hid eO
    have E8 := Lib.hid e8
    clear e8 eO h hb hT
    go_enter Tryd.func33, Tryd.ntmps33
    go_wp2_with fail
    refine F1.out.mono ?_
    rintro _ w1 ⟨v, rfl, hv, g1⟩
    go_wp2_with fail
    go_ret2
    exact ⟨_, rfl, OneV.bad (by rw [EO.out]; decide), g1⟩
  · by_cases e5 : firstE l = 5
    · have eO : oneE l = 5 := by unfold oneE; rw [if_pos (.inr e5), e5]
      rw [e5] at F1
      rw [eO]
      have EO := Lib.hid eO
      clear e8 e5 eO h hb hT
      go_enter Tryd.func33, Tryd.ntmps33
      go_wp2_with fail
      refine F1.out.mono ?_
      rintro _ w1 ⟨v, rfl, hv, g1⟩
      go_wp2_with fail
      go_ret2
      exact ⟨_, rfl, OneV.bad (by rw [EO.out]; decide), g1⟩
    · obtain ⟨l1, l2, l3⟩ := firstE_long e8 e5
      have W1 : ∀ w', w.grownBy w' none → Hid (Calls Tryd.prog 53 #[.slice A l.length c] w' fun e w2 => e = .returned (.int .u32 (rd4 l)) ∧ w' = w2) := fun w' hg =>
        word_any A l.length c l rfl w' ((h.only hg (Nat.le_refl _) (fun _ h => by cases h)).more hg.size) hb (by omega)
      obtain ⟨n, hn⟩ : ∃ n, n = rd4 l := ⟨_, rfl⟩
      rw [← hn] at W1 l2 l3
      have v1 : IntKind.i64.wrap (n : Int) = (n : Int) := by rw [IntKind.wrap_i64]; omega
      have v2 : IntKind.i64.wrap (8 + (n : Int)) = 8 + (n : Int) := by rw [IntKind.wrap_i64]; omega
      by_cases hm : 8 + n < l.length
      · have t1 : 8 + (n : Int) < (l.length : Int) := by omega
        have eO : oneE l = 9 := by unfold oneE; rw [if_neg (by rintro (h | h); exact e8 h; exact e5 h), if_pos (by omega)]
        rw [eO]
        have EO := Lib.hid eO
        obtain ⟨f, hf⟩ : ∃ f, f = firstE l := ⟨_, rfl⟩
        rw [← hf] at F1
        have f8 : (f == 8) = false := by rw [beq_eq_false_iff_ne, hf]; exact e8
        have f5 : (f == 5) = false := by rw [beq_eq_false_iff_ne, hf]; exact e5
        clear e8 e5 eO h hb hT hn hf l1 l2 l3 hm
        go_enter Tryd.func33, Tryd.ntmps33
        go_wp2_with fail
        refine F1.out.mono ?_
        rintro _ w1 ⟨v, rfl, hv, g1⟩
        have HV := Lib.hid hv
        clear hv
        go_wp2_with fail
        refine (W1 _ g1).out.mono ?_
        rintro _ w2 ⟨rfl, rfl⟩
        go_wp2_with fail
        go_ret2
        exact ⟨_, rfl, OneV.bad (by rw [EO.out]; decide), g1⟩
      · have t1 : ¬ 8 + (n : Int) < (l.length : Int) := by omega
        have eO : oneE l = firstE l := by unfold oneE; rw [if_neg (by rintro (h | h); exact e8 h; exact e5 h), if_neg (by omega)]
        rw [eO]
        have EO := Lib.hid eO
        rcases (show firstE l = 0 ∨ firstE l = 10 by rcases firstE_in l with h | h | h | h; exact absurd h e8; exact absurd h e5; exact .inl h; exact .inr h) with e0 | e0
        · rw [e0] at F1 EO ⊢
          have RL := Lib.hid (recP_len l (by omega))
          have E0 := Lib.hid e0
          clear e8 e5 e0 eO h hb hT l1
          have HN := Lib.hid hn
          clear hn
          go_enter Tryd.func33, Tryd.ntmps33
          go_wp2_with fail
          refine F1.out.mono ?_
          rintro _ w1 ⟨v, rfl, hv, g1⟩
          unfold FirstV at hv
          rw [if_pos E0.out, ← HN.out] at hv
          obtain ⟨A', c', rfl, hc', hh⟩ := hv
          have hs : Hid (Src Tryd.prog 1 33 (.slice A' n c') (bs (recP l)).length (bs (recP l)) w1) := by
            have h := ((hh.only g1 (Nat.le_refl _) (fun _ h => by cases h)).more g1.size).src (P := Tryd.prog) (tx := 33) Tryd.underlying33 c' (bs_one _)
            rw [bs_len, RL.out, ← HN.out] at h
            rw [bs_len, RL.out, ← HN.out]
            exact h
          clear hh
          go_wp2_with fail
          refine (W1 _ g1).out.mono ?_
          rintro _ w2 ⟨rfl, rfl⟩
          have hlen : ([] : List Value).length + (bs (recP l)).length ≤ 70368744177664 := by rw [bs_len, RL.out, ← HN.out]; show 0 + n ≤ _; omega
          have hown : w1.ownsRow w.heap.size 5 1 (.slice none 0 0) ([] : List Value).length [] := World.ownsRow_nil w1 _ _ 1
          go_wp2_with (at_builtin; go_loud (refine app_bytes rfl _ _ 33 rfl w.heap.size (.slice none 0 0) [] rfl hown (.slice A' n c') (bs (recP l)) rfl hs.out hlen g1.size ?_); intro v4 w4' g4)
          rw [List.nil_append] at g4
          go_ret2
          refine ⟨_, rfl, ?_, only_step g1 (g4.none rfl) (fun _ h => by cases h)⟩
          unfold OneV
          rw [if_pos EO.out]
          exact g4.own
        · rw [e0] at F1 EO ⊢
          have HN := Lib.hid hn
          clear e8 e5 e0 eO h hb hT l1 hn
          go_enter Tryd.func33, Tryd.ntmps33
          go_wp2_with fail
          refine F1.out.mono ?_
          rintro _ w1 ⟨v, rfl, hv, g1⟩
          have HV := Lib.hid hv
          clear hv
          go_wp2_with fail
          refine (W1 _ g1).out.mono ?_
          rintro _ w2 ⟨rfl, rfl⟩
          go_wp2_with fail
          go_ret2
          exact ⟨_, rfl, OneV.bad (by rw [EO.out]; decide), g1⟩
end Go.Proofs.YtpfahfakinonnaaDoor
