/- journal.Open of any disk, in one contract. Conditions: the disk's numbers stay below 2^40. -/
import Derived.Test.YtpfahfakinonnaaDoorJ1
import Derived.Test.YtpfahfakinonnaaDoorJ2
namespace Go.Proofs.YtpfahfakinonnaaDoor
open Go.RowKit Go.Deep
set_option maxRecDepth 100000 in
set_option maxHeartbeats 1000000 in
theorem open_dead (B g : Nat) (d : DS) (w : World) (h : Dk w B g d) (hd : d.dd = true) :
    Calls Tryd.prog 12 #[.pointer (some ⟨g, 0, none⟩)] w fun e w' => e = .returned (.tuple #[.pointer none, .slice none 0 0, .slice none 0 0, .int .i64 18]) ∧ w.grownBy w' none := by
  have hmf : ∀ (fn : Fn) (first cap : Array Value) (w : World), (Instr.makeFunc fn first cap).run Tryd.prog w = .ok (.func fn first cap) w := fun _ _ _ _ => rfl
  obtain ⟨V, hV⟩ : ∃ V, (((w.alloc (.cells #[.pointer none] 32)).alloc (.cells #[.slice none 0 0] 33)).alloc (.cells #[.slice none 0 0] 34)).alloc (.cells #[.int .i64 0] 26) = V := ⟨_, rfl⟩
  obtain ⟨d2, d3, d4, d5, gV, sV⟩ := four_new w _ _ _ _ _ _ _ _ hV
  have DV := Lib.hid (h.below gV)
  obtain ⟨c2, f2⟩ := hcell d2
  obtain ⟨c3, f3⟩ := hcell d3
  obtain ⟨c4, f4⟩ := hcell d4
  obtain ⟨c5, f5⟩ := hcell d5
  go_enter_defers Tryd.func12, Tryd.ntmps12
  go_wp2_with fail
  refine (dead_any B g d _ DV).mono ?_
  rintro _ _ ⟨rfl, rfl⟩
  rw [hd]
  go_wp2_with fail
  obtain ⟨U, hU⟩ : ∃ U, ((((V.setCell ⟨w.heap.size, 0, none⟩ (.pointer none)).setCell ⟨w.heap.size + 1, 0, none⟩ (.slice none 0 0)).setCell ⟨w.heap.size + 1 + 1, 0, none⟩ (.slice none 0 0)).setCell ⟨w.heap.size + 1 + 1 + 1, 0, none⟩ (.int .i64 18)) = U := ⟨_, rfl⟩
  have u2 : U.heap[w.heap.size]? = some (.cells #[.pointer none] 32 (0, 0)) := by
    subst hU
    exact set_else (set_else (set_else (set_here d2 _) _ (by first | (dsimp only; omega) | omega)) _ (by first | (dsimp only; omega) | omega)) _ (by first | (dsimp only; omega) | omega)
  have u3 : U.heap[w.heap.size + 1]? = some (.cells #[.slice none 0 0] 33 (0, 0)) := by
    subst hU
    exact set_else (set_else (set_here (set_else d3 _ (by first | (dsimp only; omega) | omega)) _) _ (by first | (dsimp only; omega) | omega)) _ (by first | (dsimp only; omega) | omega)
  have u4 : U.heap[w.heap.size + 1 + 1]? = some (.cells #[.slice none 0 0] 34 (0, 0)) := by
    subst hU
    exact set_else (set_here (set_else (set_else d4 _ (by first | (dsimp only; omega) | omega)) _ (by first | (dsimp only; omega) | omega)) _) _ (by first | (dsimp only; omega) | omega)
  have u5 : U.heap[w.heap.size + 1 + 1 + 1]? = some (.cells #[.int .i64 18] 26 (0, 0)) := by
    subst hU
    exact set_here (set_else (set_else (set_else d5 _ (by first | (dsimp only; omega) | omega)) _ (by first | (dsimp only; omega) | omega)) _ (by first | (dsimp only; omega) | omega)) _
  have gU : w.grownBy U none := by
    subst hU
    exact only_set (only_set (only_set (only_set gV (.inr (by first | (dsimp only; omega) | omega)) _) (.inr (by first | (dsimp only; omega) | omega)) _) (.inr (by first | (dsimp only; omega) | omega)) _) (.inr (by first | (dsimp only; omega) | omega)) _
  rw [hU]
  obtain ⟨x2, y2⟩ := hcell u2
  obtain ⟨x3, y3⟩ := hcell u3
  obtain ⟨x4, y4⟩ := hcell u4
  obtain ⟨x5, y5⟩ := hcell u5
  refine leaves_cons (f := 32) (args := #[.pointer (some ⟨w.heap.size + 1 + 1 + 1, 0, none⟩), .pointer (some ⟨w.heap.size, 0, none⟩), .pointer (some ⟨w.heap.size + 1, 0, none⟩), .pointer (some ⟨w.heap.size + 1 + 1, 0, none⟩)]) (by simp) (by simp [go_sem]) ?_
  refine (close_bad _ _ _ _ 18 _ _ _ U (by decide) x5 x2 x3 x4 y2 y3 y4 (by omega) (by omega) (by omega)).mono ?_
  rintro e u' w'' ⟨rfl, rfl, hw⟩
  have z2 : w''.heap[w.heap.size]? = some (.cells #[.pointer none] 32 (0, 0)) := by
    subst hw
    exact set_else (set_else (set_here u2 _) _ (by first | (dsimp only; omega) | omega)) _ (by first | (dsimp only; omega) | omega)
  have z3 : w''.heap[w.heap.size + 1]? = some (.cells #[.slice none 0 0] 33 (0, 0)) := by
    subst hw
    exact set_else (set_here (set_else u3 _ (by first | (dsimp only; omega) | omega)) _) _ (by first | (dsimp only; omega) | omega)
  have z4 : w''.heap[w.heap.size + 1 + 1]? = some (.cells #[.slice none 0 0] 34 (0, 0)) := by
    subst hw
    exact set_here (set_else (set_else u4 _ (by first | (dsimp only; omega) | omega)) _ (by first | (dsimp only; omega) | omega)) _
  have z5 : w''.heap[w.heap.size + 1 + 1 + 1]? = some (.cells #[.int .i64 18] 26 (0, 0)) := by
    subst hw
    exact set_else (set_else (set_else u5 _ (by first | (dsimp only; omega) | omega)) _ (by first | (dsimp only; omega) | omega)) _ (by first | (dsimp only; omega) | omega)
  have gz : w.grownBy w'' none := by
    subst hw
    exact only_set (only_set (only_set gU (.inr (by first | (dsimp only; omega) | omega)) _) (.inr (by first | (dsimp only; omega) | omega)) _) (.inr (by first | (dsimp only; omega) | omega)) _
  have q2 := (hcell z2).1
  have q3 := (hcell z3).1
  have q4 := (hcell z4).1
  have q5 := (hcell z5).1
  simp
  simp [Leaves, settle, results, Tryd.results12, go_sem, q2, q3, q4, q5]
  exact gz
theorem scanP_le (l : List Int) : (scanP l).2 ≤ l.length := by
  have key : ∀ (n : Nat) (l : List Int), l.length ≤ n → (scanP l).2 ≤ l.length := fun n => by
    induction n with
    | zero =>
      intro l hl
      have : l = [] := List.eq_nil_of_length_eq_zero (by omega)
      subst this
      rw [scanP_no (l := []) (by decide)]
      simp
    | succ n ih =>
      intro l hl
      by_cases h : firstE l = 0
      · rw [scanP_ok h]
        have hd := drop_less h
        have := ih (l.drop (8 + rd4 l)) (by omega)
        have hlong := firstE_long (l := l) (by rw [h]; decide) (by rw [h]; decide)
        rw [List.length_drop] at this
        show 8 + rd4 l + _ ≤ _
        omega
      · rw [scanP_no h]; simp
  exact key _ l (Nat.le_refl _)
/-- Is the snapshot none? -/
def badS (d : DS) : Prop := 0 < d.S.length ∧ oneE d.S ≠ 0
instance (d : DS) : Decidable (badS d) := inferInstanceAs (Decidable (_ ∧ _))
/-- What the snapshot says. -/
def snapP (d : DS) : List Int := if d.S = [] then [] else recP d.S
/-- What Open answers, and what becomes of the disk. -/
def openE (d : DS) : Int := if d.dd = true then 18 else if badS d then 10 else if (scanP d.L).2 < d.L.length then cutE d (scanP d.L).2 else 0
def openS (d : DS) : DS := if d.dd = true then d else if badS d then d else if (scanP d.L).2 < d.L.length then cutS d (scanP d.L).2 else d
def OpenV (w : World) (B g : Nat) (d : DS) (e : Ending) (w' : World) : Prop :=
  ((openE d ≠ 0 ∧ e = .returned (.tuple #[.pointer none, .slice none 0 0, .slice none 0 0, .int .i64 (openE d)])) ∨
   (openE d = 0 ∧ ∃ q sv lv, e = .returned (.tuple #[.pointer (some ⟨q, 0, none⟩), sv, lv, .int .i64 0]) ∧ w'.ownsRow w.heap.size 5 1 sv (snapP d).length (bs (snapP d)) ∧ RL w' w.heap.size lv (scanP d.L).1 ∧ Jn w' q g (scanP d.L).1.length ∧ w.heap.size ≤ q)) ∧
  Dk w' B g (openS d) ∧ w.grownBy w' (some g)
theorem open_all (B g : Nat) (d : DS) (w : World) (h : Dk w B g d) (hk : Ok d) (bS : ∀ x ∈ d.S, 0 ≤ x ∧ x ≤ 255) (bL : ∀ x ∈ d.L, 0 ≤ x ∧ x ≤ 255) (lL : d.L.length ≤ 4294967296) (hT : Tab w) :
    Calls Tryd.prog 12 #[.pointer (some ⟨g, 0, none⟩)] w (OpenV w B g d) := by
  have ks := hk.s
  by_cases hd : d.dd = true
  · have e1 : openE d = 18 := by unfold openE; rw [if_pos hd]
    have e2 : openS d = d := by unfold openS; rw [if_pos hd]
    refine (open_dead B g d w h hd).mono ?_
    rintro e w' ⟨he, hg⟩
    refine ⟨.inl ⟨by rw [e1]; decide, by rw [e1]; exact he⟩, by rw [e2]; exact h.below hg, only_none hg _⟩
  have hd0 : d.dd = false := by simpa using hd
  by_cases hb : badS d
  · have e1 : openE d = 10 := by unfold openE; rw [if_neg hd, if_pos hb]
    have e2 : openS d = d := by unfold openS; rw [if_neg hd, if_pos hb]
    refine (open_bad B g d w h hd0 bS hb.1 (by omega) hT hb.2).mono ?_
    rintro e w' ⟨he, hg⟩
    refine ⟨.inl ⟨by rw [e1]; decide, by rw [e1]; exact he⟩, by rw [e2]; exact h.below hg, only_none hg _⟩
  have hle := scanP_le d.L
  by_cases hN : (scanP d.L).2 < d.L.length
  · have e1 : openE d = cutE d (scanP d.L).2 := by unfold openE; rw [if_neg hd, if_neg hb, if_pos hN]
    have e2 : openS d = cutS d (scanP d.L).2 := by unfold openS; rw [if_neg hd, if_neg hb, if_pos hN]
    by_cases hS : d.S = []
    · have e3 : snapP d = [] := by unfold snapP; rw [if_pos hS]
      by_cases hE : cutE d (scanP d.L).2 = 0
      · refine (open_cut0 B g d w h hk hd0 hS bL lL hN hE hT).mono ?_
        rintro e w' ⟨q, lv, he, hr, hj, hq, hD, hg⟩
        exact ⟨.inr ⟨by rw [e1]; exact hE, q, _, lv, he, by rw [e3]; exact World.ownsRow_nil _ _ _ _, hr, hj, hq⟩, by rw [e2]; exact hD, hg⟩
      · refine (open_die0 B g d w h hk hd0 hS bL lL hN hE hT).mono ?_
        rintro e w' ⟨he, hD, hg⟩
        exact ⟨.inl ⟨by rw [e1]; exact hE, by rw [e1]; exact he⟩, by rw [e2]; exact hD, hg⟩
    · have h0 : 0 < d.S.length := List.length_pos_iff.2 hS
      have ho : oneE d.S = 0 := by
        by_cases h : oneE d.S = 0
        · exact h
        · exact absurd ⟨h0, h⟩ hb
      have e3 : snapP d = recP d.S := by unfold snapP; rw [if_neg hS]
      by_cases hE : cutE d (scanP d.L).2 = 0
      · refine (open_cut1 B g d w h hk hd0 h0 (by omega) bS ho bL lL hN hE hT).mono ?_
        rintro e w' ⟨q, sv, lv, he, hs, hr, hj, hq, hD, hg⟩
        rw [bs_len] at hs
        exact ⟨.inr ⟨by rw [e1]; exact hE, q, sv, lv, he, by rw [e3]; exact hs, hr, hj, hq⟩, by rw [e2]; exact hD, hg⟩
      · refine (open_die1 B g d w h hk hd0 h0 (by omega) bS ho bL lL hN hE hT).mono ?_
        rintro e w' ⟨he, hD, hg⟩
        exact ⟨.inl ⟨by rw [e1]; exact hE, by rw [e1]; exact he⟩, by rw [e2]; exact hD, hg⟩
  · have hN2 : (scanP d.L).2 = d.L.length := by omega
    have e1 : openE d = 0 := by unfold openE; rw [if_neg hd, if_neg hb, if_neg hN]
    have e2 : openS d = d := by unfold openS; rw [if_neg hd, if_neg hb, if_neg hN]
    by_cases hS : d.S = []
    · have e3 : snapP d = [] := by unfold snapP; rw [if_pos hS]
      refine (open_rows0 B g d w h hd0 hS bL lL hN2 hT).mono ?_
      rintro e w' ⟨q, lv, he, hr, hj, hq, hg⟩
      exact ⟨.inr ⟨e1, q, _, lv, he, by rw [e3]; exact World.ownsRow_nil _ _ _ _, hr, hj, hq⟩, by rw [e2]; exact h.below hg, only_none hg _⟩
    · have h0 : 0 < d.S.length := List.length_pos_iff.2 hS
      have ho : oneE d.S = 0 := by
        by_cases h : oneE d.S = 0
        · exact h
        · exact absurd ⟨h0, h⟩ hb
      have e3 : snapP d = recP d.S := by unfold snapP; rw [if_neg hS]
      refine (open_rows1 B g d w h hd0 h0 (by omega) bS ho bL lL hN2 hT).mono ?_
      rintro e w' ⟨q, sv, lv, he, hs, hr, hj, hq, hg⟩
      rw [bs_len] at hs
      exact ⟨.inr ⟨e1, q, sv, lv, he, by rw [e3]; exact hs, hr, hj, hq⟩, by rw [e2]; exact h.below hg, only_none hg _⟩
end Go.Proofs.YtpfahfakinonnaaDoor
