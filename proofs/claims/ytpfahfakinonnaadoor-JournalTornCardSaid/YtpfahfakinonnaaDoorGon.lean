/- Contracts of frames.first and One. Asked of the world: the table's cells. -/
import Derived.Test.YtpfahfakinonnaaDoorGfr
namespace Go.Proofs.YtpfahfakinonnaaDoor
open Go.RowKit Go.ChangeShapes

/-- The record that a frame at the beginning says it has. -/
def recP (l : List Int) : List Int := (l.drop 8).take (rd4 l)
/-- What is wrong with the frame at the beginning. -/
def firstE (l : List Int) : Int :=
  if l.length < 8 then 8 else if 4194304 < rd4 l then 5 else if l.length - 8 < rd4 l then 8 else if crcP (recP l) = rd4 (l.drop 4) then 0 else 10
def oneE (l : List Int) : Int := if firstE l = 8 ∨ firstE l = 5 then firstE l else if 8 + rd4 l < l.length then 9 else firstE l
theorem rd4_lt (l : List Int) (hb : ∀ x ∈ l, 0 ≤ x ∧ x ≤ 255) : rd4 l < 4294967296 := by
  have g : ∀ i, (l.getD i 0).toNat < 256 := fun i => by
    rw [List.getD_eq_getElem?_getD]
    cases h : l[i]? with
    | none => simp
    | some x => have := hb x (List.mem_of_getElem? h); simp; omega
  have := g 0; have := g 1; have := g 2; have := g 3
  unfold rd4; omega
theorem recP_len (l : List Int) (h : ¬ l.length - 8 < rd4 l) : (recP l).length = rd4 l := by simp [recP]; omega
theorem Has.drop' {w : World} {lim n : Nat} {A : Option Addr} {l : List Int} (h : Has w lim A (bs l)) (hn : n ≤ l.length) : Has w lim (A.map (·.add n)) (bs (l.drop n)) := by
  rcases h with h | ⟨b, off, rfl, hb, hc⟩
  · have : l = [] := by simpa [bs] using h
    subst this
    exact .inl (by simp [bs])
  · refine .inr ⟨b, off + n, by simp [Addr.add_lit], hb, fun j u hu => ?_⟩
    rw [Nat.add_assoc]
    refine hc (n + j) u ?_
    simp only [bs, List.getElem?_map, List.getElem?_drop] at hu ⊢
    exact hu
/-- What first hands back beside its error. -/
def FirstV (w : World) (l : List Int) (v : Value) : Prop := if firstE l = 0 then ∃ A' c', v = .slice A' (rd4 l) c' ∧ rd4 l ≤ c' ∧ Has w w.heap.size A' (bs (recP l)) else v = .slice none 0 0
theorem FirstV.bad {w : World} {l : List Int} (h : firstE l ≠ 0) : FirstV w l (.slice none 0 0) := by unfold FirstV; rw [if_neg h]
theorem FirstV.good {w : World} {l : List Int} {A : Option Addr} {c : Nat} (h : firstE l = 0) (hc : rd4 l ≤ c) (hh : Has w w.heap.size A (bs (recP l))) : FirstV w l (.slice A (rd4 l) c) := by
  unfold FirstV; rw [if_pos h]; exact ⟨A, c, rfl, hc, hh⟩
set_option maxRecDepth 100000 in
set_option maxHeartbeats 1000000 in
theorem first_any (A : Option Addr) (c : Nat) (l : List Int) (w : World) (h : Has w w.heap.size A (bs l)) (hb : ∀ x ∈ l, 0 ≤ x ∧ x ≤ 255) (hl : l.length ≤ 1099511627776) (hc : l.length ≤ c) (hT : Tab w) :
    Calls Tryd.prog 52 #[.slice A l.length c] w fun e w' => ∃ v, e = .returned (.tuple #[v, .int .i64 (firstE l)]) ∧ FirstV w l v ∧ w.grownBy w' none := by
  by_cases h8 : l.length < 8
  · have t0 : (l.length : Int) < 8 := by omega
    have eE : firstE l = 8 := by unfold firstE; rw [if_pos h8]
    rw [eE]
    have EE := Lib.hid eE
    clear h hb hT eE
    go_enter Tryd.func52, Tryd.ntmps52
    go_wp2_with fail
    go_ret2
    exact ⟨_, rfl, FirstV.bad (by rw [EE.out]; decide), only_refl _ _⟩
  · have t0 : ¬ (l.length : Int) < 8 := by omega
    obtain ⟨b, off, rfl⟩ : ∃ b off, A = some ⟨b, off, none⟩ := by
      rcases h with h | ⟨b, off, hA, _⟩
      · have := congrArg List.length h; rw [bs_len, List.length_nil] at this; omega
      · exact ⟨b, off, hA⟩
    have W1 := Lib.hid (word_any (some ⟨b, off, none⟩) l.length c l rfl w h hb (by omega))
    have hr := rd4_lt l hb
    obtain ⟨n, hn⟩ : ∃ n, n = rd4 l := ⟨_, rfl⟩
    rw [← hn] at W1 hr
    by_cases hg : 4194304 < n
    · have t1 : (4194304 : Int) < (n : Int) := by omega
      have eE : firstE l = 5 := by unfold firstE; rw [if_neg h8, if_pos (by omega)]
      rw [eE]
      have EE := Lib.hid eE
      clear h hb hT eE hn
      go_enter Tryd.func52, Tryd.ntmps52
      go_wp2_with fail
      refine W1.out.mono ?_
      rintro _ w1 ⟨rfl, rfl⟩
      go_wp2_with fail
      go_ret2
      exact ⟨_, rfl, FirstV.bad (by rw [EE.out]; decide), only_refl _ _⟩
    · have t1 : ¬ (4194304 : Int) < (n : Int) := by omega
      have v1 : IntKind.i64.wrap (n : Int) = (n : Int) := by rw [IntKind.wrap_i64]; omega
      have v2 : IntKind.i64.wrap ((l.length : Int) - 8) = (l.length : Int) - 8 := by rw [IntKind.wrap_i64]; omega
      by_cases hs : l.length - 8 < n
      · have t2 : (l.length : Int) - 8 < (n : Int) := by omega
        have eE : firstE l = 8 := by unfold firstE; rw [if_neg h8, if_neg (by omega), if_pos (by omega)]
        rw [eE]
        have EE := Lib.hid eE
        clear h hb hT eE hn
        go_enter Tryd.func52, Tryd.ntmps52
        go_wp2_with fail
        refine W1.out.mono ?_
        rintro _ w1 ⟨rfl, rfl⟩
        go_wp2_with fail
        go_ret2
        exact ⟨_, rfl, FirstV.bad (by rw [EE.out]; decide), only_refl _ _⟩
      · have t2 : ¬ (l.length : Int) - 8 < (n : Int) := by omega
        have v3 : IntKind.i64.wrap (8 + (n : Int)) = 8 + (n : Int) := by rw [IntKind.wrap_i64]; omega
        have s1 : (8 : Int) ≤ 8 + (n : Int) := by omega
        have s2 : 8 + (n : Int) ≤ (c : Int) := by omega
        have s3 : (8 + (n : Int)).toNat = 8 + n := by omega
        have s4 : (4 : Int) ≤ (l.length : Int) := by omega
        have s5 : 8 + n - 8 = n := by omega
        have s6 : ¬ c = 4 := by omega
        have HR : ∀ A', (A' = some ⟨b, off + 8, none⟩ ∨ n = 0) → Has w w.heap.size A' (bs (recP l)) := fun A' hA' => by
          rcases hA' with rfl | h0
          · have := (h.drop' (n := 8) (by omega)).take (rd4 l)
            unfold recP; rw [show bs ((l.drop 8).take (rd4 l)) = (bs (l.drop 8)).take (rd4 l) by simp [bs, List.map_take]]; exact this
          · refine .inl ?_
            unfold recP; rw [← hn, h0]; rfl
        have C1 : ∀ A' c', (A' = some ⟨b, off + 8, none⟩ ∨ n = 0) → Hid (Calls Tryd.prog 58 #[.slice A' n c'] w.drew fun e w' => e = .returned (.int .u32 (crcP (recP l))) ∧ w.drew = w') := fun A' c' hA' => by
          have := crc_any A' c' (recP l) w.drew (HR A' hA') (fun x hx => hb x (List.mem_of_mem_drop (List.mem_of_mem_take hx))) (by rw [recP_len l (by omega)]; unfold maxLen; omega) hT
          rw [recP_len l (by omega), ← hn] at this
          exact this
        have W2 : Hid (Calls Tryd.prog 53 #[.slice (some ⟨b, off + 4, none⟩) (l.length - 4) (c - 4)] w.drew fun e w' => e = .returned (.int .u32 (rd4 (l.drop 4))) ∧ w.drew = w') :=
          word_any (some ⟨b, off + 4, none⟩) (l.length - 4) (c - 4) (l.drop 4) (by rw [List.length_drop]) w.drew (h.drop' (n := 4) (by omega)) (fun x hx => hb x (List.mem_of_mem_drop hx)) (by rw [List.length_drop]; omega)
        have EF : firstE l = if crcP (recP l) = rd4 (l.drop 4) then 0 else 10 := by unfold firstE; rw [if_neg h8, if_neg (by omega), if_neg (by omega)]
        obtain ⟨q, hq⟩ : ∃ q, q = crcP (recP l) := ⟨_, rfl⟩
        obtain ⟨r, hr2⟩ : ∃ r, r = rd4 (l.drop 4) := ⟨_, rfl⟩
        rw [← hq] at C1 EF
        rw [← hr2] at W2 EF
        have HR' := Lib.hid HR
        have HN := Lib.hid hn
        have N0 := Lib.hid (show c = 8 → n = 0 by omega)
        have NC := Lib.hid (show n ≤ c - 8 by omega)
        by_cases hqr : q = r
        · rw [if_pos hqr] at EF
          rw [EF]
          have EE := Lib.hid EF
          have t3 : ((q : Int) != (r : Int)) = false := by simp [hqr]
          clear h hb hT hn hq hr2 EF hqr HR h8 hg hs
          by_cases hc8 : c = 8
          · have n0 : n = 0 := N0.out hc8
            have C1' := C1 (some ⟨b, off, none⟩) (c - 8) (.inr n0)
            clear C1 N0
            subst n0
            subst hc8
            go_enter Tryd.func52, Tryd.ntmps52
            go_wp2_with fail
            refine W1.out.mono ?_
            rintro _ w1 ⟨rfl, rfl⟩
            go_wp2_with fail
            go_region_held3 (fun V => w.drew = V) (first | rfl) ((first
              | (go_at_call 58; refine C1'.out.mono ?_; rintro e wa ⟨rfl, rfl⟩)
              | (go_at_call 53; refine W2.out.mono ?_; rintro e wb ⟨rfl, rfl⟩)))
            go_wp2_with fail
            go_ret2
            exact ⟨_, rfl, (by have h := FirstV.good (A := some ⟨b, off, none⟩) (c := 8 - 8) EE.out (by rw [← HN.out]; exact Nat.le_refl _) (HR'.out _ (.inr (by first | trivial | rfl))); rw [← HN.out] at h; exact h), only_drew (only_refl _ _)⟩
          · have C1' := C1 (some ⟨b, off + 8, none⟩) (c - 8) (.inl rfl)
            clear C1
            go_enter Tryd.func52, Tryd.ntmps52
            go_wp2_with fail
            refine W1.out.mono ?_
            rintro _ w1 ⟨rfl, rfl⟩
            go_wp2_with fail
            go_region_held3 (fun V => w.drew = V) (first | rfl) ((first
              | (go_at_call 58; refine C1'.out.mono ?_; rintro e wa ⟨rfl, rfl⟩)
              | (go_at_call 53; refine W2.out.mono ?_; rintro e wb ⟨rfl, rfl⟩)))
            go_wp2_with fail
            go_ret2
            exact ⟨_, rfl, (by have h := FirstV.good (A := some ⟨b, off + 8, none⟩) (c := c - 8) EE.out (by rw [← HN.out]; exact NC.out) (HR'.out _ (.inl rfl)); rw [← HN.out] at h; exact h), only_drew (only_refl _ _)⟩
        · rw [if_neg hqr] at EF
          rw [EF]
          have EE := Lib.hid EF
          have t3 : ((q : Int) != (r : Int)) = true := by simp; omega
          clear h hb hT hn hq hr2 EF hqr HR h8 hg hs
          by_cases hc8 : c = 8
          · have n0 : n = 0 := N0.out hc8
            have C1' := C1 (some ⟨b, off, none⟩) (c - 8) (.inr n0)
            clear C1 N0
            subst n0
            subst hc8
            go_enter Tryd.func52, Tryd.ntmps52
            go_wp2_with fail
            refine W1.out.mono ?_
            rintro _ w1 ⟨rfl, rfl⟩
            go_wp2_with fail
            go_region_held3 (fun V => w.drew = V) (first | rfl) ((first
              | (go_at_call 58; refine C1'.out.mono ?_; rintro e wa ⟨rfl, rfl⟩)
              | (go_at_call 53; refine W2.out.mono ?_; rintro e wb ⟨rfl, rfl⟩)))
            go_wp2_with fail
            go_ret2
            exact ⟨_, rfl, FirstV.bad (by rw [EE.out]; decide), only_drew (only_refl _ _)⟩
          · have C1' := C1 (some ⟨b, off + 8, none⟩) (c - 8) (.inl rfl)
            clear C1
            go_enter Tryd.func52, Tryd.ntmps52
            go_wp2_with fail
            refine W1.out.mono ?_
            rintro _ w1 ⟨rfl, rfl⟩
            go_wp2_with fail
            go_region_held3 (fun V => w.drew = V) (first | rfl) ((first
              | (go_at_call 58; refine C1'.out.mono ?_; rintro e wa ⟨rfl, rfl⟩)
              | (go_at_call 53; refine W2.out.mono ?_; rintro e wb ⟨rfl, rfl⟩)))
            go_wp2_with fail
            go_ret2
            exact ⟨_, rfl, FirstV.bad (by rw [EE.out]; decide), only_drew (only_refl _ _)⟩

theorem firstE_in (l : List Int) : firstE l = 8 ∨ firstE l = 5 ∨ firstE l = 0 ∨ firstE l = 10 := by
  unfold firstE; repeat' split
  all_goals simp
theorem firstE_long {l : List Int} (h8 : firstE l ≠ 8) (h5 : firstE l ≠ 5) : 8 ≤ l.length ∧ rd4 l ≤ 4194304 ∧ 8 + rd4 l ≤ l.length := by
  unfold firstE at h8 h5
  split at h8
  · exact absurd rfl h8
  · split at h8
    · rename_i a b; rw [if_neg a, if_pos b] at h5; exact absurd rfl h5
    · split at h8
      · exact absurd rfl h8
      · omega
end Go.Proofs.YtpfahfakinonnaaDoor
