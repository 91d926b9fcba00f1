/- What is done for each of the two other nodes; campaign's closure. Conditions: no more than 2^19 messages. -/
import Derived.Test.YtjhnipnocjoelaaNj
namespace Go.Proofs.Ytjhnipnocjoelaa
open Go.RowKit Go.Deep
/-- The messages to the nodes below k, but to id. -/
def Msgs (R : Nat → Mg → Prop) (id : Int) : Nat → List Mg → Prop
  | 0, l => l = []
  | k + 1, l => if (k : Int) = id then Msgs R id k l else ∃ l' m, l = l' ++ [m] ∧ Msgs R id k l' ∧ R k m
theorem Msgs.few {R : Nat → Mg → Prop} {id : Int} : ∀ {k : Nat} {l : List Mg}, Msgs R id k l → l.length ≤ k
  | 0, l, h => by rw [show l = [] from h]; exact Nat.le_refl _
  | k + 1, l, h => by
    unfold Msgs at h
    split at h
    · have := h.few; omega
    · obtain ⟨l', m, rfl, h1, _⟩ := h
      have := h1.few
      rw [List.length_append, List.length_singleton]; omega
def Nd.voteM (n : Nd) (idx trm : Int) (k : Nat) : Mg := { zeroM with kind := 1, fr := n.id, dst := k, term := n.term, index := idx, lt := trm }
set_option maxRecDepth 100000 in
theorem camp1_any (w : World) (P : Nat → Prop) (g tb ib mb k : Nat) (n : Nd) (S : List Mg) (idx trm : Int) (hD : Dr w P g n S) (hS : S.length ≤ 1048576) (c1 : w.cell? ⟨tb, 0, none⟩ = some (.pointer (some ⟨g, 0, none⟩))) (c2 : w.cell? ⟨ib, 0, none⟩ = some (.int .i64 idx)) (c3 : w.cell? ⟨mb, 0, none⟩ = some (.int .i64 trm)) :
    Calls Try.prog 65 #[.int .i64 k, .pointer (some ⟨tb, 0, none⟩), .pointer (some ⟨ib, 0, none⟩), .pointer (some ⟨mb, 0, none⟩)] w fun e w' => e = .returned (.tuple #[]) ∧ Dr w' P g n (S ++ [n.voteM idx trm k]) ∧ Kept P w w' := by
  have SD := Lib.hid (send_any w P g n S k (Mg.mk 1 0 0 0 idx trm 0 false (.slice none 0 0) { data := #[] }) hD ⟨none, 0, 0, rfl⟩ hS)
  simp only [Mg.val] at SD
  clear hD hS
  go_enter Try.func65, Try.ntmps65
  go_wp2_with fail
  refine SD.out.mono ?_
  rintro _ w2 ⟨rfl, hD2, hk2⟩
  have HD2 := Lib.hid (And.intro hD2 hk2)
  clear hD2 hk2 SD
  go_wp2_with fail
  go_end0
  exact ⟨rfl, HD2.out⟩
set_option maxRecDepth 100000 in
set_option maxHeartbeats 2000000 in
theorem others_camp (R : Nat → Mg → Prop) (w : World) (P : Nat → Prop) (g tb ib mb : Nat) (n : Nd) (S : List Mg) (hD : Dr w P g n S) (hS : S.length ≤ 1048570)
    (HC : ∀ (j : Nat) (W : World) (S' : List Mg), j < 3 → (j : Int) ≠ n.id → S'.length ≤ 1048576 → Dr W P g n S' → Kept P w W → Calls Try.prog 65 #[.int .i64 (j : Int), .pointer (some ⟨tb, 0, none⟩), .pointer (some ⟨ib, 0, none⟩), .pointer (some ⟨mb, 0, none⟩)] W fun e w' => e = .returned (.tuple #[]) ∧ ∃ m, R j m ∧ Dr w' P g n (S' ++ [m]) ∧ Kept P W w') :
    Calls Try.prog 44 #[.pointer (some ⟨g, 0, none⟩), .func (.func 65) #[] #[.pointer (some ⟨tb, 0, none⟩), .pointer (some ⟨ib, 0, none⟩), .pointer (some ⟨mb, 0, none⟩)]] w fun e w' => e = .returned (.tuple #[]) ∧ ∃ l, Msgs R n.id 3 l ∧ Dr w' P g n (S ++ l) ∧ Kept P w w' := by
  have HH := Lib.hid HC
  have HD := Lib.hid hD
  have HS := Lib.hid hS
  clear HC hD hS
  go_enter Try.func44, Try.ntmps44
  go_wp2_with fail
  go_loopw [5] (fun s5 wr => ∃ (k : Nat) (l : List Mg), k ≤ 3 ∧ s5 = .int .i64 k ∧ Hid (Msgs R n.id k l) ∧ Hid (Dr wr P g n (S ++ l)) ∧ Hid (Kept P w wr)) (fun s5 _ => 3 - (intOf s5).toNat)
  case atStart => exact ⟨0, [], by omega, rfl, rfl, by rw [List.append_nil]; exact HD.out, Kept.refl P w⟩
  case round =>
    obtain ⟨k, l, hk, rfl, HM, HDr, HK⟩ := hrel
    clear HD
    by_cases hk3 : k < 3
    · have t1 : (k : Int) < 3 := by omega
      have hfew := HM.out.few
      obtain ⟨L, M, hV⟩ := HDr.out
      have c0 := hV.all.1
      clear hV
      by_cases he : (k : Int) = n.id
      · have hne : ((k : Int) != n.id) = false := by rw [he]; simp
        have HM2 : Hid (Msgs R n.id (k + 1) l) := by unfold Hid Msgs; rw [if_pos he]; exact HM.out
        clear he hfew
        go_wp2_with fail
        go_roundw
        case rel => exact ⟨k + 1, l, by omega, by go_num, HM2, HDr, HK⟩
        case measure => simp [intOf]; omega
      · have hne : ((k : Int) != n.id) = true := by rw [bne_iff_ne]; exact he
        have CC := Lib.hid (HH.out k wr (S ++ l) hk3 he (by rw [List.length_append]; have := HS.out; omega) HDr.out HK.out)
        have HE := Lib.hid he
        clear he hfew
        go_wp2_with fail
        refine CC.out.mono ?_
        rintro _ w2 ⟨rfl, m, hR, hD2, hK2⟩
        have HM2 : Hid (Msgs R n.id (k + 1) (l ++ [m])) := by unfold Hid Msgs; rw [if_neg HE.out]; exact ⟨l, m, rfl, HM.out, hR⟩
        have HD2 : Hid (Dr w2 P g n (S ++ (l ++ [m]))) := by rw [← List.append_assoc]; exact hD2
        have HK3 := Lib.hid (HK.out.trans hK2)
        clear hR hD2 hK2
        go_wp2_with fail
        go_roundw
        case rel => exact ⟨k + 1, l ++ [m], by omega, by go_num, HM2, HD2, HK3⟩
        case measure => simp [intOf]; omega
    · have t1 : ¬ (k : Int) < 3 := by omega
      have hk4 : k = 3 := by omega
      subst hk4
      go_wp2_with fail
      go_end0
      exact ⟨rfl, l, HM.out, HDr.out, HK.out⟩
set_option maxRecDepth 100000 in
set_option maxHeartbeats 2000000 in
theorem others_owe (R : Nat → Mg → Prop) (w : World) (P : Nat → Prop) (g : Nat) (n : Nd) (S : List Mg) (hD : Dr w P g n S) (hS : S.length ≤ 1048570)
    (HC : ∀ (j : Nat) (W : World) (S' : List Mg), j < 3 → (j : Int) ≠ n.id → S'.length ≤ 1048576 → Dr W P g n S' → Kept P w W → Calls Try.prog 45 #[.pointer (some ⟨g, 0, none⟩), .int .i64 (j : Int)] W fun e w' => e = .returned (.tuple #[]) ∧ ∃ m, R j m ∧ Dr w' P g n (S' ++ [m]) ∧ Kept P W w') :
    Calls Try.prog 44 #[.pointer (some ⟨g, 0, none⟩), .func (.func 45) #[.pointer (some ⟨g, 0, none⟩)] #[]] w fun e w' => e = .returned (.tuple #[]) ∧ ∃ l, Msgs R n.id 3 l ∧ Dr w' P g n (S ++ l) ∧ Kept P w w' := by
  have HH := Lib.hid HC
  have HD := Lib.hid hD
  have HS := Lib.hid hS
  clear HC hD hS
  go_enter Try.func44, Try.ntmps44
  go_wp2_with fail
  go_loopw [5] (fun s5 wr => ∃ (k : Nat) (l : List Mg), k ≤ 3 ∧ s5 = .int .i64 k ∧ Hid (Msgs R n.id k l) ∧ Hid (Dr wr P g n (S ++ l)) ∧ Hid (Kept P w wr)) (fun s5 _ => 3 - (intOf s5).toNat)
  case atStart => exact ⟨0, [], by omega, rfl, rfl, by rw [List.append_nil]; exact HD.out, Kept.refl P w⟩
  case round =>
    obtain ⟨k, l, hk, rfl, HM, HDr, HK⟩ := hrel
    clear HD
    by_cases hk3 : k < 3
    · have t1 : (k : Int) < 3 := by omega
      have hfew := HM.out.few
      obtain ⟨L, M, hV⟩ := HDr.out
      have c0 := hV.all.1
      clear hV
      by_cases he : (k : Int) = n.id
      · have hne : ((k : Int) != n.id) = false := by rw [he]; simp
        have HM2 : Hid (Msgs R n.id (k + 1) l) := by unfold Hid Msgs; rw [if_pos he]; exact HM.out
        clear he hfew
        go_wp2_with fail
        go_roundw
        case rel => exact ⟨k + 1, l, by omega, by go_num, HM2, HDr, HK⟩
        case measure => simp [intOf]; omega
      · have hne : ((k : Int) != n.id) = true := by rw [bne_iff_ne]; exact he
        have CC := Lib.hid (HH.out k wr (S ++ l) hk3 he (by rw [List.length_append]; have := HS.out; omega) HDr.out HK.out)
        have HE := Lib.hid he
        clear he hfew
        go_wp2_with fail
        refine CC.out.mono ?_
        rintro _ w2 ⟨rfl, m, hR, hD2, hK2⟩
        have HM2 : Hid (Msgs R n.id (k + 1) (l ++ [m])) := by unfold Hid Msgs; rw [if_neg HE.out]; exact ⟨l, m, rfl, HM.out, hR⟩
        have HD2 : Hid (Dr w2 P g n (S ++ (l ++ [m]))) := by rw [← List.append_assoc]; exact hD2
        have HK3 := Lib.hid (HK.out.trans hK2)
        clear hR hD2 hK2
        go_wp2_with fail
        go_roundw
        case rel => exact ⟨k + 1, l ++ [m], by omega, by go_num, HM2, HD2, HK3⟩
        case measure => simp [intOf]; omega
    · have t1 : ¬ (k : Int) < 3 := by omega
      have hk4 : k = 3 := by omega
      subst hk4
      go_wp2_with fail
      go_end0
      exact ⟨rfl, l, HM.out, HDr.out, HK.out⟩
end Go.Proofs.Ytjhnipnocjoelaa
