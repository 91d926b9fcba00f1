/- container/heap.up and down, of a queue. No condition of the program's own. -/
import Derived.Test.YtgfpogmipennaaaHw
namespace Go.Proofs.Ytgfpogmipennaaa
open Go.RowKit Go.Deep
def intOf : Value → Int | .int _ n => n | _ => 0
/-- What sifting leaves: the same items, those from n on in their places. -/
structure Sift (w w' : World) (B : Nat) (F : Nat → Prop) (n : Nat) (l l' : List It) : Prop where
  q : QS w' B l' F
  only : OnlyF F w w'
  perm : l'.Perm l
  rest : ∀ k, n ≤ k → l'[k]? = l[k]?
theorem Sift.len {w w' : World} {B : Nat} {F : Nat → Prop} {n : Nat} {l l' : List It} (h : Sift w w' B F n l l') : l'.length = l.length := h.perm.length_eq
theorem Sift.less {w w' w2 : World} {B : Nat} {F : Nat → Prop} {n : Nat} {l l' : List It} (h : Sift w w' B F n l l') (g : w'.grownBy w2 none) : Sift w w2 B F n l l' := ⟨h.q.keep g, h.only.trans (OnlyF.still g), h.perm, h.rest⟩
theorem Sift.swap {w w' w2 : World} {B : Nat} {F : Nat → Prop} {n i j : Nat} {l l' : List It} (h : Sift w w' B F n l l') (q : QS w2 B (lswap l' i j) F) (o : OnlyF F w' w2) (hi : i < n) (hj : j < n) (hn : n ≤ l.length) : Sift w w2 B F n l (lswap l' i j) :=
  ⟨q, h.only.trans o, (lswap_perm l' i j (by rw [h.len]; omega) (by rw [h.len]; omega)).trans h.perm, fun k hk => by
    rw [lswap_get l' i j k (by rw [h.len]; omega) (by rw [h.len]; omega), if_neg (by omega), if_neg (by omega)]
    exact h.rest k hk⟩
theorem Sift.refl {w : World} {B : Nat} {F : Nat → Prop} {l : List It} (h : QS w B l F) (n : Nat) : Sift w w B F n l l := ⟨h, OnlyF.refl F w, List.Perm.refl _, fun _ _ => rfl⟩
set_option maxRecDepth 100000 in
set_option maxHeartbeats 1000000 in
theorem up_q (B j n : Nat) (l : List It) (F : Nat → Prop) (w : World) (h : QS w B l F) (hn : n ≤ l.length) (hl : l.length ≤ 1099511627776) (hj : j < n) (hu : HU n (itm l) j) :
    Calls Try.prog 32 #[.iface 58 (.pointer (some ⟨B, 0, none⟩)), .int .i64 j] w fun e w' => e = .returned (.tuple #[]) ∧ ∃ l', Sift w w' B F n l l' ∧ Hp n (itm l') := by
  have e1 := m_less
  have e2 := m_swap
  have HU0 := Lib.hid hu
  have Q0 := Sift.refl h n
  clear hu h
  go_enter Try.func32, Try.ntmps32
  go_wp2_with fail
  go_loopw [1] (fun sj wr => ∃ (j : Nat) (l' : List It), sj = .int .i64 j ∧ j < n ∧ Sift w wr B F n l l' ∧ Hid (HU n (itm l') j)) (fun sj _ => (intOf sj).toNat)
  case atStart => exact ⟨j, l, rfl, hj, Q0, HU0⟩
  case round =>
    clear hj HU0 Q0 j
    obtain ⟨j, l', rfl, hj, S, H⟩ := hrel
    have hlen := Lib.hid S.len
    by_cases j0 : 0 < j
    · have y1 : IntKind.i64.wrap ((j : Int) - 1) = (j : Int) - 1 := by rw [IntKind.wrap_i64]; omega
      have y2 : (((j : Int) - 1).tdiv 2) = (((j - 1) / 2 : Nat) : Int) := by rw [Int.tdiv_eq_ediv_of_nonneg (by omega)]; omega
      obtain ⟨p, hp⟩ : ∃ p : Nat, p = (j - 1) / 2 := ⟨_, rfl⟩
      have y3 : IntKind.i64.wrap (((j : Int) - 1).tdiv 2) = (p : Int) := by rw [y2, hp, IntKind.wrap_i64]; omega
      have y4 : ((p : Int) == (j : Int)) = false := by rw [beq_eq_false_iff_ne]; omega
      have HP := Lib.hid hp
      have pj : p < j := by omega
      clear hp y2
      have hj' : j < l'.length := by rw [hlen.out]; omega
      have hp' : p < l'.length := by omega
      go_wp2_with fail
      refine (lessq B j p l' F _ S.q hj' hp').mono ?_
      rintro e w1 ⟨rfl, g1⟩
      have S1 := S.less g1
      obtain ⟨t, ht⟩ : ∃ t, t = decide (ilt (itm l' j) (itm l' p)) := ⟨_, rfl⟩
      rw [← ht]
      cases t with
      | false =>
        have nl : Hid (¬ ilt (itm l' j) (itm l' p)) := Lib.hid (by simpa using ht.symm)
        clear ht g1 S
        go_wp2_with fail
        go_end0
        exact ⟨rfl, l', S1, H.out.done (.inr (by rw [← HP.out]; exact nl.out))⟩
      | true =>
        have nl : Hid (ilt (itm l' j) (itm l' p)) := Lib.hid (by simpa using ht.symm)
        clear ht g1 S
        go_wp2_with fail
        refine (swap_q B p j l' F _ S1.q hp' hj').mono ?_
        rintro e w2 ⟨rfl, q2, o2⟩
        have S2 := S1.swap q2 o2 (by omega) hj hn
        clear q2 o2 S1
        go_wp2_with fail
        go_roundw
        case rel =>
          refine ⟨p, lswap l' p j, rfl, by omega, S2, Lib.hid ?_⟩
          rw [lswap_itm l' p j hp' hj', HP.out]
          exact H.out.step j0 (by rw [← HP.out]; exact nl.out)
        case measure => simp [intOf]; omega
    · have j00 : j = 0 := by omega
      subst j00
      have y1 : IntKind.i64.wrap ((0 : Int) - 1) = -1 := by decide
      have y3 : IntKind.i64.wrap ((-1 : Int).tdiv 2) = 0 := by decide
      go_wp2_with fail
      go_end0
      exact ⟨rfl, l', S, H.out.done (.inl rfl)⟩
end Go.Proofs.Ytgfpogmipennaaa
