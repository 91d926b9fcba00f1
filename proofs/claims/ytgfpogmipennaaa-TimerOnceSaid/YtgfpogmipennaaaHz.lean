/- container/heap's Push, Pop, Remove, Fix, of a queue. No condition of the program's own. -/
import Derived.Test.YtgfpogmipennaaaDq
namespace Go.Proofs.Ytgfpogmipennaaa
open Go.RowKit Go.Deep
/-- A heap again: what it holds. -/
structure Heap (w w' : World) (B : Nat) (F : Nat → Prop) (l' : List It) : Prop where
  q : QS w' B l' F
  only : OnlyF F w w'
  hp : Hp l'.length (itm l')
theorem itm_append (l : List It) (x : It) (k : Nat) (h : k < l.length) : itm (l ++ [x]) k = itm l k := by
  unfold itm List.getD; rw [List.getElem?_append_left h]
theorem split_last {n : Nat} {l : List It} (h : l.length = n + 1) : l = l.take n ++ [itm l n] := by
  have h1 := List.take_append_drop n l
  rw [List.drop_eq_getElem_cons (by omega), List.drop_eq_nil_of_le (by omega)] at h1
  rw [show itm l n = l[n] by unfold itm List.getD; rw [List.getElem?_eq_getElem (by omega)]; rfl]
  exact h1.symm
theorem hp_take {n : Nat} {l : List It} (h : l.length = n + 1) (hp : Hp n (itm l)) : Hp (l.take n).length (itm (l.take n)) := by
  have e : (l.take n).length = n := by rw [List.length_take]; omega
  rw [e]
  have ei : ∀ k, k < n → itm (l.take n) k = itm l k := fun k hk => by unfold itm List.getD; rw [List.getElem?_take, if_pos hk]
  intro c c0 cn
  rw [ei _ (by omega), ei c cn]
  exact hp c c0 cn
set_option maxRecDepth 100000 in
theorem heap_push (B : Nat) (l : List It) (x : It) (F : Nat → Prop) (w : World) (h : QS w B l F) (hp : Hp l.length (itm l)) (hx : ∀ y ∈ l, y.1 ≠ x.1) (hl : l.length ≤ 1099511627770) (hN : ∀ k, w.heap.size ≤ k → F k) :
    Calls Try.prog 25 #[.iface 58 (.pointer (some ⟨B, 0, none⟩)), .iface 56 (.agg #[.int .i64 x.1, .int .i64 x.2])] w fun e w' => e = .returned (.tuple #[]) ∧ ∃ l', Heap w w' B F l' ∧ l'.Perm (l ++ [x]) := by
  have e1 := m_push
  have e2 := m_len
  have y1 : IntKind.i64.wrap (((l ++ [x]).length : Int) - 1) = (l.length : Int) := by rw [IntKind.wrap_i64, List.length_append, List.length_singleton]; omega
  obtain ⟨n1, hn1⟩ : ∃ n1, n1 = (l ++ [x]).length := ⟨_, rfl⟩
  rw [← hn1] at y1
  have hu : Hid (HU (l ++ [x]).length (itm (l ++ [x])) l.length) := Lib.hid (by
    have a := hp.push x
    have e : itm (l ++ [x]) = fun k => if k = l.length then x else itm l k := by
      funext k
      by_cases e : k = l.length
      · rw [if_pos e, e, itm_last]
      · rw [if_neg e]
        by_cases e2 : k < l.length
        · exact itm_append l x k e2
        · unfold itm List.getD
          rw [List.getElem?_eq_none (by simp; omega), List.getElem?_eq_none (by omega)]
    rw [e, List.length_append, List.length_singleton]
    exact a)
  have HN1 := Lib.hid hn1
  have hL : Hid ((l ++ [x]).length ≤ 1099511627776) := Lib.hid (by simp; omega)
  have hlt : Hid (l.length < (l ++ [x]).length) := Lib.hid (by simp)
  clear hn1
  go_enter Try.func25, Try.ntmps25
  go_wp2_with fail
  refine (pushq B l x F w h hx (by omega) hN).mono ?_
  rintro e w1 ⟨rfl, q1, o1⟩
  go_wp2_with fail
  refine (lenq B (l ++ [x]) F w1 q1).mono ?_
  rintro e w2 ⟨rfl, rfl⟩
  rw [← HN1.out]
  go_wp2_with fail
  refine (up_q B l.length (l ++ [x]).length (l ++ [x]) F w1 q1 (Nat.le_refl _) hL.out hlt.out hu.out).mono ?_
  rintro e w2 ⟨rfl, l', S, hp'⟩
  go_wp2_with fail
  go_end0
  exact ⟨rfl, l', ⟨S.q, o1.trans S.only, by rw [S.len]; exact hp'⟩, S.perm⟩
set_option maxRecDepth 100000 in
theorem heap_pop (B : Nat) (l : List It) (F : Nat → Prop) (w : World) (h : QS w B l F) (hp : Hp l.length (itm l)) (h0 : 0 < l.length) (hl : l.length ≤ 1099511627770) :
    Calls Try.prog 33 #[.iface 58 (.pointer (some ⟨B, 0, none⟩))] w fun e w' => (∃ v, e = .returned v) ∧ ∃ l', Heap w w' B F l' ∧ l.Perm (itm l 0 :: l') := by
  have e1 := m_swap
  have e2 := m_len
  have e3 := m_pop
  obtain ⟨n, hn⟩ : ∃ n, n + 1 = l.length := ⟨l.length - 1, by omega⟩
  have y1 : IntKind.i64.wrap ((l.length : Int) - 1) = (n : Int) := by rw [IntKind.wrap_i64]; omega
  have hL : Hid (n + 1 = l.length) := Lib.hid hn
  have z0 : Hid (HX n (itm (lswap l 0 n)) 0) := Lib.hid (by
    rw [lswap_itm l 0 n (by omega) (by omega)]
    have hp2 := hp.less (m := n + 1) (by omega)
    by_cases hn0 : 0 < n
    · exact (hp2.less (m := n) (by omega)).hx (fun k hk h0 => by unfold swp; rw [if_neg h0, if_neg (by omega)]) hn0
    · exact ⟨fun c c0 cn => by omega, fun c c0 cn => by omega⟩)
  clear hn
  go_enter Try.func33, Try.ntmps33
  go_wp2_with fail
  refine (lenq B l F w h).mono ?_
  rintro e w1 ⟨rfl, rfl⟩
  go_wp2_with fail
  refine (swap_q B 0 n l F w h h0 (by have := hL.out; omega)).mono ?_
  rintro e w1 ⟨rfl, q1, o1⟩
  go_wp2_with fail
  refine (down_q B 0 n (lswap l 0 n) F w1 q1 (by rw [lswap_len]; have := hL.out; omega) (by rw [lswap_len]; omega) (Nat.zero_le _) z0.out).mono ?_
  rintro e w2 ⟨b, l2, rfl, S, p1, p2⟩
  have hp2 : Hid (Hp n (itm l2)) := Lib.hid (by
    cases b with
    | true => exact p1 rfl
    | false =>
      obtain ⟨e, hu⟩ := p2 rfl
      rw [e]
      exact hu.done (.inl rfl))
  have len2 : l2.length = n + 1 := by rw [S.len, lswap_len, hL.out]
  have last : itm l2 n = itm l 0 := by
    have := S.rest n (Nat.le_refl _)
    rw [lswap_get l 0 n n h0 (by have := hL.out; omega), if_pos rfl] at this
    exact itm_of this
  have hsplit := split_last len2
  rw [last] at hsplit
  have QL := S.q
  rw [hsplit] at QL
  have LEN2 := Lib.hid len2
  have HS := Lib.hid hsplit
  have SL := Lib.hid S.len
  have pl : l2.Perm l := S.perm.trans (lswap_perm l 0 n h0 (by have := hL.out; omega))
  clear p1 p2 hsplit last
  go_wp2_with fail
  refine (popq B (l2.take n) (itm l 0) F w2 QL (by rw [List.length_take]; have := LEN2.out; have := hL.out; omega)).mono ?_
  rintro e w3 ⟨rfl, q3, o3⟩
  go_wp2_with fail
  go_ret
  refine ⟨⟨_, rfl⟩, l2.take n, ⟨q3, (o1.trans S.only).trans o3, hp_take LEN2.out hp2.out⟩, pl.symm.trans ?_⟩
  have := List.perm_append_comm (l₁ := l2.take n) (l₂ := [itm l 0])
  rw [← HS.out] at this
  exact this
set_option maxRecDepth 100000 in
theorem heap_fix (B i : Nat) (l : List It) (F : Nat → Prop) (w : World) (h : QS w B l F) (hx : HX l.length (itm l) i) (hi : i < l.length) (hl : l.length ≤ 1099511627770) :
    Calls Try.prog 24 #[.iface 58 (.pointer (some ⟨B, 0, none⟩)), .int .i64 i] w fun e w' => e = .returned (.tuple #[]) ∧ ∃ l', Heap w w' B F l' ∧ l'.Perm l := by
  have e2 := m_len
  go_enter Try.func24, Try.ntmps24
  go_wp2_with fail
  refine (lenq B l F w h).mono ?_
  rintro e w1 ⟨rfl, rfl⟩
  go_wp2_with fail
  refine (down_q B i l.length l F w h (Nat.le_refl _) (by omega) (by omega) hx).mono ?_
  rintro e w2 ⟨b, l2, rfl, S, p1, p2⟩
  have SL := Lib.hid S.len
  cases b with
  | true =>
    have P1 := Lib.hid (p1 rfl)
    clear p1 p2
    go_wp2_with fail
    go_end0
    exact ⟨rfl, l2, ⟨S.q, S.only, by rw [SL.out]; exact P1.out⟩, S.perm⟩
  | false =>
    obtain ⟨e, hu⟩ := p2 rfl
    subst e
    have HU1 := Lib.hid hu
    clear p1 p2 hu
    go_wp2_with fail
    refine (up_q B i l2.length l2 F w2 S.q (Nat.le_refl _) (by omega) hi HU1.out).mono ?_
    rintro e w3 ⟨rfl, l3, S3, hp3⟩
    go_wp2_with fail
    go_end0
    exact ⟨rfl, l3, ⟨S3.q, S.only.trans S3.only, by rw [S3.len]; exact hp3⟩, S3.perm⟩
end Go.Proofs.Ytgfpogmipennaaa
