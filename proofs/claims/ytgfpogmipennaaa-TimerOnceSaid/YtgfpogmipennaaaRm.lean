/- container/heap.Remove, of a queue. No condition of the program's own. -/
import Derived.Test.YtgfpogmipennaaaHz
namespace Go.Proofs.Ytgfpogmipennaaa
open Go.RowKit Go.Deep
set_option maxRecDepth 100000 in
set_option maxHeartbeats 1000000 in
theorem heap_remove (B i : Nat) (l : List It) (F : Nat → Prop) (w : World) (h : QS w B l F) (hp : Hp l.length (itm l)) (h0 : i < l.length) (hl : l.length ≤ 1099511627770) :
    Calls Try.prog 26 #[.iface 58 (.pointer (some ⟨B, 0, none⟩)), .int .i64 i] w fun e w' => (∃ v, e = .returned v) ∧ ∃ l', Heap w w' B F l' ∧ l.Perm (itm l i :: l') := by
  have e1 := m_swap
  have e2 := m_len
  have e3 := m_pop
  obtain ⟨n, hn⟩ : ∃ n, n + 1 = l.length := ⟨l.length - 1, by omega⟩
  have y1 : IntKind.i64.wrap ((l.length : Int) - 1) = (n : Int) := by rw [IntKind.wrap_i64]; omega
  have hL : Hid (n + 1 = l.length) := Lib.hid hn
  have hp2 := hp.less (m := n + 1) (by omega)
  by_cases hin : i = n
  · have hS : Hid (l = l.take n ++ [itm l i]) := Lib.hid (by rw [hin]; exact split_last hn.symm)
    have HP := Lib.hid (hp_take hn.symm (hp2.less (m := n) (by omega)))
    have t1 : ((n : Int) == (i : Int)) = true := by rw [beq_iff_eq]; omega
    have Q : Hid (QS w B (l.take n ++ [itm l i]) F) := Lib.hid (by rw [← hS.out]; exact h)
    clear hn hin hp2
    go_enter Try.func26, Try.ntmps26
    go_wp2_with fail
    refine (lenq B l F w h).mono ?_
    rintro e w1 ⟨rfl, rfl⟩
    go_wp2_with fail
    refine (popq B (l.take n) (itm l i) F w Q.out (by rw [List.length_take]; have := hL.out; omega)).mono ?_
    rintro e w3 ⟨rfl, q3, o3⟩
    go_wp2_with fail
    go_ret
    refine ⟨⟨_, rfl⟩, l.take n, ⟨q3, o3, HP.out⟩, ?_⟩
    have := List.perm_append_comm (l₁ := l.take n) (l₂ := [itm l i])
    rw [← hS.out] at this
    exact this
  · have t1 : ((n : Int) == (i : Int)) = false := by rw [beq_eq_false_iff_ne]; omega
    have z0 : Hid (HX n (itm (lswap l i n)) i) := Lib.hid (by
      rw [lswap_itm l i n (by omega) (by omega)]
      exact (hp2.less (m := n) (by omega)).hx (fun k hk h0 => by unfold swp; rw [if_neg h0, if_neg (by omega)]) (by omega))
    have HI : Hid (i < n) := Lib.hid (by omega)
    clear hn hin
    go_enter Try.func26, Try.ntmps26
    go_wp2_with fail
    refine (lenq B l F w h).mono ?_
    rintro e w1 ⟨rfl, rfl⟩
    go_wp2_with fail
    refine (swap_q B i n l F w h h0 (by have := hL.out; omega)).mono ?_
    rintro e w1 ⟨rfl, q1, o1⟩
    go_wp2_with fail
    refine (down_q B i n (lswap l i n) F w1 q1 (by rw [lswap_len]; have := hL.out; omega) (by rw [lswap_len]; omega) (by have := HI.out; omega) z0.out).mono ?_
    rintro e w2 ⟨b, l2, rfl, S, p1, p2⟩
    have last0 : (lswap l i n)[n]? = some (itm l i) := by rw [lswap_get l i n n h0 (by have := hL.out; omega), if_pos rfl]
    have fin : ∀ (W : World) (l3 : List It), Sift w1 W B F n (lswap l i n) l3 → Hp n (itm l3) → l3.length ≤ 1099511627770 ∧ Hid (l3 = l3.take n ++ [itm l i] ∧ Hp (l3.take n).length (itm (l3.take n)) ∧ l3.Perm l) := fun W l3 S3 hp3 => by
      have len3 : l3.length = n + 1 := by rw [S3.len, lswap_len, hL.out]
      have last : itm l3 n = itm l i := by
        have := S3.rest n (Nat.le_refl _)
        rw [last0] at this
        exact itm_of this
      have hsplit := split_last len3
      rw [last] at hsplit
      exact ⟨by have := hL.out; omega, Lib.hid ⟨hsplit, hp_take len3 hp3, S3.perm.trans (lswap_perm l i n h0 (by have := hL.out; omega))⟩⟩
    have endp : ∀ l3 : List It, Hid (l3 = l3.take n ++ [itm l i] ∧ Hp (l3.take n).length (itm (l3.take n)) ∧ l3.Perm l) → l.Perm (itm l i :: l3.take n) := fun l3 hz => by
      have := List.perm_append_comm (l₁ := l3.take n) (l₂ := [itm l i])
      rw [← hz.out.1] at this
      exact hz.out.2.2.symm.trans this
    cases b with
    | true =>
      obtain ⟨f1, f2⟩ := fin w2 l2 S (p1 rfl)
      have QL := S.q
      rw [f2.out.1] at QL
      have QH := Lib.hid QL
      have EP := Lib.hid (endp l2 f2)
      clear p1 p2 fin endp QL last0
      go_wp2_with fail
      refine (popq B (l2.take n) (itm l i) F w2 QH.out (by rw [List.length_take]; omega)).mono ?_
      rintro e w3 ⟨rfl, q3, o3⟩
      go_wp2_with fail
      go_ret
      exact ⟨⟨_, rfl⟩, l2.take n, ⟨q3, (o1.trans S.only).trans o3, f2.out.2.1⟩, EP.out⟩
    | false =>
      obtain ⟨e, hu⟩ := p2 rfl
      have HU1 := Lib.hid hu
      have SL := Lib.hid S.len
      subst e
      have FIN := Lib.hid fin
      have EP := Lib.hid endp
      clear p1 p2 hu fin endp last0
      go_wp2_with fail
      refine (up_q B i n (lswap l i n) F w2 S.q (by rw [lswap_len]; have := hL.out; omega) (by rw [lswap_len]; omega) HI.out HU1.out).mono ?_
      rintro e w3 ⟨rfl, l3, S3, hp3⟩
      obtain ⟨f1, f2⟩ := FIN.out w3 l3 ⟨S3.q, S.only.trans S3.only, S3.perm, S3.rest⟩ hp3
      have QL := S3.q
      rw [f2.out.1] at QL
      have QH := Lib.hid QL
      clear QL
      go_wp2_with fail
      refine (popq B (l3.take n) (itm l i) F w3 QH.out (by rw [List.length_take]; omega)).mono ?_
      rintro e w4 ⟨rfl, q3, o3⟩
      go_wp2_with fail
      go_ret
      exact ⟨⟨_, rfl⟩, l3.take n, ⟨q3, ((o1.trans S.only).trans S3.only).trans o3, f2.out.2.1⟩, EP.out l3 f2⟩
end Go.Proofs.Ytgfpogmipennaaa
