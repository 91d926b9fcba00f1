/- replica.Same of a node and itself. Conditions: none of the program's own. -/
import Derived.Test.YtjhnipnocjoelaaPp15
namespace Go.Proofs.Ytjhnipnocjoelaa
open Go.RowKit Go.Deep Go.ChangeShapes
theorem Has.entry {w : World} {lim : Nat} {A : Option Addr} {l : List (Int × ByteArray)} {k : Nat} {x : Int × ByteArray} (h : Has w lim A (es l)) (hx : l[k]? = some x) : ∃ b off, A = some ⟨b, off, none⟩ ∧ b < lim ∧ w.cell? ⟨b, off + k * 2, none⟩ = some (.int .i64 x.1) ∧ w.cell? ⟨b, off + k * 2 + 1, none⟩ = some (.string x.2) := by
  obtain ⟨h0, h1⟩ := es_at l k x hx
  rcases h with h | ⟨b, off, rfl, hb, hc⟩
  · rw [h] at h0; simp at h0
  · exact ⟨b, off, rfl, hb, hc _ _ h0, by have := hc _ _ h1; rw [← Nat.add_assoc] at this; exact this⟩
set_option maxRecDepth 100000 in
set_option maxHeartbeats 1000000 in
theorem equal_self (A B : Option Addr) (c d : Nat) (l : List (Int × ByteArray)) (w : World) (hA : Has w w.heap.size A (es l)) (hB : Has w w.heap.size B (es l)) (hl : l.length ≤ 1099511627776) :
    Calls Try.prog 42 #[.slice A l.length c, .slice B l.length d] w fun e w' => e = .returned (.bool true) ∧ w.grownBy w' none := by
  have HA := Lib.hid hA
  have HB := Lib.hid hB
  clear hA hB
  go_enter Try.func42, Try.ntmps42
  go_wp2_with fail
  go_loopw [5, 13] (fun _ si wr => ∃ k : Nat, k ≤ l.length ∧ si = .int .i64 k ∧ Hid (w.grownBy wr none)) (fun _ si _ => l.length - (intOf si).toNat)
  case atStart => exact ⟨0, Nat.zero_le _, rfl, only_refl _ _⟩
  case round =>
    obtain ⟨k, hk, rfl, hG⟩ := hrel
    by_cases hlt : k < l.length
    · obtain ⟨x, hx⟩ : ∃ x, l[k]? = some x := ⟨_, List.getElem?_eq_getElem (by omega)⟩
      obtain ⟨b, off, rfl, hb, x1, x2⟩ := (HA.out.up hG.out).entry hx
      obtain ⟨b', off', rfl, hb', y1, y2⟩ := (HB.out.up hG.out).entry hx
      clear hx hb hb'
      obtain ⟨p1, p2⟩ := x
      dsimp only at x1 x2 y1 y2
      go_wp2_with fail
      go_quiet (fail)
      go_wp2_with fail
      go_roundw
      case rel => exact ⟨k + 1, hlt, by go_num, only_drewN hG.out _⟩
      case measure => simp [intOf]; omega
    · have hkl : k = l.length := by omega
      go_wp2_with fail
      go_ret
      exact ⟨rfl, hG.out⟩
@[go_sem] theorem eqB (a b c : Bool) (w : World) : (Op.equalIn 10000 34 (.agg #[.bool a, .bool b, .bool c]) (.agg #[.bool a, .bool b, .bool c])).run Try.prog w = .ok true w := by
  have u3 := Try.underlying4
  have a3 := Try.isAgg4
  have z3 := Try.sizeOf4
  rw [show (10000 : Nat) = 9999 + 1 from rfl, Op.equalIn]
  simp only [Sem.run_bind, run_underlying Try.underlying34, Result.andThen_ok]
  simp only [Std.Legacy.Range.forIn_eq_forIn_range', Std.Legacy.Range.size, Nat.sub_zero, Nat.add_sub_cancel, Nat.div_one, List.range'_succ, List.range'_zero, List.forIn_cons, List.forIn_nil]
  go_simp
@[go_sem] theorem eqI (a b c : Int) (w : World) : (Op.equalIn 10000 35 (.agg #[.int .i64 a, .int .i64 b, .int .i64 c]) (.agg #[.int .i64 a, .int .i64 b, .int .i64 c])).run Try.prog w = .ok true w := by
  have u3 := Try.underlying3
  have a3 := Try.isAgg3
  have z3 := Try.sizeOf3
  rw [show (10000 : Nat) = 9999 + 1 from rfl, Op.equalIn]
  simp only [Sem.run_bind, run_underlying Try.underlying35, Result.andThen_ok]
  simp only [Std.Legacy.Range.forIn_eq_forIn_range', Std.Legacy.Range.size, Nat.sub_zero, Nat.add_sub_cancel, Nat.div_one, List.range'_succ, List.range'_zero, List.forIn_cons, List.forIn_nil]
  go_simp
set_option maxRecDepth 100000 in
set_option maxHeartbeats 8000000 in
theorem same_self (n : Nd) (A B : Option Addr) (c d : Nat) (w : World) (hA : Has w w.heap.size A (es n.log)) (hB : Has w w.heap.size B (es n.log)) (hl : n.log.length ≤ 1099511627776) :
    Calls Try.prog 15 #[n.val (.slice A n.log.length c), n.val (.slice B n.log.length d)] w fun e w' => e = .returned (.bool true) ∧ w.grownBy w' none := by
  obtain ⟨w1, hw1⟩ : ∃ w1, w.alloc (.cells (n.cells (.slice A n.log.length c)) 37) = w1 := ⟨_, rfl⟩
  obtain ⟨w2, hw2⟩ : ∃ w2, w1.alloc (.cells (n.cells (.slice B n.log.length d)) 37) = w2 := ⟨_, rfl⟩
  have g1 : w.grownBy w1 none := by subst hw1; exact World.grownBy_alloc w _ none
  have ga : w1.grownBy w2 none := by subst hw2; exact World.grownBy_alloc w1 _ none
  have z1 : w1.heap.size = w.heap.size + 1 := by subst hw1; simp
  have N1 : NB w2 w.heap.size n (.slice A n.log.length c) := NB.grow (by subst hw1; exact NB.new w n _) ga
  have N2 : NB w2 (w.heap.size + 1) n (.slice B n.log.length d) := by subst hw2; rw [← z1]; exact NB.new w1 n _
  have g2 := only_step g1 ga (fun _ h => .inl h)
  have HE := Lib.hid (equal_self A B c d n.log w2 (hA.up g2) (hB.up g2) hl)
  obtain ⟨p, hp⟩ : ∃ p, w.heap.size = p := ⟨_, rfl⟩
  rw [hp] at N1 N2 z1
  have a0 : w2.cell? ⟨p, 0, none⟩ = some (.int .i64 n.id) := N1.cell 0 _ rfl
  have a1 : w2.cell? ⟨p, 1, none⟩ = some (.int .i64 n.term) := N1.cell 1 _ rfl
  have a2 : w2.cell? ⟨p, 2, none⟩ = some (.int .i64 n.vote) := N1.cell 2 _ rfl
  have a3 : w2.cell? ⟨p, 3, none⟩ = some (.int .i64 n.base) := N1.cell 3 _ rfl
  have a4 : w2.cell? ⟨p, 4, none⟩ = some (.int .i64 n.bt) := N1.cell 4 _ rfl
  have a5 : w2.cell? ⟨p, 5, none⟩ = some (.string n.snap) := N1.cell 5 _ rfl
  have a6 : w2.cell? ⟨p, 6, none⟩ = some (.slice A n.log.length c) := N1.cell 6 _ rfl
  have b0 : w2.cell? ⟨(p + 1), 0, none⟩ = some (.int .i64 n.id) := N2.cell 0 _ rfl
  have b1 : w2.cell? ⟨(p + 1), 1, none⟩ = some (.int .i64 n.term) := N2.cell 1 _ rfl
  have b2 : w2.cell? ⟨(p + 1), 2, none⟩ = some (.int .i64 n.vote) := N2.cell 2 _ rfl
  have b3 : w2.cell? ⟨(p + 1), 3, none⟩ = some (.int .i64 n.base) := N2.cell 3 _ rfl
  have b4 : w2.cell? ⟨(p + 1), 4, none⟩ = some (.int .i64 n.bt) := N2.cell 4 _ rfl
  have b5 : w2.cell? ⟨(p + 1), 5, none⟩ = some (.string n.snap) := N2.cell 5 _ rfl
  have b6 : w2.cell? ⟨(p + 1), 6, none⟩ = some (.slice B n.log.length d) := N2.cell 6 _ rfl
  have HG := Lib.hid g2
  have H1 := Lib.hid N1
  have H2 := Lib.hid N2
  clear N1 N2 g1 ga g2 hA hB hl
  unfold Nd.cells at hw1 hw2
  unfold Nd.val
  go_enter Try.func15, Try.ntmps15
  go_wp2_with (go_at_call 42; refine HE.out.mono ?_; rintro _ w3 ⟨rfl, g3⟩; have N1 := H1.out.grow g3; have N2 := H2.out.grow g3; have d7 : w3.cell? ⟨p, 7, none⟩ = some (.int .i64 n.role) := N1.cell 7 _ rfl; have d8 : w3.cell? ⟨p, 8, none⟩ = some (.int .i64 n.cm) := N1.cell 8 _ rfl; have d9 : w3.cell? ⟨p, 9, none⟩ = some (.int .i64 n.wait) := N1.cell 9 _ rfl; have d10 : w3.cell? ⟨p, 10, none⟩ = some (.bool n.v0) := N1.cell 10 _ rfl; have d11 : w3.cell? ⟨p, 11, none⟩ = some (.bool n.v1) := N1.cell 11 _ rfl; have d12 : w3.cell? ⟨p, 12, none⟩ = some (.bool n.v2) := N1.cell 12 _ rfl; have d13 : w3.cell? ⟨p, 13, none⟩ = some (.int .i64 n.x0) := N1.cell 13 _ rfl; have d14 : w3.cell? ⟨p, 14, none⟩ = some (.int .i64 n.x1) := N1.cell 14 _ rfl; have d15 : w3.cell? ⟨p, 15, none⟩ = some (.int .i64 n.x2) := N1.cell 15 _ rfl; have d16 : w3.cell? ⟨p, 16, none⟩ = some (.int .i64 n.y0) := N1.cell 16 _ rfl; have d17 : w3.cell? ⟨p, 17, none⟩ = some (.int .i64 n.y1) := N1.cell 17 _ rfl; have d18 : w3.cell? ⟨p, 18, none⟩ = some (.int .i64 n.y2) := N1.cell 18 _ rfl; have e7 : w3.cell? ⟨(p + 1), 7, none⟩ = some (.int .i64 n.role) := N2.cell 7 _ rfl; have e8 : w3.cell? ⟨(p + 1), 8, none⟩ = some (.int .i64 n.cm) := N2.cell 8 _ rfl; have e9 : w3.cell? ⟨(p + 1), 9, none⟩ = some (.int .i64 n.wait) := N2.cell 9 _ rfl; have e10 : w3.cell? ⟨(p + 1), 10, none⟩ = some (.bool n.v0) := N2.cell 10 _ rfl; have e11 : w3.cell? ⟨(p + 1), 11, none⟩ = some (.bool n.v1) := N2.cell 11 _ rfl; have e12 : w3.cell? ⟨(p + 1), 12, none⟩ = some (.bool n.v2) := N2.cell 12 _ rfl; have e13 : w3.cell? ⟨(p + 1), 13, none⟩ = some (.int .i64 n.x0) := N2.cell 13 _ rfl; have e14 : w3.cell? ⟨(p + 1), 14, none⟩ = some (.int .i64 n.x1) := N2.cell 14 _ rfl; have e15 : w3.cell? ⟨(p + 1), 15, none⟩ = some (.int .i64 n.x2) := N2.cell 15 _ rfl; have e16 : w3.cell? ⟨(p + 1), 16, none⟩ = some (.int .i64 n.y0) := N2.cell 16 _ rfl; have e17 : w3.cell? ⟨(p + 1), 17, none⟩ = some (.int .i64 n.y1) := N2.cell 17 _ rfl; have e18 : w3.cell? ⟨(p + 1), 18, none⟩ = some (.int .i64 n.y2) := N2.cell 18 _ rfl; have HG3 := Lib.hid (only_step HG.out g3 (fun _ h => .inl h)); clear N1 N2 HE H1 H2 g3 a0 b0 a1 b1 a2 b2 a3 b3 a4 b4 a5 b5 a6 b6)
  go_ret
  exact ⟨by first | rfl | simp, HG3.out⟩
end Go.Proofs.Ytjhnipnocjoelaa
