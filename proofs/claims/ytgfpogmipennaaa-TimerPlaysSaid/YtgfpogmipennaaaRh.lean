/- The reference's Set and Due. No condition of the program's own. -/
import Derived.Test.YtgfpogmipennaaaRg
namespace Go.Proofs.Ytgfpogmipennaaa
open Go.RowKit Go.Deep
theorem ins_split (x : It) : ∀ (A C : List It), (∀ y ∈ A, ilt y x) → (∀ z r, C = z :: r → ¬ ilt z x) → ins x (A ++ C) = A ++ x :: C
  | [], C, _, hC => by
    cases C with
    | nil => rfl
    | cons z r => show ins x (z :: r) = _; unfold ins; rw [if_neg (hC z r rfl)]; rfl
  | y :: A, C, hA, hC => by
    show ins x (y :: (A ++ C)) = _
    unfold ins
    rw [if_pos (hA y (by simp)), ins_split x A C (fun z hz => hA z (by simp [hz])) hC]
    rfl
theorem RG.trans {w w1 w2 : World} {Bx : Nat} {A A1 A2 : Option Addr} {S1 S2 : List It} {c1 c2 : Nat} (h : RG w w1 Bx A S1 A1 c1) (k : RG w1 w2 Bx A1 S2 A2 c2) : RG w w2 Bx A S2 A2 c2 :=
  ⟨k.rs, only_step h.only k.only (fun q hq => .inl hq), fun b off sp e => by
    rcases k.blk b off sp e with ⟨o1, s1, e1⟩ | h1
    · exact h.blk b o1 s1 e1
    · exact .inr (Nat.le_trans h.only.size h1)⟩
set_option maxRecDepth 100000 in
set_option maxHeartbeats 2000000 in
theorem rset (Bx : Nat) (id at_ : Int) (A : Option Addr) (c : Nat) (S : List It) (w : World) (h : RS w Bx A c S) (hl : S.length ≤ 1099511627770) :
    Calls Try.prog 15 #[.pointer (some ⟨Bx, 0, none⟩), .int .i64 id, .int .i64 at_] w fun e w' => e = .returned (.int .i64 (setR id S)) ∧ ∃ A' c', RG w w' Bx A (setT id at_ S) A' c' := by
  by_cases h0 : id < 0
  · have hr : setR id S = 1 := by unfold setR; rw [if_pos h0]
    have ht : setT id at_ S = S := by unfold setT; rw [if_neg (by rw [hr]; decide)]
    rw [hr, ht]
    clear hr ht
    go_enter Try.func15, Try.ntmps15
    go_wp2_with fail
    go_ret
    exact ⟨rfl, A, c, h, only_refl _ _, fun b off sp e => .inl ⟨off, sp, e⟩⟩
  · obtain ⟨S1, hS1⟩ : ∃ S1, S1 = del id S := ⟨_, rfl⟩
    have dl : S1.length ≤ S.length := by rw [hS1]; exact List.length_filter_le _ _
    have RC := Lib.hid (rcancel Bx id A c S w h hl)
    rw [← hS1] at RC
    by_cases hin : isIn id S = true ∨ S.length < 100
    · have hr : setR id S = 0 := by unfold setR; rw [if_neg h0, if_pos hin]
      have ht : setT id at_ S = ins (id, at_) S1 := by unfold setT setS; rw [if_pos hr, hS1]
      have LS : S1.length ≤ 1099511627770 := by omega
      have LS2 := Lib.hid LS
      have hb2 : isIn id S = false → decide ((100 : Int) ≤ ((S1.length : Nat) : Int)) = false := fun e => by
        rw [decide_eq_false_iff_not]
        rcases hin with hh | hh
        · rw [e] at hh; cases hh
        · omega
      rw [hr, ht]
      cases hb : isIn id S with
      | true =>
        have HB := Lib.hid hb
        clear hr ht hin hb2 hb h
        go_enter Try.func15, Try.ntmps15
        go_wp2_with fail
        refine RC.out.mono ?_
        rintro e w1 ⟨rfl, A1, c1, g1⟩
        rw [HB.out]
        have cB := g1.rs.cell
        have G1 := Lib.hid g1
        clear g1 hS1 dl
        go_wp2_with fail
        go_loopw [8] (fun sk wr => ∃ (k : Nat), sk = .int .i64 k ∧ k ≤ S1.length ∧ Hid (∀ y ∈ S1.take k, ilt y (id, at_)) ∧ w1 = wr) (fun sk _ => S1.length - (intOf sk).toNat)
        case atStart => exact ⟨0, rfl, Nat.zero_le _, Lib.hid (fun y hy => by simp at hy), by trivial⟩
        case round =>
          obtain ⟨k, rfl, hk, P, rfl⟩ := hrel
          have kes : IntKind.i64.wrap ((k : Int) + 1) = (k : Int) + 1 := by rw [IntKind.wrap_i64]; omega
          have k0 : (0 : Int) ≤ (k : Int) := by omega
          by_cases t1 : (k : Int) < (S1.length : Int)
          · obtain ⟨y, hy⟩ : ∃ y, S1[k]? = some y := ⟨S1[k]'(by omega), by simp⟩
            obtain ⟨b, off, rfl, _, cy1, cy2⟩ := G1.out.rs.vw.has.rng hy
            have HY := Lib.hid hy
            have NX : ilt y (id, at_) → Hid (∀ z ∈ S1.take (k + 1), ilt z (id, at_)) := fun hlt => Lib.hid (fun z hz => by
              rw [List.take_add_one, HY.out] at hz
              rcases List.mem_append.1 hz with hz | hz
              · exact P.out z hz
              · simp at hz; subst hz; exact hlt)
            have HD : ¬ ilt y (id, at_) → Hid (∀ z r, S1.drop k = z :: r → ¬ ilt z (id, at_)) := fun hn => Lib.hid (fun z r e => by
              obtain ⟨hh, rr⟩ := List.getElem?_eq_some_iff.1 HY.out
              rw [List.drop_eq_getElem_cons hh, rr] at e
              injection e with e1 _
              rw [← e1]; exact hn)
            clear hy
            by_cases m1 : y.2 < at_
            · have d1 : decide (y.2 < at_) = true := by rw [decide_eq_true_iff]; exact m1
              have N := NX (.inl m1)
              clear NX HD
              go_wp2_with fail
              go_roundw
              case rel => exact ⟨k + 1, by go_num, by omega, N, by trivial⟩
              case measure => simp [intOf]; omega
            · have d1 : decide (y.2 < at_) = false := by rw [decide_eq_false_iff_not]; exact m1
              by_cases m2 : y.2 = at_
              · have d2 : (y.2 == at_) = true := by rw [beq_iff_eq]; exact m2
                by_cases m3 : y.1 < id
                · have d3 : decide (y.1 < id) = true := by rw [decide_eq_true_iff]; exact m3
                  have N := NX (.inr ⟨m2, m3⟩)
                  clear NX HD m2
                  go_wp2_with fail
                  go_roundw
                  case rel => exact ⟨k + 1, by go_num, by omega, N, by trivial⟩
                  case measure => simp [intOf]; omega
                · have d3 : decide (y.1 < id) = false := by rw [decide_eq_false_iff_not]; exact m3
                  have N := HD (fun h => h.elim m1 (fun h => m3 h.2))
                  clear NX HD m2
                  have IS := Lib.hid (ins_split (id, at_) (S1.take k) (S1.drop k) P.out N.out)
                  rw [List.take_append_drop] at IS
                  have VW := Lib.hid G1.out.rs.vw
                  have zB : ∀ W : World, w1.grownBy W none → W.cell? ⟨Bx, 0, none⟩ = some (.slice (some ⟨b, off, none⟩) S1.length c1) := fun W g => (G1.out.rs.keep g).cell
                  have fz : ∀ W : World, w1.grownBy W none → W.frozen? ⟨Bx, 0, none⟩ = false := fun W g => (G1.out.rs.keep g).thaw
                  have s1 := slice_hi VW.out k hk
                  obtain ⟨A2, s2, v2, _⟩ := slice_lo VW.out k hk
                  have V2 := Lib.hid v2
                  have gE := World.grownBy_alloc w1 (.cells #[] 61) none
                  have OE : Hid ((w1.alloc (.cells #[] 61)).ownsRow w1.heap.size 61 2 (.slice (some ⟨w1.heap.size, 0, none⟩) 0 0) 0 []) := Lib.hid (World.ownsRow_lit w1 #[] 0 (Nat.le_refl _) (Nat.zero_le _) rfl)
                  have SE := Lib.hid ((VW.out.up gE).src k c1 hk)
                  have zE : w1.heap.size ≤ (w1.alloc (.cells #[] 61)).heap.size := gE.size
                  have cE := zB _ gE
                  have GE := Lib.hid gE
                  have LK := Lib.hid (show 0 + k ≤ 2199023255552 by have := LS2.out; omega)
                  clear v2 gE LS
                  go_wp2_with (first
                    | (at_builtin; refine app_rit rfl _ _ 37 rfl w1.heap.size (.slice (some ⟨w1.heap.size, 0, none⟩) 0 0) 0 [] rfl OE.out (.slice (some ⟨b, off, none⟩) k c1) k (pc (S1.take k)) rfl SE.out LK.out zE ?_; intro v5 w5 g5; rw [List.nil_append, Nat.zero_add] at g5; have O5 := Lib.hid (g5.own.kept (World.grownBy_alloc w5 (.cells #[.int .i64 id, .int .i64 at_] 61) none) (by cases v5.ownBlock <;> simp)); have F5 := Lib.hid (fun q hq => row_ge g5.own q hq); have G5 := Lib.hid (only_alloc (only_step GE.out g5.only (fun q hq => by cases hq; exact .inr (Nat.le_refl _)) : w1.grownBy w5 none) (.cells #[.int .i64 id, .int .i64 at_] 61)); have S5 := Lib.hid (src_rit w5 (id, at_) 61); have z5 : w1.heap.size ≤ (w5.alloc (.cells #[.int .i64 id, .int .i64 at_] 61)).heap.size := G5.out.size; have L5 := Lib.hid (show k + 1 ≤ 2199023255552 by have := LS2.out; omega); clear g5)
                    | (at_builtin; refine app_rit rfl _ _ 37 rfl w1.heap.size v5 k (pc (S1.take k)) rfl O5.out (.slice (some ⟨w5.heap.size, 0, none⟩) 1 1) 1 (pc [(id, at_)]) rfl S5.out L5.out z5 ?_; intro v6 w6 g6; rw [← pc_append] at g6; have O6 := Lib.hid g6.own; have F6 := Lib.hid (fun q hq => row_ge g6.own q hq); have G6 := Lib.hid (only_step G5.out g6.only (fun q hq => .inr (F5.out q hq)) : w1.grownBy w6 none); have c6 := zB _ G6.out; have S6 := Lib.hid (by have := ((V2.out.keep G6.out (Nat.le_refl _))).src (S1.length - k) (c1 - k) (by rw [List.length_drop]; exact Nat.le_refl _); rw [List.take_of_length_le (by rw [List.length_drop]; exact Nat.le_refl _)] at this; exact this : Src Try.prog 2 37 (.slice A2 (S1.length - k) (c1 - k)) (S1.length - k) (pc (S1.drop k)) w6); have z6 : w1.heap.size ≤ w6.heap.size := G6.out.size; have L6 := Lib.hid (show (k + 1) + (S1.length - k) ≤ 2199023255552 by have := LS2.out; omega); clear g6)
                    | (at_builtin; refine app_rit rfl _ _ 37 rfl w1.heap.size v6 (k + 1) (pc (S1.take k ++ [(id, at_)])) rfl O6.out (.slice A2 (S1.length - k) (c1 - k)) (S1.length - k) (pc (S1.drop k)) rfl S6.out L6.out z6 ?_; intro v7 w7 g7; rw [← pc_append] at g7; obtain ⟨A7, c7, rfl⟩ := row_slice g7.own; have G7 := Lib.hid (only_step G6.out g7.only (fun q hq => .inr (F6.out q hq)) : w1.grownBy w7 none); have c7b := zB _ G7.out; have f7b := fz _ G7.out; have R7 := Lib.hid (G1.out.trans (G1.out.rs.store G7.out (Nat.le_refl _) g7.own)); clear g7))
                  go_ret
                  refine ⟨rfl, A7, c7, ?_⟩
                  rw [IS.out]
                  have hr := R7.out
                  rw [List.append_assoc] at hr
                  exact hr
              · have d2 : (y.2 == at_) = false := by rw [beq_eq_false_iff_ne]; exact m2
                have N := HD (fun h => h.elim m1 (fun h => m2 h.1))
                clear NX HD m2
                have IS := Lib.hid (ins_split (id, at_) (S1.take k) (S1.drop k) P.out N.out)
                rw [List.take_append_drop] at IS
                have VW := Lib.hid G1.out.rs.vw
                have zB : ∀ W : World, w1.grownBy W none → W.cell? ⟨Bx, 0, none⟩ = some (.slice (some ⟨b, off, none⟩) S1.length c1) := fun W g => (G1.out.rs.keep g).cell
                have fz : ∀ W : World, w1.grownBy W none → W.frozen? ⟨Bx, 0, none⟩ = false := fun W g => (G1.out.rs.keep g).thaw
                have s1 := slice_hi VW.out k hk
                obtain ⟨A2, s2, v2, _⟩ := slice_lo VW.out k hk
                have V2 := Lib.hid v2
                have gE := World.grownBy_alloc w1 (.cells #[] 61) none
                have OE : Hid ((w1.alloc (.cells #[] 61)).ownsRow w1.heap.size 61 2 (.slice (some ⟨w1.heap.size, 0, none⟩) 0 0) 0 []) := Lib.hid (World.ownsRow_lit w1 #[] 0 (Nat.le_refl _) (Nat.zero_le _) rfl)
                have SE := Lib.hid ((VW.out.up gE).src k c1 hk)
                have zE : w1.heap.size ≤ (w1.alloc (.cells #[] 61)).heap.size := gE.size
                have cE := zB _ gE
                have GE := Lib.hid gE
                have LK := Lib.hid (show 0 + k ≤ 2199023255552 by have := LS2.out; omega)
                clear v2 gE LS
                go_wp2_with (first
                  | (at_builtin; refine app_rit rfl _ _ 37 rfl w1.heap.size (.slice (some ⟨w1.heap.size, 0, none⟩) 0 0) 0 [] rfl OE.out (.slice (some ⟨b, off, none⟩) k c1) k (pc (S1.take k)) rfl SE.out LK.out zE ?_; intro v5 w5 g5; rw [List.nil_append, Nat.zero_add] at g5; have O5 := Lib.hid (g5.own.kept (World.grownBy_alloc w5 (.cells #[.int .i64 id, .int .i64 at_] 61) none) (by cases v5.ownBlock <;> simp)); have F5 := Lib.hid (fun q hq => row_ge g5.own q hq); have G5 := Lib.hid (only_alloc (only_step GE.out g5.only (fun q hq => by cases hq; exact .inr (Nat.le_refl _)) : w1.grownBy w5 none) (.cells #[.int .i64 id, .int .i64 at_] 61)); have S5 := Lib.hid (src_rit w5 (id, at_) 61); have z5 : w1.heap.size ≤ (w5.alloc (.cells #[.int .i64 id, .int .i64 at_] 61)).heap.size := G5.out.size; have L5 := Lib.hid (show k + 1 ≤ 2199023255552 by have := LS2.out; omega); clear g5)
                  | (at_builtin; refine app_rit rfl _ _ 37 rfl w1.heap.size v5 k (pc (S1.take k)) rfl O5.out (.slice (some ⟨w5.heap.size, 0, none⟩) 1 1) 1 (pc [(id, at_)]) rfl S5.out L5.out z5 ?_; intro v6 w6 g6; rw [← pc_append] at g6; have O6 := Lib.hid g6.own; have F6 := Lib.hid (fun q hq => row_ge g6.own q hq); have G6 := Lib.hid (only_step G5.out g6.only (fun q hq => .inr (F5.out q hq)) : w1.grownBy w6 none); have c6 := zB _ G6.out; have S6 := Lib.hid (by have := ((V2.out.keep G6.out (Nat.le_refl _))).src (S1.length - k) (c1 - k) (by rw [List.length_drop]; exact Nat.le_refl _); rw [List.take_of_length_le (by rw [List.length_drop]; exact Nat.le_refl _)] at this; exact this : Src Try.prog 2 37 (.slice A2 (S1.length - k) (c1 - k)) (S1.length - k) (pc (S1.drop k)) w6); have z6 : w1.heap.size ≤ w6.heap.size := G6.out.size; have L6 := Lib.hid (show (k + 1) + (S1.length - k) ≤ 2199023255552 by have := LS2.out; omega); clear g6)
                  | (at_builtin; refine app_rit rfl _ _ 37 rfl w1.heap.size v6 (k + 1) (pc (S1.take k ++ [(id, at_)])) rfl O6.out (.slice A2 (S1.length - k) (c1 - k)) (S1.length - k) (pc (S1.drop k)) rfl S6.out L6.out z6 ?_; intro v7 w7 g7; rw [← pc_append] at g7; obtain ⟨A7, c7, rfl⟩ := row_slice g7.own; have G7 := Lib.hid (only_step G6.out g7.only (fun q hq => .inr (F6.out q hq)) : w1.grownBy w7 none); have c7b := zB _ G7.out; have f7b := fz _ G7.out; have R7 := Lib.hid (G1.out.trans (G1.out.rs.store G7.out (Nat.le_refl _) g7.own)); clear g7))
                go_ret
                refine ⟨rfl, A7, c7, ?_⟩
                rw [IS.out]
                have hr := R7.out
                rw [List.append_assoc] at hr
                exact hr
          · have N : Hid (∀ z r, S1.drop k = z :: r → ¬ ilt z (id, at_)) := Lib.hid (fun z r e => by
              rw [List.drop_eq_nil_of_le (by omega)] at e; cases e)
            have IS := Lib.hid (ins_split (id, at_) (S1.take k) (S1.drop k) P.out N.out)
            rw [List.take_append_drop] at IS
            have VW := Lib.hid G1.out.rs.vw
            have zB : ∀ W : World, w1.grownBy W none → W.cell? ⟨Bx, 0, none⟩ = some (.slice A1 S1.length c1) := fun W g => (G1.out.rs.keep g).cell
            have fz : ∀ W : World, w1.grownBy W none → W.frozen? ⟨Bx, 0, none⟩ = false := fun W g => (G1.out.rs.keep g).thaw
            have s1 := slice_hi VW.out k hk
            obtain ⟨A2, s2, v2, _⟩ := slice_lo VW.out k hk
            have V2 := Lib.hid v2
            have gE := World.grownBy_alloc w1 (.cells #[] 61) none
            have OE : Hid ((w1.alloc (.cells #[] 61)).ownsRow w1.heap.size 61 2 (.slice (some ⟨w1.heap.size, 0, none⟩) 0 0) 0 []) := Lib.hid (World.ownsRow_lit w1 #[] 0 (Nat.le_refl _) (Nat.zero_le _) rfl)
            have SE := Lib.hid ((VW.out.up gE).src k c1 hk)
            have zE : w1.heap.size ≤ (w1.alloc (.cells #[] 61)).heap.size := gE.size
            have cE := zB _ gE
            have GE := Lib.hid gE
            have LK := Lib.hid (show 0 + k ≤ 2199023255552 by have := LS2.out; omega)
            clear v2 gE LS
            go_wp2_with (first
              | (at_builtin; refine app_rit rfl _ _ 37 rfl w1.heap.size (.slice (some ⟨w1.heap.size, 0, none⟩) 0 0) 0 [] rfl OE.out (.slice A1 k c1) k (pc (S1.take k)) rfl SE.out LK.out zE ?_; intro v5 w5 g5; rw [List.nil_append, Nat.zero_add] at g5; have O5 := Lib.hid (g5.own.kept (World.grownBy_alloc w5 (.cells #[.int .i64 id, .int .i64 at_] 61) none) (by cases v5.ownBlock <;> simp)); have F5 := Lib.hid (fun q hq => row_ge g5.own q hq); have G5 := Lib.hid (only_alloc (only_step GE.out g5.only (fun q hq => by cases hq; exact .inr (Nat.le_refl _)) : w1.grownBy w5 none) (.cells #[.int .i64 id, .int .i64 at_] 61)); have S5 := Lib.hid (src_rit w5 (id, at_) 61); have z5 : w1.heap.size ≤ (w5.alloc (.cells #[.int .i64 id, .int .i64 at_] 61)).heap.size := G5.out.size; have L5 := Lib.hid (show k + 1 ≤ 2199023255552 by have := LS2.out; omega); clear g5)
              | (at_builtin; refine app_rit rfl _ _ 37 rfl w1.heap.size v5 k (pc (S1.take k)) rfl O5.out (.slice (some ⟨w5.heap.size, 0, none⟩) 1 1) 1 (pc [(id, at_)]) rfl S5.out L5.out z5 ?_; intro v6 w6 g6; rw [← pc_append] at g6; have O6 := Lib.hid g6.own; have F6 := Lib.hid (fun q hq => row_ge g6.own q hq); have G6 := Lib.hid (only_step G5.out g6.only (fun q hq => .inr (F5.out q hq)) : w1.grownBy w6 none); have c6 := zB _ G6.out; have S6 := Lib.hid (by have := ((V2.out.keep G6.out (Nat.le_refl _))).src (S1.length - k) (c1 - k) (by rw [List.length_drop]; exact Nat.le_refl _); rw [List.take_of_length_le (by rw [List.length_drop]; exact Nat.le_refl _)] at this; exact this : Src Try.prog 2 37 (.slice A2 (S1.length - k) (c1 - k)) (S1.length - k) (pc (S1.drop k)) w6); have z6 : w1.heap.size ≤ w6.heap.size := G6.out.size; have L6 := Lib.hid (show (k + 1) + (S1.length - k) ≤ 2199023255552 by have := LS2.out; omega); clear g6)
              | (at_builtin; refine app_rit rfl _ _ 37 rfl w1.heap.size v6 (k + 1) (pc (S1.take k ++ [(id, at_)])) rfl O6.out (.slice A2 (S1.length - k) (c1 - k)) (S1.length - k) (pc (S1.drop k)) rfl S6.out L6.out z6 ?_; intro v7 w7 g7; rw [← pc_append] at g7; obtain ⟨A7, c7, rfl⟩ := row_slice g7.own; have G7 := Lib.hid (only_step G6.out g7.only (fun q hq => .inr (F6.out q hq)) : w1.grownBy w7 none); have c7b := zB _ G7.out; have f7b := fz _ G7.out; have R7 := Lib.hid (G1.out.trans (G1.out.rs.store G7.out (Nat.le_refl _) g7.own)); clear g7))
            go_ret
            refine ⟨rfl, A7, c7, ?_⟩
            rw [IS.out]
            have hr := R7.out
            rw [List.append_assoc] at hr
            exact hr
      | false =>
        have HB := Lib.hid hb
        have u0 := hb2 hb
        clear hr ht hin hb2 hb h
        go_enter Try.func15, Try.ntmps15
        go_wp2_with fail
        refine RC.out.mono ?_
        rintro e w1 ⟨rfl, A1, c1, g1⟩
        rw [HB.out]
        have cB := g1.rs.cell
        have G1 := Lib.hid g1
        clear g1 hS1 dl
        go_wp2_with fail
        go_loopw [8] (fun sk wr => ∃ (k : Nat), sk = .int .i64 k ∧ k ≤ S1.length ∧ Hid (∀ y ∈ S1.take k, ilt y (id, at_)) ∧ w1 = wr) (fun sk _ => S1.length - (intOf sk).toNat)
        case atStart => exact ⟨0, rfl, Nat.zero_le _, Lib.hid (fun y hy => by simp at hy), by trivial⟩
        case round =>
          obtain ⟨k, rfl, hk, P, rfl⟩ := hrel
          have kes : IntKind.i64.wrap ((k : Int) + 1) = (k : Int) + 1 := by rw [IntKind.wrap_i64]; omega
          have k0 : (0 : Int) ≤ (k : Int) := by omega
          by_cases t1 : (k : Int) < (S1.length : Int)
          · obtain ⟨y, hy⟩ : ∃ y, S1[k]? = some y := ⟨S1[k]'(by omega), by simp⟩
            obtain ⟨b, off, rfl, _, cy1, cy2⟩ := G1.out.rs.vw.has.rng hy
            have HY := Lib.hid hy
            have NX : ilt y (id, at_) → Hid (∀ z ∈ S1.take (k + 1), ilt z (id, at_)) := fun hlt => Lib.hid (fun z hz => by
              rw [List.take_add_one, HY.out] at hz
              rcases List.mem_append.1 hz with hz | hz
              · exact P.out z hz
              · simp at hz; subst hz; exact hlt)
            have HD : ¬ ilt y (id, at_) → Hid (∀ z r, S1.drop k = z :: r → ¬ ilt z (id, at_)) := fun hn => Lib.hid (fun z r e => by
              obtain ⟨hh, rr⟩ := List.getElem?_eq_some_iff.1 HY.out
              rw [List.drop_eq_getElem_cons hh, rr] at e
              injection e with e1 _
              rw [← e1]; exact hn)
            clear hy
            by_cases m1 : y.2 < at_
            · have d1 : decide (y.2 < at_) = true := by rw [decide_eq_true_iff]; exact m1
              have N := NX (.inl m1)
              clear NX HD
              go_wp2_with fail
              go_roundw
              case rel => exact ⟨k + 1, by go_num, by omega, N, by trivial⟩
              case measure => simp [intOf]; omega
            · have d1 : decide (y.2 < at_) = false := by rw [decide_eq_false_iff_not]; exact m1
              by_cases m2 : y.2 = at_
              · have d2 : (y.2 == at_) = true := by rw [beq_iff_eq]; exact m2
                by_cases m3 : y.1 < id
                · have d3 : decide (y.1 < id) = true := by rw [decide_eq_true_iff]; exact m3
                  have N := NX (.inr ⟨m2, m3⟩)
                  clear NX HD m2
                  go_wp2_with fail
                  go_roundw
                  case rel => exact ⟨k + 1, by go_num, by omega, N, by trivial⟩
                  case measure => simp [intOf]; omega
                · have d3 : decide (y.1 < id) = false := by rw [decide_eq_false_iff_not]; exact m3
                  have N := HD (fun h => h.elim m1 (fun h => m3 h.2))
                  clear NX HD m2
                  have IS := Lib.hid (ins_split (id, at_) (S1.take k) (S1.drop k) P.out N.out)
                  rw [List.take_append_drop] at IS
                  have VW := Lib.hid G1.out.rs.vw
                  have zB : ∀ W : World, w1.grownBy W none → W.cell? ⟨Bx, 0, none⟩ = some (.slice (some ⟨b, off, none⟩) S1.length c1) := fun W g => (G1.out.rs.keep g).cell
                  have fz : ∀ W : World, w1.grownBy W none → W.frozen? ⟨Bx, 0, none⟩ = false := fun W g => (G1.out.rs.keep g).thaw
                  have s1 := slice_hi VW.out k hk
                  obtain ⟨A2, s2, v2, _⟩ := slice_lo VW.out k hk
                  have V2 := Lib.hid v2
                  have gE := World.grownBy_alloc w1 (.cells #[] 61) none
                  have OE : Hid ((w1.alloc (.cells #[] 61)).ownsRow w1.heap.size 61 2 (.slice (some ⟨w1.heap.size, 0, none⟩) 0 0) 0 []) := Lib.hid (World.ownsRow_lit w1 #[] 0 (Nat.le_refl _) (Nat.zero_le _) rfl)
                  have SE := Lib.hid ((VW.out.up gE).src k c1 hk)
                  have zE : w1.heap.size ≤ (w1.alloc (.cells #[] 61)).heap.size := gE.size
                  have cE := zB _ gE
                  have GE := Lib.hid gE
                  have LK := Lib.hid (show 0 + k ≤ 2199023255552 by have := LS2.out; omega)
                  clear v2 gE LS
                  go_wp2_with (first
                    | (at_builtin; refine app_rit rfl _ _ 37 rfl w1.heap.size (.slice (some ⟨w1.heap.size, 0, none⟩) 0 0) 0 [] rfl OE.out (.slice (some ⟨b, off, none⟩) k c1) k (pc (S1.take k)) rfl SE.out LK.out zE ?_; intro v5 w5 g5; rw [List.nil_append, Nat.zero_add] at g5; have O5 := Lib.hid (g5.own.kept (World.grownBy_alloc w5 (.cells #[.int .i64 id, .int .i64 at_] 61) none) (by cases v5.ownBlock <;> simp)); have F5 := Lib.hid (fun q hq => row_ge g5.own q hq); have G5 := Lib.hid (only_alloc (only_step GE.out g5.only (fun q hq => by cases hq; exact .inr (Nat.le_refl _)) : w1.grownBy w5 none) (.cells #[.int .i64 id, .int .i64 at_] 61)); have S5 := Lib.hid (src_rit w5 (id, at_) 61); have z5 : w1.heap.size ≤ (w5.alloc (.cells #[.int .i64 id, .int .i64 at_] 61)).heap.size := G5.out.size; have L5 := Lib.hid (show k + 1 ≤ 2199023255552 by have := LS2.out; omega); clear g5)
                    | (at_builtin; refine app_rit rfl _ _ 37 rfl w1.heap.size v5 k (pc (S1.take k)) rfl O5.out (.slice (some ⟨w5.heap.size, 0, none⟩) 1 1) 1 (pc [(id, at_)]) rfl S5.out L5.out z5 ?_; intro v6 w6 g6; rw [← pc_append] at g6; have O6 := Lib.hid g6.own; have F6 := Lib.hid (fun q hq => row_ge g6.own q hq); have G6 := Lib.hid (only_step G5.out g6.only (fun q hq => .inr (F5.out q hq)) : w1.grownBy w6 none); have c6 := zB _ G6.out; have S6 := Lib.hid (by have := ((V2.out.keep G6.out (Nat.le_refl _))).src (S1.length - k) (c1 - k) (by rw [List.length_drop]; exact Nat.le_refl _); rw [List.take_of_length_le (by rw [List.length_drop]; exact Nat.le_refl _)] at this; exact this : Src Try.prog 2 37 (.slice A2 (S1.length - k) (c1 - k)) (S1.length - k) (pc (S1.drop k)) w6); have z6 : w1.heap.size ≤ w6.heap.size := G6.out.size; have L6 := Lib.hid (show (k + 1) + (S1.length - k) ≤ 2199023255552 by have := LS2.out; omega); clear g6)
                    | (at_builtin; refine app_rit rfl _ _ 37 rfl w1.heap.size v6 (k + 1) (pc (S1.take k ++ [(id, at_)])) rfl O6.out (.slice A2 (S1.length - k) (c1 - k)) (S1.length - k) (pc (S1.drop k)) rfl S6.out L6.out z6 ?_; intro v7 w7 g7; rw [← pc_append] at g7; obtain ⟨A7, c7, rfl⟩ := row_slice g7.own; have G7 := Lib.hid (only_step G6.out g7.only (fun q hq => .inr (F6.out q hq)) : w1.grownBy w7 none); have c7b := zB _ G7.out; have f7b := fz _ G7.out; have R7 := Lib.hid (G1.out.trans (G1.out.rs.store G7.out (Nat.le_refl _) g7.own)); clear g7))
                  go_ret
                  refine ⟨rfl, A7, c7, ?_⟩
                  rw [IS.out]
                  have hr := R7.out
                  rw [List.append_assoc] at hr
                  exact hr
              · have d2 : (y.2 == at_) = false := by rw [beq_eq_false_iff_ne]; exact m2
                have N := HD (fun h => h.elim m1 (fun h => m2 h.1))
                clear NX HD m2
                have IS := Lib.hid (ins_split (id, at_) (S1.take k) (S1.drop k) P.out N.out)
                rw [List.take_append_drop] at IS
                have VW := Lib.hid G1.out.rs.vw
                have zB : ∀ W : World, w1.grownBy W none → W.cell? ⟨Bx, 0, none⟩ = some (.slice (some ⟨b, off, none⟩) S1.length c1) := fun W g => (G1.out.rs.keep g).cell
                have fz : ∀ W : World, w1.grownBy W none → W.frozen? ⟨Bx, 0, none⟩ = false := fun W g => (G1.out.rs.keep g).thaw
                have s1 := slice_hi VW.out k hk
                obtain ⟨A2, s2, v2, _⟩ := slice_lo VW.out k hk
                have V2 := Lib.hid v2
                have gE := World.grownBy_alloc w1 (.cells #[] 61) none
                have OE : Hid ((w1.alloc (.cells #[] 61)).ownsRow w1.heap.size 61 2 (.slice (some ⟨w1.heap.size, 0, none⟩) 0 0) 0 []) := Lib.hid (World.ownsRow_lit w1 #[] 0 (Nat.le_refl _) (Nat.zero_le _) rfl)
                have SE := Lib.hid ((VW.out.up gE).src k c1 hk)
                have zE : w1.heap.size ≤ (w1.alloc (.cells #[] 61)).heap.size := gE.size
                have cE := zB _ gE
                have GE := Lib.hid gE
                have LK := Lib.hid (show 0 + k ≤ 2199023255552 by have := LS2.out; omega)
                clear v2 gE LS
                go_wp2_with (first
                  | (at_builtin; refine app_rit rfl _ _ 37 rfl w1.heap.size (.slice (some ⟨w1.heap.size, 0, none⟩) 0 0) 0 [] rfl OE.out (.slice (some ⟨b, off, none⟩) k c1) k (pc (S1.take k)) rfl SE.out LK.out zE ?_; intro v5 w5 g5; rw [List.nil_append, Nat.zero_add] at g5; have O5 := Lib.hid (g5.own.kept (World.grownBy_alloc w5 (.cells #[.int .i64 id, .int .i64 at_] 61) none) (by cases v5.ownBlock <;> simp)); have F5 := Lib.hid (fun q hq => row_ge g5.own q hq); have G5 := Lib.hid (only_alloc (only_step GE.out g5.only (fun q hq => by cases hq; exact .inr (Nat.le_refl _)) : w1.grownBy w5 none) (.cells #[.int .i64 id, .int .i64 at_] 61)); have S5 := Lib.hid (src_rit w5 (id, at_) 61); have z5 : w1.heap.size ≤ (w5.alloc (.cells #[.int .i64 id, .int .i64 at_] 61)).heap.size := G5.out.size; have L5 := Lib.hid (show k + 1 ≤ 2199023255552 by have := LS2.out; omega); clear g5)
                  | (at_builtin; refine app_rit rfl _ _ 37 rfl w1.heap.size v5 k (pc (S1.take k)) rfl O5.out (.slice (some ⟨w5.heap.size, 0, none⟩) 1 1) 1 (pc [(id, at_)]) rfl S5.out L5.out z5 ?_; intro v6 w6 g6; rw [← pc_append] at g6; have O6 := Lib.hid g6.own; have F6 := Lib.hid (fun q hq => row_ge g6.own q hq); have G6 := Lib.hid (only_step G5.out g6.only (fun q hq => .inr (F5.out q hq)) : w1.grownBy w6 none); have c6 := zB _ G6.out; have S6 := Lib.hid (by have := ((V2.out.keep G6.out (Nat.le_refl _))).src (S1.length - k) (c1 - k) (by rw [List.length_drop]; exact Nat.le_refl _); rw [List.take_of_length_le (by rw [List.length_drop]; exact Nat.le_refl _)] at this; exact this : Src Try.prog 2 37 (.slice A2 (S1.length - k) (c1 - k)) (S1.length - k) (pc (S1.drop k)) w6); have z6 : w1.heap.size ≤ w6.heap.size := G6.out.size; have L6 := Lib.hid (show (k + 1) + (S1.length - k) ≤ 2199023255552 by have := LS2.out; omega); clear g6)
                  | (at_builtin; refine app_rit rfl _ _ 37 rfl w1.heap.size v6 (k + 1) (pc (S1.take k ++ [(id, at_)])) rfl O6.out (.slice A2 (S1.length - k) (c1 - k)) (S1.length - k) (pc (S1.drop k)) rfl S6.out L6.out z6 ?_; intro v7 w7 g7; rw [← pc_append] at g7; obtain ⟨A7, c7, rfl⟩ := row_slice g7.own; have G7 := Lib.hid (only_step G6.out g7.only (fun q hq => .inr (F6.out q hq)) : w1.grownBy w7 none); have c7b := zB _ G7.out; have f7b := fz _ G7.out; have R7 := Lib.hid (G1.out.trans (G1.out.rs.store G7.out (Nat.le_refl _) g7.own)); clear g7))
                go_ret
                refine ⟨rfl, A7, c7, ?_⟩
                rw [IS.out]
                have hr := R7.out
                rw [List.append_assoc] at hr
                exact hr
          · have N : Hid (∀ z r, S1.drop k = z :: r → ¬ ilt z (id, at_)) := Lib.hid (fun z r e => by
              rw [List.drop_eq_nil_of_le (by omega)] at e; cases e)
            have IS := Lib.hid (ins_split (id, at_) (S1.take k) (S1.drop k) P.out N.out)
            rw [List.take_append_drop] at IS
            have VW := Lib.hid G1.out.rs.vw
            have zB : ∀ W : World, w1.grownBy W none → W.cell? ⟨Bx, 0, none⟩ = some (.slice A1 S1.length c1) := fun W g => (G1.out.rs.keep g).cell
            have fz : ∀ W : World, w1.grownBy W none → W.frozen? ⟨Bx, 0, none⟩ = false := fun W g => (G1.out.rs.keep g).thaw
            have s1 := slice_hi VW.out k hk
            obtain ⟨A2, s2, v2, _⟩ := slice_lo VW.out k hk
            have V2 := Lib.hid v2
            have gE := World.grownBy_alloc w1 (.cells #[] 61) none
            have OE : Hid ((w1.alloc (.cells #[] 61)).ownsRow w1.heap.size 61 2 (.slice (some ⟨w1.heap.size, 0, none⟩) 0 0) 0 []) := Lib.hid (World.ownsRow_lit w1 #[] 0 (Nat.le_refl _) (Nat.zero_le _) rfl)
            have SE := Lib.hid ((VW.out.up gE).src k c1 hk)
            have zE : w1.heap.size ≤ (w1.alloc (.cells #[] 61)).heap.size := gE.size
            have cE := zB _ gE
            have GE := Lib.hid gE
            have LK := Lib.hid (show 0 + k ≤ 2199023255552 by have := LS2.out; omega)
            clear v2 gE LS
            go_wp2_with (first
              | (at_builtin; refine app_rit rfl _ _ 37 rfl w1.heap.size (.slice (some ⟨w1.heap.size, 0, none⟩) 0 0) 0 [] rfl OE.out (.slice A1 k c1) k (pc (S1.take k)) rfl SE.out LK.out zE ?_; intro v5 w5 g5; rw [List.nil_append, Nat.zero_add] at g5; have O5 := Lib.hid (g5.own.kept (World.grownBy_alloc w5 (.cells #[.int .i64 id, .int .i64 at_] 61) none) (by cases v5.ownBlock <;> simp)); have F5 := Lib.hid (fun q hq => row_ge g5.own q hq); have G5 := Lib.hid (only_alloc (only_step GE.out g5.only (fun q hq => by cases hq; exact .inr (Nat.le_refl _)) : w1.grownBy w5 none) (.cells #[.int .i64 id, .int .i64 at_] 61)); have S5 := Lib.hid (src_rit w5 (id, at_) 61); have z5 : w1.heap.size ≤ (w5.alloc (.cells #[.int .i64 id, .int .i64 at_] 61)).heap.size := G5.out.size; have L5 := Lib.hid (show k + 1 ≤ 2199023255552 by have := LS2.out; omega); clear g5)
              | (at_builtin; refine app_rit rfl _ _ 37 rfl w1.heap.size v5 k (pc (S1.take k)) rfl O5.out (.slice (some ⟨w5.heap.size, 0, none⟩) 1 1) 1 (pc [(id, at_)]) rfl S5.out L5.out z5 ?_; intro v6 w6 g6; rw [← pc_append] at g6; have O6 := Lib.hid g6.own; have F6 := Lib.hid (fun q hq => row_ge g6.own q hq); have G6 := Lib.hid (only_step G5.out g6.only (fun q hq => .inr (F5.out q hq)) : w1.grownBy w6 none); have c6 := zB _ G6.out; have S6 := Lib.hid (by have := ((V2.out.keep G6.out (Nat.le_refl _))).src (S1.length - k) (c1 - k) (by rw [List.length_drop]; exact Nat.le_refl _); rw [List.take_of_length_le (by rw [List.length_drop]; exact Nat.le_refl _)] at this; exact this : Src Try.prog 2 37 (.slice A2 (S1.length - k) (c1 - k)) (S1.length - k) (pc (S1.drop k)) w6); have z6 : w1.heap.size ≤ w6.heap.size := G6.out.size; have L6 := Lib.hid (show (k + 1) + (S1.length - k) ≤ 2199023255552 by have := LS2.out; omega); clear g6)
              | (at_builtin; refine app_rit rfl _ _ 37 rfl w1.heap.size v6 (k + 1) (pc (S1.take k ++ [(id, at_)])) rfl O6.out (.slice A2 (S1.length - k) (c1 - k)) (S1.length - k) (pc (S1.drop k)) rfl S6.out L6.out z6 ?_; intro v7 w7 g7; rw [← pc_append] at g7; obtain ⟨A7, c7, rfl⟩ := row_slice g7.own; have G7 := Lib.hid (only_step G6.out g7.only (fun q hq => .inr (F6.out q hq)) : w1.grownBy w7 none); have c7b := zB _ G7.out; have f7b := fz _ G7.out; have R7 := Lib.hid (G1.out.trans (G1.out.rs.store G7.out (Nat.le_refl _) g7.own)); clear g7))
            go_ret
            refine ⟨rfl, A7, c7, ?_⟩
            rw [IS.out]
            have hr := R7.out
            rw [List.append_assoc] at hr
            exact hr
    · have hf : isIn id S = false := by cases hc : isIn id S with | true => exact absurd (.inl hc) hin | false => rfl
      have hr : setR id S = 4 := by unfold setR; rw [if_neg h0, if_neg hin]
      have he : S1 = S := by rw [hS1, del_none hf]
      have ht : setT id at_ S = S1 := by unfold setT; rw [if_neg (by rw [hr]; decide), he]
      have u1 : decide ((100 : Int) ≤ ((S1.length : Nat) : Int)) = true := by
        have : ¬ S.length < 100 := fun h => hin (.inr h)
        rw [decide_eq_true_iff, he]; omega
      have HF := Lib.hid hf
      rw [hr, ht]
      clear hr ht hf hin he hS1 dl h
      go_enter Try.func15, Try.ntmps15
      go_wp2_with fail
      refine RC.out.mono ?_
      rintro e w1 ⟨rfl, A1, c1, g1⟩
      rw [HF.out]
      have cB := g1.rs.cell
      have G1 := Lib.hid g1
      clear g1
      go_wp2_with fail
      go_ret
      exact ⟨rfl, A1, c1, G1.out⟩
end Go.Proofs.Ytgfpogmipennaaa
