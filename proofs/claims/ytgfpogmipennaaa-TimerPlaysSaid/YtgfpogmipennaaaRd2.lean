/- The reference's Due. No condition of the program's own. -/
import Derived.Test.YtgfpogmipennaaaRh
namespace Go.Proofs.Ytgfpogmipennaaa
open Go.RowKit Go.Deep
theorem RS.apart {w : World} {Bx : Nat} {A : Option Addr} {c : Nat} {y : It} {r : List It} (h : RS w Bx A c (y :: r)) : ∀ b off sp, A = some ⟨b, off, sp⟩ → b ≠ Bx := fun b off sp e eb => by
  obtain ⟨b', off', e', _, c1, _⟩ := h.vw.has.rng (i := 0) (x := y) rfl
  rw [e] at e'
  injection e' with e'
  injection e' with e1 e2 e3
  subst e1; subst e2; subst e3; subst eb
  simp only [Nat.zero_mul, Nat.add_zero] at c1
  unfold World.cell? at c1
  rw [show w.heap[(⟨b, off, none⟩ : Addr).block]? = _ from h.blk] at c1
  cases off with
  | zero => simp at c1
  | succ n => simp at c1
theorem RG.step {w wr w4 : World} {Bx : Nat} {A A1 A2 : Option Addr} {c1 c2 : Nat} {y : It} {r : List It} {q : Option Nat} (G : RG w wr Bx A (y :: r) A1 c1) (hB : Bx < w.heap.size) (g : wr.grownBy w4 q) (hq : ∀ k, q = some k → w.heap.size ≤ k)
    (hA : ∀ b off sp, A1 = some ⟨b, off, sp⟩ → b < w.heap.size) (v : Vw wr wr.heap.size A2 c2 r) (hb : ∀ b off sp, A2 = some ⟨b, off, sp⟩ → ∃ off' sp', A1 = some ⟨b, off', sp'⟩) :
    RG w (w4.setCell ⟨Bx, 0, none⟩ (.slice A2 r.length c2)) Bx A r A2 c2 := by
  have qB : some Bx ≠ q := fun e => by have := hq Bx e.symm; omega
  have b4 := (g.block Bx (Nat.lt_of_lt_of_le hB G.only.size) qB).trans G.rs.blk
  have g4 : w.grownBy w4 (some Bx) := only_step G.only g (fun k hk => .inr (hq k hk))
  refine ⟨⟨heap_set1 b4 0 _, ⟨?_, v.cap, v.nil⟩, fun b off sp e => ?_⟩, only_step g4 (cell_only (only_refl _ _) _ _) (fun k hk => .inl hk), fun b off sp e => ?_⟩
  · have hs : (w4.setCell ⟨Bx, 0, none⟩ (.slice A2 r.length c2)).heap.size = w4.heap.size := by simp [World.setCell]
    rw [hs]
    rcases v.has with h0 | ⟨b, off, hA2, hbl, hc⟩
    · exact .inl h0
    · obtain ⟨o, s, e⟩ := hb b off none hA2
      have bl := hA b o s e
      have bne := G.rs.apart b o s e
      refine .inr ⟨b, off, hA2, Nat.lt_of_lt_of_le hbl g.size, fun j u hu => ?_⟩
      refine (World.cell?_of_block (heap_other w4 bne _ _)).trans ((World.cell?_of_block (g.block b hbl (fun e => ?_))).trans (hc j u hu))
      have := hq b e.symm
      omega
  · have hs : (w4.setCell ⟨Bx, 0, none⟩ (.slice A2 r.length c2)).heap.size = w4.heap.size := by simp [World.setCell]
    rw [hs]
    obtain ⟨o, s, e2⟩ := hb b off sp e
    exact Nat.lt_of_lt_of_le (G.rs.al b o s e2) g.size
  · obtain ⟨o, s, e2⟩ := hb b off sp e
    exact G.blk b o s e2
set_option maxRecDepth 100000 in
set_option maxHeartbeats 1000000 in
theorem rdue (Bx : Nat) (now : Int) (A : Option Addr) (c : Nat) (S : List It) (w : World) (h : RS w Bx A c S) (hl : S.length ≤ 1099511627770) :
    Calls Try.prog 20 #[.pointer (some ⟨Bx, 0, none⟩), .int .i64 now] w fun e w' => ∃ X cX A' c', e = .returned (.slice X (ids (S.takeWhile (isDue now))).length cX) ∧
      w'.ownsRow w.heap.size 3 1 (.slice X (ids (S.takeWhile (isDue now))).length cX) (ids (S.takeWhile (isDue now))).length (ns (ids (S.takeWhile (isDue now)))) ∧ RG w w' Bx A (S.dropWhile (isDue now)) A' c' := by
  have H := Lib.hid h
  have D0 : Hid (w.ownsRow w.heap.size 3 1 (.slice none 0 0) (ns (ids [])).length (ns (ids []))) := Lib.hid (World.ownsRow_nil w _ _ 1)
  have G0 : Hid (RG w w Bx A S A c) := Lib.hid ⟨h, only_refl _ _, fun b off sp e => .inl ⟨off, sp, e⟩⟩
  have HB := h.lt
  clear h
  go_enter Try.func20, Try.ntmps20
  go_wp2_with fail
  go_loopw [5] (fun sl wr => ∃ (D C : List It) (A1 : Option Addr) (c1 : Nat), Hid (S = D ++ C) ∧ Hid (∀ y ∈ D, isDue now y = true) ∧ Hid (wr.ownsRow w.heap.size 3 1 sl (ns (ids D)).length (ns (ids D))) ∧ Hid (RG w wr Bx A C A1 c1) ∧ Hid (∀ b off sp, A1 = some ⟨b, off, sp⟩ → ∃ off' sp', A = some ⟨b, off', sp'⟩)) (fun sl _ => S.length - lenOf sl)
  case atStart => exact ⟨[], S, A, c, Lib.hid rfl, Lib.hid (fun y hy => by cases hy), D0, G0, Lib.hid (fun b off sp e => ⟨off, sp, e⟩)⟩
  case round =>
    clear D0 G0
    obtain ⟨D, C, A1, c1, HS, DU, O, G, AA⟩ := hrel
    have cB := G.out.rs.cell
    have lens : Hid (D.length + C.length = S.length) := Lib.hid (by rw [HS.out, List.length_append])
    cases C with
    | nil =>
      have cB : wr.cell? ⟨Bx, 0, none⟩ = some (.slice A1 0 c1) := cB
      have FIN := Lib.hid (tw_split (p := isDue now) DU.out (C := []) (fun z r e => by cases e))
      have hO := O.out
      rw [ns_len] at hO
      obtain ⟨X, cX, rfl⟩ := row_slice hO
      have OO := Lib.hid hO
      clear hO
      go_wp2_with fail
      go_ret
      rw [HS.out, FIN.out.1, FIN.out.2]
      exact ⟨X, cX, A1, c1, rfl, OO.out, G.out⟩
    | cons y r =>
      obtain ⟨b, off, hA, _, cy1, cy2⟩ := G.out.rs.vw.has.rng (i := 0) (x := y) rfl
      subst hA
      simp only [Nat.zero_mul, Nat.add_zero] at cy1 cy2
      have n0 : (0 : Int) < (((y :: r).length : Nat) : Int) := by rw [List.length_cons]; omega
      have n0n : 0 < (y :: r).length := by rw [List.length_cons]; omega
      have n0b : decide ((0 : Int) < (((y :: r).length : Nat) : Int)) = true := by rw [decide_eq_true_iff]; exact n0
      obtain ⟨A2, s2, v2, hb2⟩ := slice_lo G.out.rs.vw 1 (by rw [List.length_cons]; omega)
      have bl : ∀ b' off' sp', some (⟨b, off, none⟩ : Addr) = some ⟨b', off', sp'⟩ → b' < w.heap.size := fun b' off' sp' e => by
        obtain ⟨o, s, e2⟩ := AA.out b' off' sp' e
        rcases H.out.vw.has with h0 | ⟨b3, o3, e3, l3, _⟩
        · have := congrArg List.length h0
          rw [pc_len, List.length_nil, ← lens.out, List.length_cons] at this
          omega
        · rw [e2] at e3
          injection e3 with e3; injection e3 with e4
          omega
      have ST := Lib.hid (fun (W : World) (q : Option Nat) (g : wr.grownBy W q) (hq : ∀ k, q = some k → w.heap.size ≤ k) => RG.step (A2 := A2) (c2 := c1 - 1) G.out HB g hq bl v2 hb2)
      have AB : Hid (∀ b' off' sp', A2 = some ⟨b', off', sp'⟩ → ∃ off2 sp2, A = some ⟨b', off2, sp2⟩) := Lib.hid (fun b' off' sp' e => by
        obtain ⟨o, s, e2⟩ := hb2 b' off' sp' e
        exact AA.out b' o s e2)
      have zB : Hid (∀ W : World, wr.grownBy W none → W.cell? ⟨Bx, 0, none⟩ = some (.slice (some ⟨b, off, none⟩) (y :: r).length c1) ∧ W.frozen? ⟨Bx, 0, none⟩ = false) := Lib.hid (fun W g => ⟨(G.out.rs.keep g).cell, (G.out.rs.keep g).thaw⟩)
      have rl : (y :: r).length - 1 = r.length := by rw [List.length_cons]; omega
      rw [rl] at s2
      have s2 : ∀ W, (Instr.sliceAt 37 (.slice (some ⟨b, off, none⟩) (y :: r).length c1) (some (.int .i64 1)) none none).run Try.prog W = .ok (.slice A2 r.length (c1 - 1)) W := s2
      obtain ⟨n, hn⟩ : ∃ n, n = (y :: r).length := ⟨_, rfl⟩
      rw [← hn] at n0 n0n n0b zB s2 cB
      clear rl hb2 bl
      by_cases hd : isDue now y = true
      · have t2 : decide (y.2 ≤ now) = true := hd
        have HD := Lib.hid hd
        have gA := World.grownBy_alloc wr (.cells #[.int .i64 y.1] 3) none
        have O3 := Lib.hid (O.out.kept gA (by cases u5.ownBlock <;> simp))
        have S3 := Lib.hid (src_int wr y.1 3)
        have LM := Lib.hid (show (ns (ids D)).length + (ns [y.1]).length ≤ 8796093022208 by rw [ns_len, ns_len]; have h3 : (ids D).length = D.length := (by simp [ids]); have := lens.out; rw [List.length_cons] at this; simp only [List.length_singleton]; omega)
        have z3 : w.heap.size ≤ (wr.alloc (.cells #[.int .i64 y.1] 3)).heap.size := Nat.le_trans G.out.only.size gA.size
        have GA := Lib.hid gA
        have FR := Lib.hid (fun q hq => row_ge O.out q hq)
        have HN := Lib.hid hn
        clear hd gA v2 hn
        go_wp2_with (at_builtin; refine app_ints rfl _ _ 22 rfl w.heap.size u5 (ns (ids D)) rfl O3.out _ (ns [y.1]) rfl S3.out LM.out z3 ?_; intro v4 w4 g4; rw [← ns_append] at g4; have G4 := Lib.hid g4; have gg4 : wr.grownBy w4 u5.ownBlock := only_step (only_none GA.out _) g4.only (fun k hk => .inl hk); have BB := Lib.hid gg4; clear g4; have c4 : w4.cell? ⟨Bx, 0, none⟩ = some (.slice (some ⟨b, off, none⟩) n c1) := (World.cell?_of_block (gg4.block Bx G.out.rs.lt (fun e => by have := FR.out Bx e.symm; omega))).trans cB; have f4 : w4.frozen? ⟨Bx, 0, none⟩ = false := by { have hb := (gg4.block Bx G.out.rs.lt (fun e => by have := FR.out Bx e.symm; omega)).trans G.out.rs.blk; exact thaw_of_heap hb 0 }; clear gg4)
        go_roundw
        case rel =>
          refine ⟨D ++ [y], r, A2, c1 - 1, Lib.hid ?_, Lib.hid (fun z hz => ?_), Lib.hid ?_, Lib.hid (ST.out w4 _ BB.out FR.out), AB⟩
          · rw [HS.out]; simp
          · rcases List.mem_append.1 hz with hz | hz
            · exact DU.out z hz
            · simp at hz; subst hz; exact HD.out
          · have e5 : ns (ids (D ++ [y])) = ns (ids D ++ [y.1]) := by simp [ids]
            rw [e5]
            exact row_keep G4.out.own (fun k hk => heap_other w4 (fun e => by have := row_ge G4.out.own k hk; omega) _ _)
        case measure =>
          obtain ⟨X4, c4', e4⟩ := row_slice G4.out.own
          obtain ⟨X5, c5', e5⟩ := row_slice O.out
          have := lens.out
          rw [List.length_cons] at this
          have h3 : (ids D).length = D.length := by simp [ids]
          rw [e4, e5]
          simp only [lenOf, ns_len, List.length_append, List.length_singleton]
          omega
      · have t2 : decide (y.2 ≤ now) = false := by simpa [isDue] using hd
        have FIN := Lib.hid (tw_split (p := isDue now) DU.out (C := y :: r) (fun z q e => by injection e with e1 e2; subst e1; simpa using hd))
        have hO := O.out
        rw [ns_len] at hO
        obtain ⟨X, cX, rfl⟩ := row_slice hO
        have OO := Lib.hid hO
        clear hO hd hn
        go_wp2_with fail
        go_ret
        rw [HS.out, FIN.out.1, FIN.out.2]
        exact ⟨X, cX, _, c1, rfl, OO.out, G.out⟩
end Go.Proofs.Ytgfpogmipennaaa
