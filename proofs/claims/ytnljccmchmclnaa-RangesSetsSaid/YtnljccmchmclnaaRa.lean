/- ranges.Add of a range. No condition of the program's own. -/
import Derived.Test.YtnljccmchmclnaaRv
namespace Go.Proofs.Ytnljccmchmclnaa
open Go.RowKit Go.Deep

def GotR (w : World) (L : List E2) (e : Ending) (w' : World) : Prop := ∃ v, e = .returned v ∧ w'.ownsRow w.heap.size 24 2 v L.length (pc L) ∧ w.grownBy w' none
set_option maxRecDepth 100000 in
set_option maxHeartbeats 8000000 in
theorem add_some (b off c : Nat) (l : List E2) (f t : Int) (w : World) (h : Vw w w.heap.size (some ⟨b, off, none⟩) c l) (hl : l.length ≤ 1099511627776) (hr : okR (f, t)) :
    Calls Try.prog 11 #[.slice (some ⟨b, off, none⟩) l.length c, .agg #[.int .i64 f, .int .i64 t]] w (GotR w (addP l f t)) := by
  have HA := Lib.hid h
  unfold okR at hr
  simp only at hr
  have W1 : ∀ W, Hid (Calls Try.prog 19 #[.int .i64 f, .int .i64 0, .int .i64 1073741824] W fun e w' => e = .returned (.bool true) ∧ W = w') := fun W => by have := wn_any f 0 1073741824 W; rwa [show (decide (0 ≤ f) && decide (f ≤ 1073741824)) = true by simp; omega] at this
  have W2 : ∀ W, Hid (Calls Try.prog 19 #[.int .i64 t, .int .i64 0, .int .i64 1073741824] W fun e w' => e = .returned (.bool true) ∧ W = w') := fun W => by have := wn_any t 0 1073741824 W; rwa [show (decide (0 ≤ t) && decide (t ≤ 1073741824)) = true by simp; omega] at this
  have t1 : ¬ t ≤ f := by omega
  have b0 := Lib.hid (Bx.new w f t)
  have g0 := Lib.hid (World.grownBy_alloc w (.cells #[.int .i64 f, .int .i64 t] 24) none)
  clear h hr
  go_enter Try.func11, Try.ntmps11
  go_wp2_with fail
  refine (W1 _).out.mono ?_
  rintro _ w1 ⟨rfl, rfl⟩
  go_wp2_with fail
  refine (W2 _).out.mono ?_
  rintro _ w1 ⟨rfl, rfl⟩
  go_wp2_with fail
  obtain ⟨w0, hw0⟩ : ∃ w0, w0 = w.alloc (.cells #[.int .i64 f, .int .i64 t] 24) := ⟨_, rfl⟩
  rw [← hw0] at b0 g0 ⊢
  clear hw0 W1 W2 t1
  go_loopw [5] (fun si wr => ∃ i : Nat, i ≤ l.length ∧ si = .int .i64 i ∧ Hid (∀ (j : Nat) (y : E2), l[j]? = some y → j < i → y.2 < f) ∧ Hid (w0.grownBy wr none)) (fun si _ => l.length - (intOf si).toNat)
  case atStart => exact ⟨0, Nat.zero_le _, rfl, fun j y _ h => absurd h (by omega), only_refl _ _⟩
  case round =>
    obtain ⟨i, hi, rfl, HI, hG⟩ := hrel
    have gw := Lib.hid (grow2 g0.out hG.out)
    obtain ⟨r1, r2⟩ := (b0.out.keep hG.out).cells
    have k1 : ∀ k, (wr.drewN k).cell? ⟨w.heap.size, 0, none⟩ = some (.int .i64 f) := fun _ => r1
    by_cases hgo : ∃ y : E2, l[i]? = some y ∧ y.2 < f
    · obtain ⟨y, hy, hyf⟩ := hgo
      have hlt : i < l.length := (List.getElem?_eq_some_iff.1 hy).1
      have u1 : (i : Int) < (l.length : Int) := by omega
      have u0 : (0 : Int) ≤ (i : Int) := by omega
      have hes : IntKind.i64.wrap ((i : Int) + 1) = (i : Int) + 1 := by rw [IntKind.wrap_i64]; omega
      obtain ⟨b', off', e0, hb', y1, y2⟩ := (HA.out.up gw.out).has.rng hy
      obtain ⟨rfl, rfl⟩ : b = b' ∧ off = off' := by injection e0 with e; injection e with e1 e2; exact ⟨e1, e2⟩
      have HY := Lib.hid hy
      have q2 : ∀ k, (wr.drewN k).cell? ⟨b, off + i * 2 + 1, none⟩ = some (.int .i64 y.2) := fun _ => y2
      clear hy y1 y2 r1 r2 e0
      go_wp2_with fail
      go_quiet (fail)
      go_wp2_with fail
      refine ⟨⟨i + 1, by omega, by go_num, ?_, only_drewN hG.out _⟩, ?_⟩
      · intro j z hz hj
        by_cases e : j = i
        · subst e; rw [HY.out] at hz; cases hz; exact hyf
        · exact HI.out j z hz (by omega)
      · simp [intOf]; omega
    · have HS : Hid (i = skp l f) := Lib.hid (skp_of l f i hi HI.out (fun y hy hyf => hgo ⟨y, hy, hyf⟩))
      by_cases hlt : i < l.length
      · have u1 : (i : Int) < (l.length : Int) := by omega
        have u0 : (0 : Int) ≤ (i : Int) := by omega
        obtain ⟨y, hy⟩ : ∃ y, l[i]? = some y := ⟨_, List.getElem?_eq_getElem hlt⟩
        have hyf : ¬ y.2 < f := fun h => hgo ⟨y, hy, h⟩
        obtain ⟨b', off', e0, hb', y1, y2⟩ := (HA.out.up gw.out).has.rng hy
        obtain ⟨rfl, rfl⟩ : b = b' ∧ off = off' := by injection e0 with e; injection e with e1 e2; exact ⟨e1, e2⟩
        have q2 : ∀ k, (wr.drewN k).cell? ⟨b, off + i * 2 + 1, none⟩ = some (.int .i64 y.2) := fun _ => y2
        clear hy y1 y2 r1 r2 hgo e0
        go_wp2_with fail
        go_quiet (fail)
        go_wp2_with fail
        have BS : Hid (Bx (wr.drewN nq) w.heap.size f t) := Lib.hid (b0.out.keep (only_drewN hG.out nq))
        have GS : Hid (w.grownBy (wr.drewN nq) none) := Lib.hid (only_drewN gw.out nq)
        obtain ⟨ws, hws⟩ : ∃ ws, ws = wr.drewN nq := ⟨_, rfl⟩
        rw [← hws] at BS GS ⊢
        clear hws k1
        clear q2 hyf
        go_loopw [6] (fun sj wr => ∃ (j : Nat) (F T : Int), i ≤ j ∧ j ≤ l.length ∧ sj = .int .i64 j ∧ Hid (Bx wr w.heap.size F T) ∧ Hid (abs_ (l.drop i) f t = abs_ (l.drop j) F T) ∧ Hid (w.grownBy wr none)) (fun sj _ => l.length - (intOf sj).toNat)
        case atStart => exact ⟨i, f, t, Nat.le_refl _, hi, rfl, BS.out, rfl, GS.out⟩
        case round =>
          clear BS GS
          obtain ⟨j, F, T, hij, hj, rfl, HBX, HAB, hG2⟩ := hrel
          obtain ⟨r1, r2⟩ := HBX.out.cells
          have k1 : ∀ k, (wr.drewN k).cell? ⟨w.heap.size, 0, none⟩ = some (.int .i64 F) := fun _ => r1
          have k2 : ∀ k, (wr.drewN k).cell? ⟨w.heap.size, 1, none⟩ = some (.int .i64 T) := fun _ => r2
          by_cases hgo2 : ∃ y : E2, l[j]? = some y ∧ y.1 ≤ T
          · obtain ⟨y, hy, hyT⟩ := hgo2
            have hlt2 : j < l.length := (List.getElem?_eq_some_iff.1 hy).1
            obtain ⟨b', off', e0, hb', y1, y2⟩ := (HA.out.keep hG2.out (Nat.le_refl _)).has.rng hy
            obtain ⟨rfl, rfl⟩ : b = b' ∧ off = off' := by injection e0 with e; injection e with e1 e2; exact ⟨e1, e2⟩
            clear e0
            have v1 : (j : Int) < (l.length : Int) := by omega
            have v0 : (0 : Int) ≤ (j : Int) := by omega
            have hes : IntKind.i64.wrap ((j : Int) + 1) = (j : Int) + 1 := by rw [IntKind.wrap_i64]; omega
            have HN : Hid (abs_ (l.drop i) f t = abs_ (l.drop (j + 1)) (min F y.1) (max T y.2)) := Lib.hid (by rw [HAB.out, List.drop_eq_getElem_cons hlt2, abs_, (List.getElem?_eq_some_iff.1 hy).2, if_pos hyT])
            have q1 : ∀ k, (wr.drewN k).cell? ⟨b, off + j * 2, none⟩ = some (.int .i64 y.1) := fun _ => y1
            have q2 : ∀ k, (wr.drewN k).cell? ⟨b, off + j * 2 + 1, none⟩ = some (.int .i64 y.2) := fun _ => y2
            clear hy
            go_wp2_with fail
            go_quiet (fail)
            go_wp2_with fail
            obtain ⟨w3, hw3⟩ : ∃ w3, w3 = wr.drewN nq := ⟨_, rfl⟩
            have gw3 := only_drewN hG2.out nq
            have bx3 : Bx w3 w.heap.size F T := by rw [hw3]; exact HBX.out
            have p1 := q1 nq
            have p2 := q2 nq
            rw [← hw3] at gw3 p1 p2 ⊢
            clear hw3 q1 q2 y1 y2 k1 k2 r1 r2
            obtain ⟨c1, c2⟩ := bx3.cells
            have f1 := bx3.thaw
            have p1d : w3.drew.cell? ⟨b, off + j * 2, none⟩ = some (.int .i64 y.1) := p1
            have p2d : w3.drew.cell? ⟨b, off + j * 2 + 1, none⟩ = some (.int .i64 y.2) := p2
            obtain ⟨F', hF⟩ : ∃ F', F' = min F y.1 := ⟨_, rfl⟩
            obtain ⟨T', hT⟩ : ∃ T', T' = max T y.2 := ⟨_, rfl⟩
            rw [← hF, ← hT] at HN
            have HF : Hid ((if y.1 < F then y.1 else F) = F') := Lib.hid (by rw [hF]; split <;> omega)
            have HT : Hid ((if T < y.2 then y.2 else T) = T') := Lib.hid (by rw [hT]; split <;> omega)
            clear hF hT
            apply cut_later
            · intro key
              have KS : ∀ V, w3.grownBy V (some w.heap.size) → Hid (V.cell? ⟨b, off + j * 2, none⟩ = some (.int .i64 y.1) ∧ V.cell? ⟨b, off + j * 2 + 1, none⟩ = some (.int .i64 y.2)) := fun V hV => by
                have z3 : w.heap.size ≤ w3.heap.size := gw3.size
                have ne : some b ≠ some w.heap.size := fun e => by injection e with e; omega
                exact ⟨(World.cell?_of_block (hV.block b (by omega) ne)).trans p1, (World.cell?_of_block (hV.block b (by omega) ne)).trans p2⟩
              have ws1 : w3.grownBy w3.drew (some w.heap.size) := only_drew (only_refl _ _)
              have ws2 : ∀ u, w3.grownBy (w3.setCell ⟨w.heap.size, 0, none⟩ u).drew (some w.heap.size) := fun u => only_drew (set_only (only_refl _ _) 0 u)
              have ws3 : ∀ u v, w3.grownBy ((w3.setCell ⟨w.heap.size, 0, none⟩ u).setCell ⟨w.heap.size, 1, none⟩ v).drew (some w.heap.size) := fun u v => only_drew (set_only (set_only (only_refl _ _) 0 u) 1 v)
              refine wp_region_held_drew (S := fun V => V.cell? ⟨b, off + j * 2, none⟩ = some (.int .i64 y.1) ∧ V.cell? ⟨b, off + j * 2 + 1, none⟩ = some (.int .i64 y.2)) (by kernel_rfl) ⟨p1, p2⟩ (fun hHeld => ?_)
              refine wpAnyH_take (i := 0) (oi := { dst := some 57, op := Op.fieldAddr 24 (Operand.tmp 3) 0, type := 0, pos := "ranges.go:39", after := #[], guard := none }) (v := ?_) rfl (by kernel_rfl) (by kernel_rfl) (by kernel_rfl) (fun _ _ _ h => h) (Or.inl ⟨by rfl, ?_⟩) hHeld ?_
              rotate_left
              · (intro W hSw; (try dsimp only at hSw); go_simp; try with_reducible rfl)
              try simp only [Act.put, List.setIfInBounds_toArray, List.set_cons_zero, List.set_cons_succ]
              refine wpAnyH_take (i := 2) (oi := { dst := some 59, op := Op.move (Operand.tmp 0), type := 26, pos := "ranges.go:39", after := #[], guard := none }) (v := ?_) rfl (by kernel_rfl) (by kernel_rfl) (by kernel_rfl) (fun _ _ _ h => h) (Or.inl ⟨by rfl, ?_⟩) hHeld ?_
              rotate_left
              · (intro W hSw; (try dsimp only at hSw); go_simp; try with_reducible rfl)
              try simp only [Act.put, List.setIfInBounds_toArray, List.set_cons_zero, List.set_cons_succ]
              refine wpAnyH_take (i := 3) (oi := { dst := some 60, op := Op.move (Operand.tmp 6), type := 3, pos := "ranges.go:39", after := #[], guard := none }) (v := ?_) rfl (by kernel_rfl) (by kernel_rfl) (by kernel_rfl) (fun _ _ _ h => h) (Or.inl ⟨by rfl, ?_⟩) hHeld ?_
              rotate_left
              · (intro W hSw; (try dsimp only at hSw); go_simp; try with_reducible rfl)
              try simp only [Act.put, List.setIfInBounds_toArray, List.set_cons_zero, List.set_cons_succ]
              refine wpAnyH_take (i := 4) (oi := { dst := some 61, op := Op.indexAddr 26 (Operand.tmp 59) (Operand.tmp 60), type := 0, pos := "ranges.go:39", after := #[{ on := 2, ground := Ground.data }, { on := 3, ground := Ground.data }], guard := none }) (v := ?_) rfl (by kernel_rfl) (by kernel_rfl) (by kernel_rfl) (fun _ _ _ h => h) (Or.inl ⟨by rfl, ?_⟩) hHeld ?_
              rotate_left
              · (intro W hSw; (try dsimp only at hSw); go_simp; try with_reducible rfl)
              try simp only [Act.put, List.setIfInBounds_toArray, List.set_cons_zero, List.set_cons_succ]
              refine wpAnyH_take (i := 5) (oi := { dst := some 62, op := Op.fieldAddr 24 (Operand.tmp 61) 0, type := 0, pos := "ranges.go:39", after := #[{ on := 4, ground := Ground.data }], guard := none }) (v := ?_) rfl (by kernel_rfl) (by kernel_rfl) (by kernel_rfl) (fun _ _ _ h => h) (Or.inl ⟨by rfl, ?_⟩) hHeld ?_
              rotate_left
              · (intro W hSw; (try dsimp only at hSw); go_simp; try with_reducible rfl)
              try simp only [Act.put, List.setIfInBounds_toArray, List.set_cons_zero, List.set_cons_succ]
              refine wpAnyH_take (i := 6) (oi := { dst := some 63, op := Op.load 3 (Operand.tmp 62), type := 3, pos := "ranges.go:39", after := #[{ on := 5, ground := Ground.data }], guard := none }) (v := ?_) rfl (by kernel_rfl) (by kernel_rfl) (by kernel_rfl) (fun _ _ _ h => h) (Or.inl ⟨by rfl, ?_⟩) hHeld ?_
              rotate_left
              · (intro W hSw; (try dsimp only at hSw); go_simp; try with_reducible rfl)
              try simp only [Act.put, List.setIfInBounds_toArray, List.set_cons_zero, List.set_cons_succ]
              refine wpAnyH_take (i := 8) (oi := { dst := some 65, op := Op.fieldAddr 24 (Operand.tmp 3) 1, type := 0, pos := "ranges.go:39", after := #[], guard := none }) (v := ?_) rfl (by kernel_rfl) (by kernel_rfl) (by kernel_rfl) (fun _ _ _ h => h) (Or.inl ⟨by rfl, ?_⟩) hHeld ?_
              rotate_left
              · (intro W hSw; (try dsimp only at hSw); go_simp; try with_reducible rfl)
              try simp only [Act.put, List.setIfInBounds_toArray, List.set_cons_zero, List.set_cons_succ]
              refine wpAnyH_take (i := 10) (oi := { dst := some 67, op := Op.move (Operand.tmp 0), type := 26, pos := "ranges.go:39", after := #[], guard := none }) (v := ?_) rfl (by kernel_rfl) (by kernel_rfl) (by kernel_rfl) (fun _ _ _ h => h) (Or.inl ⟨by rfl, ?_⟩) hHeld ?_
              rotate_left
              · (intro W hSw; (try dsimp only at hSw); go_simp; try with_reducible rfl)
              try simp only [Act.put, List.setIfInBounds_toArray, List.set_cons_zero, List.set_cons_succ]
              refine wpAnyH_take (i := 11) (oi := { dst := some 68, op := Op.move (Operand.tmp 6), type := 3, pos := "ranges.go:39", after := #[], guard := none }) (v := ?_) rfl (by kernel_rfl) (by kernel_rfl) (by kernel_rfl) (fun _ _ _ h => h) (Or.inl ⟨by rfl, ?_⟩) hHeld ?_
              rotate_left
              · (intro W hSw; (try dsimp only at hSw); go_simp; try with_reducible rfl)
              try simp only [Act.put, List.setIfInBounds_toArray, List.set_cons_zero, List.set_cons_succ]
              refine wpAnyH_take (i := 12) (oi := { dst := some 69, op := Op.indexAddr 26 (Operand.tmp 67) (Operand.tmp 68), type := 0, pos := "ranges.go:39", after := #[{ on := 10, ground := Ground.data }, { on := 11, ground := Ground.data }], guard := none }) (v := ?_) rfl (by kernel_rfl) (by kernel_rfl) (by kernel_rfl) (fun _ _ _ h => h) (Or.inl ⟨by rfl, ?_⟩) hHeld ?_
              rotate_left
              · (intro W hSw; (try dsimp only at hSw); go_simp; try with_reducible rfl)
              try simp only [Act.put, List.setIfInBounds_toArray, List.set_cons_zero, List.set_cons_succ]
              refine wpAnyH_take (i := 13) (oi := { dst := some 70, op := Op.fieldAddr 24 (Operand.tmp 69) 1, type := 0, pos := "ranges.go:39", after := #[{ on := 12, ground := Ground.data }], guard := none }) (v := ?_) rfl (by kernel_rfl) (by kernel_rfl) (by kernel_rfl) (fun _ _ _ h => h) (Or.inl ⟨by rfl, ?_⟩) hHeld ?_
              rotate_left
              · (intro W hSw; (try dsimp only at hSw); go_simp; try with_reducible rfl)
              try simp only [Act.put, List.setIfInBounds_toArray, List.set_cons_zero, List.set_cons_succ]
              refine wpAnyH_take (i := 14) (oi := { dst := some 71, op := Op.load 3 (Operand.tmp 70), type := 3, pos := "ranges.go:39", after := #[{ on := 13, ground := Ground.data }], guard := none }) (v := ?_) rfl (by kernel_rfl) (by kernel_rfl) (by kernel_rfl) (fun _ _ _ h => h) (Or.inl ⟨by rfl, ?_⟩) hHeld ?_
              rotate_left
              · (intro W hSw; (try dsimp only at hSw); go_simp; try with_reducible rfl)
              try simp only [Act.put, List.setIfInBounds_toArray, List.set_cons_zero, List.set_cons_succ]
              refine wpAnyH_ready (rs := [1, 9]) (by kernel_rfl) (by simp) ?_
              refine AllReadyH.cons (o := { dst := some 58, op := Op.load 3 (Operand.tmp 57), type := 3, pos := "ranges.go:39", after := #[{ on := 0, ground := Ground.data }], guard := none }) rfl (fun K hK => ?_) (AllReadyH.cons (o := { dst := some 66, op := Op.load 3 (Operand.tmp 65), type := 3, pos := "ranges.go:39", after := #[{ on := 8, ground := Ground.data }], guard := none }) rfl (fun K hK => ?_) AllReadyH.nil)
              · go_simp
                refine hK.out _ _ (KS _ ws1).out (fun hHeld => ?_)
                clear hK K
                try simp only [Act.put, List.setIfInBounds_toArray, List.set_cons_zero, List.set_cons_succ]
                refine wpAnyH_take (i := 7) (oi := { dst := some 64, op := Op.call { callee := Callee.builtin Builtin.min, args := #[Operand.tmp 58, Operand.tmp 63], argTypes := #[3, 3] }, type := 3, pos := "ranges.go:39", after := #[{ on := 1, ground := Ground.data }, { on := 6, ground := Ground.data }], guard := none }) (v := ?_) rfl (by kernel_rfl) (by kernel_rfl) (by kernel_rfl) (fun _ _ _ h => h) (Or.inl ⟨by rfl, ?_⟩) hHeld ?_
                rotate_left
                · (intro W hSw; (try dsimp only at hSw); go_simp; try with_reducible rfl)
                try simp only [Act.put, List.setIfInBounds_toArray, List.set_cons_zero, List.set_cons_succ]
                refine wpAnyH_ready (rs := [9]) (by kernel_rfl) (by simp) ?_
                refine AllReadyH.cons (o := { dst := some 66, op := Op.load 3 (Operand.tmp 65), type := 3, pos := "ranges.go:39", after := #[{ on := 8, ground := Ground.data }], guard := none }) rfl (fun K hK => ?_) AllReadyH.nil
                go_simp
                refine hK.out _ _ (KS _ ws1).out (fun hHeld => ?_)
                clear hK K
                try simp only [Act.put, List.setIfInBounds_toArray, List.set_cons_zero, List.set_cons_succ]
                refine wpAnyH_take (i := 15) (oi := { dst := some 72, op := Op.call { callee := Callee.builtin Builtin.max, args := #[Operand.tmp 66, Operand.tmp 71], argTypes := #[3, 3] }, type := 3, pos := "ranges.go:39", after := #[{ on := 9, ground := Ground.data }, { on := 14, ground := Ground.data }], guard := none }) (v := ?_) rfl (by kernel_rfl) (by kernel_rfl) (by kernel_rfl) (fun _ _ _ h => h) (Or.inl ⟨by rfl, ?_⟩) hHeld ?_
                rotate_left
                · (intro W hSw; (try dsimp only at hSw); go_simp; try with_reducible rfl)
                try simp only [Act.put, List.setIfInBounds_toArray, List.set_cons_zero, List.set_cons_succ]
                refine wpAnyH_take (i := 16) (oi := { dst := some 73, op := Op.fieldAddr 24 (Operand.tmp 3) 0, type := 0, pos := "ranges.go:39", after := #[{ on := 0, ground := Ground.phase }, { on := 1, ground := Ground.phase }, { on := 2, ground := Ground.phase }, { on := 3, ground := Ground.phase }, { on := 4, ground := Ground.phase }, { on := 5, ground := Ground.phase }, { on := 6, ground := Ground.phase }, { on := 7, ground := Ground.phase }, { on := 8, ground := Ground.phase }, { on := 9, ground := Ground.phase }, { on := 10, ground := Ground.textOnly Departure.lateStores }, { on := 11, ground := Ground.textOnly Departure.lateStores }, { on := 12, ground := Ground.textOnly Departure.lateStores }, { on := 13, ground := Ground.textOnly Departure.lateStores }, { on := 14, ground := Ground.textOnly Departure.lateStores }, { on := 15, ground := Ground.textOnly Departure.lateStoresUnsure }], guard := none }) (v := ?_) rfl (by kernel_rfl) (by kernel_rfl) (by kernel_rfl) (fun _ _ _ h => h) (Or.inl ⟨by rfl, ?_⟩) hHeld ?_
                rotate_left
                · (intro W hSw; (try dsimp only at hSw); go_simp; try with_reducible rfl)
                try simp only [Act.put, List.setIfInBounds_toArray, List.set_cons_zero, List.set_cons_succ]
                refine wpAnyH_ready (rs := [17]) (by kernel_rfl) (by simp) ?_
                refine AllReadyH.cons (o := { dst := none, op := Op.store 3 (Operand.tmp 73) (Operand.tmp 64), type := 0, pos := "ranges.go:39", after := #[{ on := 16, ground := Ground.data }, { on := 7, ground := Ground.data }, { on := 0, ground := Ground.phase }, { on := 1, ground := Ground.phase }, { on := 2, ground := Ground.phase }, { on := 3, ground := Ground.phase }, { on := 4, ground := Ground.phase }, { on := 5, ground := Ground.phase }, { on := 6, ground := Ground.phase }, { on := 7, ground := Ground.phase }, { on := 8, ground := Ground.phase }, { on := 9, ground := Ground.phase }, { on := 10, ground := Ground.textOnly Departure.lateStores }, { on := 11, ground := Ground.textOnly Departure.lateStores }, { on := 12, ground := Ground.textOnly Departure.lateStores }, { on := 13, ground := Ground.textOnly Departure.lateStores }, { on := 14, ground := Ground.textOnly Departure.lateStores }, { on := 15, ground := Ground.textOnly Departure.lateStoresUnsure }], guard := none }) rfl (fun K hK => ?_) AllReadyH.nil
                go_simp
                refine hK.out _ _ (KS _ (ws2 _)).out (fun hHeld => ?_)
                clear hK K
                try simp only [Act.put, List.setIfInBounds_toArray, List.set_cons_zero, List.set_cons_succ]
                refine wpAnyH_take (i := 18) (oi := { dst := some 74, op := Op.fieldAddr 24 (Operand.tmp 3) 1, type := 0, pos := "ranges.go:39", after := #[{ on := 0, ground := Ground.phase }, { on := 1, ground := Ground.phase }, { on := 2, ground := Ground.phase }, { on := 3, ground := Ground.phase }, { on := 4, ground := Ground.phase }, { on := 5, ground := Ground.phase }, { on := 6, ground := Ground.phase }, { on := 7, ground := Ground.phase }, { on := 8, ground := Ground.phase }, { on := 9, ground := Ground.phase }, { on := 10, ground := Ground.phase }, { on := 11, ground := Ground.phase }, { on := 12, ground := Ground.phase }, { on := 13, ground := Ground.phase }, { on := 14, ground := Ground.phase }, { on := 15, ground := Ground.phase }, { on := 16, ground := Ground.phase }, { on := 17, ground := Ground.phase }], guard := none }) (v := ?_) rfl (by kernel_rfl) (by kernel_rfl) (by kernel_rfl) (fun _ _ _ h => h) (Or.inl ⟨by rfl, ?_⟩) hHeld ?_
                rotate_left
                · (intro W hSw; (try dsimp only at hSw); go_simp; try with_reducible rfl)
                try simp only [Act.put, List.setIfInBounds_toArray, List.set_cons_zero, List.set_cons_succ]
                refine wpAnyH_ready (rs := [19]) (by kernel_rfl) (by simp) ?_
                refine AllReadyH.cons (o := { dst := none, op := Op.store 3 (Operand.tmp 74) (Operand.tmp 72), type := 0, pos := "ranges.go:39", after := #[{ on := 18, ground := Ground.data }, { on := 15, ground := Ground.data }, { on := 17, ground := Ground.chain }, { on := 0, ground := Ground.phase }, { on := 1, ground := Ground.phase }, { on := 2, ground := Ground.phase }, { on := 3, ground := Ground.phase }, { on := 4, ground := Ground.phase }, { on := 5, ground := Ground.phase }, { on := 6, ground := Ground.phase }, { on := 7, ground := Ground.phase }, { on := 8, ground := Ground.phase }, { on := 9, ground := Ground.phase }, { on := 10, ground := Ground.phase }, { on := 11, ground := Ground.phase }, { on := 12, ground := Ground.phase }, { on := 13, ground := Ground.phase }, { on := 14, ground := Ground.phase }, { on := 15, ground := Ground.phase }, { on := 16, ground := Ground.phase }, { on := 17, ground := Ground.phase }], guard := none }) rfl (fun K hK => ?_) AllReadyH.nil
                go_simp
                refine hK.out _ _ (KS _ (ws3 _ _)).out (fun hHeld => ?_)
                clear hK K
                try simp only [Act.put, List.setIfInBounds_toArray, List.set_cons_zero, List.set_cons_succ]
                refine wpAnyH_done (by kernel_rfl) ?_ _
                exact key ()
              · go_simp
                refine hK.out _ _ (KS _ ws1).out (fun hHeld => ?_)
                clear hK K
                try simp only [Act.put, List.setIfInBounds_toArray, List.set_cons_zero, List.set_cons_succ]
                refine wpAnyH_take (i := 15) (oi := { dst := some 72, op := Op.call { callee := Callee.builtin Builtin.max, args := #[Operand.tmp 66, Operand.tmp 71], argTypes := #[3, 3] }, type := 3, pos := "ranges.go:39", after := #[{ on := 9, ground := Ground.data }, { on := 14, ground := Ground.data }], guard := none }) (v := ?_) rfl (by kernel_rfl) (by kernel_rfl) (by kernel_rfl) (fun _ _ _ h => h) (Or.inl ⟨by rfl, ?_⟩) hHeld ?_
                rotate_left
                · (intro W hSw; (try dsimp only at hSw); go_simp; try with_reducible rfl)
                try simp only [Act.put, List.setIfInBounds_toArray, List.set_cons_zero, List.set_cons_succ]
                refine wpAnyH_ready (rs := [1]) (by kernel_rfl) (by simp) ?_
                refine AllReadyH.cons (o := { dst := some 58, op := Op.load 3 (Operand.tmp 57), type := 3, pos := "ranges.go:39", after := #[{ on := 0, ground := Ground.data }], guard := none }) rfl (fun K hK => ?_) AllReadyH.nil
                go_simp
                refine hK.out _ _ (KS _ ws1).out (fun hHeld => ?_)
                clear hK K
                try simp only [Act.put, List.setIfInBounds_toArray, List.set_cons_zero, List.set_cons_succ]
                refine wpAnyH_take (i := 7) (oi := { dst := some 64, op := Op.call { callee := Callee.builtin Builtin.min, args := #[Operand.tmp 58, Operand.tmp 63], argTypes := #[3, 3] }, type := 3, pos := "ranges.go:39", after := #[{ on := 1, ground := Ground.data }, { on := 6, ground := Ground.data }], guard := none }) (v := ?_) rfl (by kernel_rfl) (by kernel_rfl) (by kernel_rfl) (fun _ _ _ h => h) (Or.inl ⟨by rfl, ?_⟩) hHeld ?_
                rotate_left
                · (intro W hSw; (try dsimp only at hSw); go_simp; try with_reducible rfl)
                try simp only [Act.put, List.setIfInBounds_toArray, List.set_cons_zero, List.set_cons_succ]
                refine wpAnyH_take (i := 16) (oi := { dst := some 73, op := Op.fieldAddr 24 (Operand.tmp 3) 0, type := 0, pos := "ranges.go:39", after := #[{ on := 0, ground := Ground.phase }, { on := 1, ground := Ground.phase }, { on := 2, ground := Ground.phase }, { on := 3, ground := Ground.phase }, { on := 4, ground := Ground.phase }, { on := 5, ground := Ground.phase }, { on := 6, ground := Ground.phase }, { on := 7, ground := Ground.phase }, { on := 8, ground := Ground.phase }, { on := 9, ground := Ground.phase }, { on := 10, ground := Ground.textOnly Departure.lateStores }, { on := 11, ground := Ground.textOnly Departure.lateStores }, { on := 12, ground := Ground.textOnly Departure.lateStores }, { on := 13, ground := Ground.textOnly Departure.lateStores }, { on := 14, ground := Ground.textOnly Departure.lateStores }, { on := 15, ground := Ground.textOnly Departure.lateStoresUnsure }], guard := none }) (v := ?_) rfl (by kernel_rfl) (by kernel_rfl) (by kernel_rfl) (fun _ _ _ h => h) (Or.inl ⟨by rfl, ?_⟩) hHeld ?_
                rotate_left
                · (intro W hSw; (try dsimp only at hSw); go_simp; try with_reducible rfl)
                try simp only [Act.put, List.setIfInBounds_toArray, List.set_cons_zero, List.set_cons_succ]
                refine wpAnyH_ready (rs := [17]) (by kernel_rfl) (by simp) ?_
                refine AllReadyH.cons (o := { dst := none, op := Op.store 3 (Operand.tmp 73) (Operand.tmp 64), type := 0, pos := "ranges.go:39", after := #[{ on := 16, ground := Ground.data }, { on := 7, ground := Ground.data }, { on := 0, ground := Ground.phase }, { on := 1, ground := Ground.phase }, { on := 2, ground := Ground.phase }, { on := 3, ground := Ground.phase }, { on := 4, ground := Ground.phase }, { on := 5, ground := Ground.phase }, { on := 6, ground := Ground.phase }, { on := 7, ground := Ground.phase }, { on := 8, ground := Ground.phase }, { on := 9, ground := Ground.phase }, { on := 10, ground := Ground.textOnly Departure.lateStores }, { on := 11, ground := Ground.textOnly Departure.lateStores }, { on := 12, ground := Ground.textOnly Departure.lateStores }, { on := 13, ground := Ground.textOnly Departure.lateStores }, { on := 14, ground := Ground.textOnly Departure.lateStores }, { on := 15, ground := Ground.textOnly Departure.lateStoresUnsure }], guard := none }) rfl (fun K hK => ?_) AllReadyH.nil
                go_simp
                refine hK.out _ _ (KS _ (ws2 _)).out (fun hHeld => ?_)
                clear hK K
                try simp only [Act.put, List.setIfInBounds_toArray, List.set_cons_zero, List.set_cons_succ]
                refine wpAnyH_take (i := 18) (oi := { dst := some 74, op := Op.fieldAddr 24 (Operand.tmp 3) 1, type := 0, pos := "ranges.go:39", after := #[{ on := 0, ground := Ground.phase }, { on := 1, ground := Ground.phase }, { on := 2, ground := Ground.phase }, { on := 3, ground := Ground.phase }, { on := 4, ground := Ground.phase }, { on := 5, ground := Ground.phase }, { on := 6, ground := Ground.phase }, { on := 7, ground := Ground.phase }, { on := 8, ground := Ground.phase }, { on := 9, ground := Ground.phase }, { on := 10, ground := Ground.phase }, { on := 11, ground := Ground.phase }, { on := 12, ground := Ground.phase }, { on := 13, ground := Ground.phase }, { on := 14, ground := Ground.phase }, { on := 15, ground := Ground.phase }, { on := 16, ground := Ground.phase }, { on := 17, ground := Ground.phase }], guard := none }) (v := ?_) rfl (by kernel_rfl) (by kernel_rfl) (by kernel_rfl) (fun _ _ _ h => h) (Or.inl ⟨by rfl, ?_⟩) hHeld ?_
                rotate_left
                · (intro W hSw; (try dsimp only at hSw); go_simp; try with_reducible rfl)
                try simp only [Act.put, List.setIfInBounds_toArray, List.set_cons_zero, List.set_cons_succ]
                refine wpAnyH_ready (rs := [19]) (by kernel_rfl) (by simp) ?_
                refine AllReadyH.cons (o := { dst := none, op := Op.store 3 (Operand.tmp 74) (Operand.tmp 72), type := 0, pos := "ranges.go:39", after := #[{ on := 18, ground := Ground.data }, { on := 15, ground := Ground.data }, { on := 17, ground := Ground.chain }, { on := 0, ground := Ground.phase }, { on := 1, ground := Ground.phase }, { on := 2, ground := Ground.phase }, { on := 3, ground := Ground.phase }, { on := 4, ground := Ground.phase }, { on := 5, ground := Ground.phase }, { on := 6, ground := Ground.phase }, { on := 7, ground := Ground.phase }, { on := 8, ground := Ground.phase }, { on := 9, ground := Ground.phase }, { on := 10, ground := Ground.phase }, { on := 11, ground := Ground.phase }, { on := 12, ground := Ground.phase }, { on := 13, ground := Ground.phase }, { on := 14, ground := Ground.phase }, { on := 15, ground := Ground.phase }, { on := 16, ground := Ground.phase }, { on := 17, ground := Ground.phase }], guard := none }) rfl (fun K hK => ?_) AllReadyH.nil
                go_simp
                refine hK.out _ _ (KS _ (ws3 _ _)).out (fun hHeld => ?_)
                clear hK K
                try simp only [Act.put, List.setIfInBounds_toArray, List.set_cons_zero, List.set_cons_succ]
                refine wpAnyH_done (by kernel_rfl) ?_ _
                exact key ()
            rw [HF.out, HT.out]
            go_wp2_with fail
            refine ⟨⟨j + 1, F', T', by omega, by omega, by go_num, Lib.hid (bx3.set F' T'), HN, only_drew (only_step gw3 (set_only (set_only (only_refl w3 _) 0 _) 1 _) (fun k hk => by cases hk; exact .inr (Nat.le_refl _)))⟩, ?_⟩
            simp [intOf]; omega
          · by_cases hlt2 : j < l.length
            · obtain ⟨y, hy⟩ : ∃ y, l[j]? = some y := ⟨_, List.getElem?_eq_getElem hlt2⟩
              have hyT : ¬ y.1 ≤ T := fun h => hgo2 ⟨y, hy, h⟩
              obtain ⟨b', off', e0, hb', y1, y2⟩ := (HA.out.keep hG2.out (Nat.le_refl _)).has.rng hy
              obtain ⟨rfl, rfl⟩ : b = b' ∧ off = off' := by injection e0 with e; injection e with e1 e2; exact ⟨e1, e2⟩
              clear e0
              have q1 : ∀ k, (wr.drewN k).cell? ⟨b, off + j * 2, none⟩ = some (.int .i64 y.1) := fun _ => y1
              have hab : abs_ (l.drop j) F T = (F, T, l.drop j) := by rw [List.drop_eq_getElem_cons hlt2, abs_, (List.getElem?_eq_some_iff.1 hy).2, if_neg hyT]
              have v1 : (j : Int) < (l.length : Int) := by omega
              have v0 : (0 : Int) ≤ (j : Int) := by omega
              have hab := Lib.hid hab
              have RES : Hid True := trivial
              clear hy y1 y2 hgo2
              have RES : Hid (addP l f t = l.take i ++ [(F, T)] ++ l.drop j) := Lib.hid (by unfold addP; rw [← HS.out, HAB.out, hab.out]; simp)
              have LEN : Hid ((addP l f t).length = i + 1 + (l.length - j)) := Lib.hid (by rw [RES.out]; simp <;> omega)
              go_wp2_with fail
              go_quiet (fail)
              go_wp2_with fail
              obtain ⟨w3, hw3⟩ : ∃ w3, w3 = wr.drewN nq := ⟨_, rfl⟩
              rw [← hw3]
              have gw3 := only_drewN hG2.out nq
              have bx3 : Bx w3 w.heap.size F T := by rw [hw3]; exact HBX.out
              rw [← hw3] at gw3
              have zw3 : w.heap.size ≤ w3.heap.size := gw3.size
              clear hw3 r1 r2 k1 k2
              have SV : ∀ V, w3.grownBy V none → Hid (V.cell? ⟨w.heap.size, 0, none⟩ = some (.int .i64 F) ∧ V.cell? ⟨w.heap.size, 1, none⟩ = some (.int .i64 T) ∧ w3.grownBy V none) := fun V hV => by
                have q := (bx3.keep hV).cells
                exact ⟨q.1, q.2, hV⟩
              have gd : w3.grownBy w3.drew none := only_drew (only_refl _ _)
              obtain ⟨A2, slj, vj⟩ := slice_lo HA.out j (by omega)
              have sci := slice_cut HA.out i hi
              have VJ := Lib.hid vj
              have gX : w.grownBy (w3.alloc (.cells #[.int .i64 F, .int .i64 T] 24)).drew none := only_drew (only_alloc gw3 _)
              have SX : Hid (Src Try.prog 2 26 (.slice (some ⟨b, off, none⟩) i i) i (pc (l.take i)) (w3.alloc (.cells #[.int .i64 F, .int .i64 T] 24)).drew) := Lib.hid ((HA.out.up gX).src i i hi)
              have S1 : Hid (Src Try.prog 2 26 (.slice (some ⟨w3.heap.size, 0, none⟩) 1 1) 1 (pc [(F, T)]) (w3.alloc (.cells #[.int .i64 F, .int .i64 T] 24)).drew) := Lib.hid (Src.ofSlice _ Try.underlying26 _ 1 1 _ rfl (fun j u hu => by
                rw [Addr.add_lit, Nat.zero_add]; exact cell_newd _ _ _ j u (by rw [← hu, ← Array.getElem?_toList]; rfl)) (pc_one _))
              have zX : w.heap.size ≤ (w3.alloc (.cells #[.int .i64 F, .int .i64 T] 24)).drew.heap.size := gX.size
              have G3 := Lib.hid gw3
              have GX := Lib.hid gX
              have e3 : w3.grownBy (w3.alloc (.cells #[.int .i64 F, .int .i64 T] 24)).drew none := only_drew (World.grownBy_alloc _ _ none)
              have E3 := Lib.hid e3
              clear vj gw3 gX bx3
              go_region_held3 (fun V => V.cell? ⟨w.heap.size, 0, none⟩ = some (.int .i64 F) ∧ V.cell? ⟨w.heap.size, 1, none⟩ = some (.int .i64 T) ∧ w3.grownBy V none) (first | exact (SV _ (by assumption)).out | exact (SV _ (only_drew (by assumption))).out) ((first
                | ((fail_if_success (have := O5)); refine step_app_moves (by rfl) _ _ 26 (by rfl) w.heap.size (some ⟨b, off, none⟩) i (pc (l.take i)) (by rfl) SX.out (.slice (some ⟨w3.heap.size, 0, none⟩) 1 1) 1 (pc [(F, T)]) (by omega) (by rfl) S1.out (by omega) zX ?_; rintro v5 w5 ⟨o5, g5, far5⟩; rw [← pc_append] at o5; have O5 := Lib.hid o5; have FAR5 := Lib.hid far5; have G5 := Lib.hid (grow2 E3.out g5); have g5 := grow2 E3.out g5; have s5 : Hid (Src Try.prog 2 26 (.slice A2 (l.length - j) (c - j)) (l.length - j) (pc (l.drop j)) w5) := Lib.hid (Src.all ((VJ.out.keep (grow2 G3.out G5.out) (Nat.le_refl _))) _ (by rw [List.length_drop])); have z5 : w.heap.size ≤ w5.heap.size := (grow2 G3.out G5.out).size; clear o5 far5)
                | (refine step_app_r (by rfl) _ _ 26 (by rfl) w.heap.size v5 (i + 1) (pc (l.take i ++ [(F, T)])) (by rfl) O5.out (.slice A2 (l.length - j) (c - j)) (l.length - j) (pc (l.drop j)) (by rfl) s5.out (by omega) z5 ?_; intro v6 w6 g6; rw [← pc_append] at g6; have O6 := Lib.hid g6.own; have G6 : Hid (w3.grownBy w6 none) := Lib.hid (only_step G5.out g6.only (fun k hk => .inr (Nat.le_trans E3.out.size (FAR5.out k hk)))); have g6 := G6.out)))
              go_wp2_with fail
              go_ret
              refine ⟨_, rfl, ?_, grow2 G3.out G6.out⟩
              rw [LEN.out, RES.out]; exact O6.out
            · have v1 : ¬ (j : Int) < (l.length : Int) := by omega
              have hab := Lib.hid (show abs_ (l.drop j) F T = (F, T, l.drop j) by rw [List.drop_eq_nil_of_le (by omega)]; rfl)
              clear hgo2
              have RES : Hid (addP l f t = l.take i ++ [(F, T)] ++ l.drop j) := Lib.hid (by unfold addP; rw [← HS.out, HAB.out, hab.out]; simp)
              have LEN : Hid ((addP l f t).length = i + 1 + (l.length - j)) := Lib.hid (by rw [RES.out]; simp <;> omega)
              go_wp2_with fail
              go_quiet (fail)
              go_wp2_with fail
              obtain ⟨w3, hw3⟩ : ∃ w3, w3 = wr.drewN nq := ⟨_, rfl⟩
              rw [← hw3]
              have gw3 := only_drewN hG2.out nq
              have bx3 : Bx w3 w.heap.size F T := by rw [hw3]; exact HBX.out
              rw [← hw3] at gw3
              have zw3 : w.heap.size ≤ w3.heap.size := gw3.size
              clear hw3 r1 r2 k1 k2
              have SV : ∀ V, w3.grownBy V none → Hid (V.cell? ⟨w.heap.size, 0, none⟩ = some (.int .i64 F) ∧ V.cell? ⟨w.heap.size, 1, none⟩ = some (.int .i64 T) ∧ w3.grownBy V none) := fun V hV => by
                have q := (bx3.keep hV).cells
                exact ⟨q.1, q.2, hV⟩
              have gd : w3.grownBy w3.drew none := only_drew (only_refl _ _)
              obtain ⟨A2, slj, vj⟩ := slice_lo HA.out j (by omega)
              have sci := slice_cut HA.out i hi
              have VJ := Lib.hid vj
              have gX : w.grownBy (w3.alloc (.cells #[.int .i64 F, .int .i64 T] 24)).drew none := only_drew (only_alloc gw3 _)
              have SX : Hid (Src Try.prog 2 26 (.slice (some ⟨b, off, none⟩) i i) i (pc (l.take i)) (w3.alloc (.cells #[.int .i64 F, .int .i64 T] 24)).drew) := Lib.hid ((HA.out.up gX).src i i hi)
              have S1 : Hid (Src Try.prog 2 26 (.slice (some ⟨w3.heap.size, 0, none⟩) 1 1) 1 (pc [(F, T)]) (w3.alloc (.cells #[.int .i64 F, .int .i64 T] 24)).drew) := Lib.hid (Src.ofSlice _ Try.underlying26 _ 1 1 _ rfl (fun j u hu => by
                rw [Addr.add_lit, Nat.zero_add]; exact cell_newd _ _ _ j u (by rw [← hu, ← Array.getElem?_toList]; rfl)) (pc_one _))
              have zX : w.heap.size ≤ (w3.alloc (.cells #[.int .i64 F, .int .i64 T] 24)).drew.heap.size := gX.size
              have G3 := Lib.hid gw3
              have GX := Lib.hid gX
              have e3 : w3.grownBy (w3.alloc (.cells #[.int .i64 F, .int .i64 T] 24)).drew none := only_drew (World.grownBy_alloc _ _ none)
              have E3 := Lib.hid e3
              clear vj gw3 gX bx3
              go_region_held3 (fun V => V.cell? ⟨w.heap.size, 0, none⟩ = some (.int .i64 F) ∧ V.cell? ⟨w.heap.size, 1, none⟩ = some (.int .i64 T) ∧ w3.grownBy V none) (first | exact (SV _ (by assumption)).out | exact (SV _ (only_drew (by assumption))).out) ((first
                | ((fail_if_success (have := O5)); refine step_app_moves (by rfl) _ _ 26 (by rfl) w.heap.size (some ⟨b, off, none⟩) i (pc (l.take i)) (by rfl) SX.out (.slice (some ⟨w3.heap.size, 0, none⟩) 1 1) 1 (pc [(F, T)]) (by omega) (by rfl) S1.out (by omega) zX ?_; rintro v5 w5 ⟨o5, g5, far5⟩; rw [← pc_append] at o5; have O5 := Lib.hid o5; have FAR5 := Lib.hid far5; have G5 := Lib.hid (grow2 E3.out g5); have g5 := grow2 E3.out g5; have s5 : Hid (Src Try.prog 2 26 (.slice A2 (l.length - j) (c - j)) (l.length - j) (pc (l.drop j)) w5) := Lib.hid (Src.all ((VJ.out.keep (grow2 G3.out G5.out) (Nat.le_refl _))) _ (by rw [List.length_drop])); have z5 : w.heap.size ≤ w5.heap.size := (grow2 G3.out G5.out).size; clear o5 far5)
                | (refine step_app_r (by rfl) _ _ 26 (by rfl) w.heap.size v5 (i + 1) (pc (l.take i ++ [(F, T)])) (by rfl) O5.out (.slice A2 (l.length - j) (c - j)) (l.length - j) (pc (l.drop j)) (by rfl) s5.out (by omega) z5 ?_; intro v6 w6 g6; rw [← pc_append] at g6; have O6 := Lib.hid g6.own; have G6 : Hid (w3.grownBy w6 none) := Lib.hid (only_step G5.out g6.only (fun k hk => .inr (Nat.le_trans E3.out.size (FAR5.out k hk)))); have g6 := G6.out)))
              go_wp2_with fail
              go_ret
              refine ⟨_, rfl, ?_, grow2 G3.out G6.out⟩
              rw [LEN.out, RES.out]; exact O6.out
      · have u1 : ¬ (i : Int) < (l.length : Int) := by omega
        have u0 : (0 : Int) ≤ (i : Int) := by omega
        clear r1 r2 hgo
        go_wp2_with fail
        go_quiet (fail)
        go_wp2_with fail
        have BS : Hid (Bx (wr.drewN nq) w.heap.size f t) := Lib.hid (b0.out.keep (only_drewN hG.out nq))
        have GS : Hid (w.grownBy (wr.drewN nq) none) := Lib.hid (only_drewN gw.out nq)
        obtain ⟨ws, hws⟩ : ∃ ws, ws = wr.drewN nq := ⟨_, rfl⟩
        rw [← hws] at BS GS ⊢
        clear hws k1
        go_loopw [6] (fun sj wr => ∃ (j : Nat) (F T : Int), i ≤ j ∧ j ≤ l.length ∧ sj = .int .i64 j ∧ Hid (Bx wr w.heap.size F T) ∧ Hid (abs_ (l.drop i) f t = abs_ (l.drop j) F T) ∧ Hid (w.grownBy wr none)) (fun sj _ => l.length - (intOf sj).toNat)
        case atStart => exact ⟨i, f, t, Nat.le_refl _, hi, rfl, BS.out, rfl, GS.out⟩
        case round =>
          clear BS GS
          obtain ⟨j, F, T, hij, hj, rfl, HBX, HAB, hG2⟩ := hrel
          obtain ⟨r1, r2⟩ := HBX.out.cells
          have k1 : ∀ k, (wr.drewN k).cell? ⟨w.heap.size, 0, none⟩ = some (.int .i64 F) := fun _ => r1
          have k2 : ∀ k, (wr.drewN k).cell? ⟨w.heap.size, 1, none⟩ = some (.int .i64 T) := fun _ => r2
          by_cases hgo2 : ∃ y : E2, l[j]? = some y ∧ y.1 ≤ T
          · obtain ⟨y, hy, hyT⟩ := hgo2
            have hlt2 : j < l.length := (List.getElem?_eq_some_iff.1 hy).1
            exact absurd hlt2 (by omega)
          · by_cases hlt2 : j < l.length
            · obtain ⟨y, hy⟩ : ∃ y, l[j]? = some y := ⟨_, List.getElem?_eq_getElem hlt2⟩
              have hyT : ¬ y.1 ≤ T := fun h => hgo2 ⟨y, hy, h⟩
              exact absurd hlt2 (by omega)
            · have v1 : ¬ (j : Int) < (l.length : Int) := by omega
              have hab := Lib.hid (show abs_ (l.drop j) F T = (F, T, l.drop j) by rw [List.drop_eq_nil_of_le (by omega)]; rfl)
              clear hgo2
              have RES : Hid (addP l f t = l.take i ++ [(F, T)] ++ l.drop j) := Lib.hid (by unfold addP; rw [← HS.out, HAB.out, hab.out]; simp)
              have LEN : Hid ((addP l f t).length = i + 1 + (l.length - j)) := Lib.hid (by rw [RES.out]; simp <;> omega)
              go_wp2_with fail
              go_quiet (fail)
              go_wp2_with fail
              obtain ⟨w3, hw3⟩ : ∃ w3, w3 = wr.drewN nq := ⟨_, rfl⟩
              rw [← hw3]
              have gw3 := only_drewN hG2.out nq
              have bx3 : Bx w3 w.heap.size F T := by rw [hw3]; exact HBX.out
              rw [← hw3] at gw3
              have zw3 : w.heap.size ≤ w3.heap.size := gw3.size
              clear hw3 r1 r2 k1 k2
              have SV : ∀ V, w3.grownBy V none → Hid (V.cell? ⟨w.heap.size, 0, none⟩ = some (.int .i64 F) ∧ V.cell? ⟨w.heap.size, 1, none⟩ = some (.int .i64 T) ∧ w3.grownBy V none) := fun V hV => by
                have q := (bx3.keep hV).cells
                exact ⟨q.1, q.2, hV⟩
              have gd : w3.grownBy w3.drew none := only_drew (only_refl _ _)
              obtain ⟨A2, slj, vj⟩ := slice_lo HA.out j (by omega)
              have sci := slice_cut HA.out i hi
              have VJ := Lib.hid vj
              have gX : w.grownBy (w3.alloc (.cells #[.int .i64 F, .int .i64 T] 24)).drew none := only_drew (only_alloc gw3 _)
              have SX : Hid (Src Try.prog 2 26 (.slice (some ⟨b, off, none⟩) i i) i (pc (l.take i)) (w3.alloc (.cells #[.int .i64 F, .int .i64 T] 24)).drew) := Lib.hid ((HA.out.up gX).src i i hi)
              have S1 : Hid (Src Try.prog 2 26 (.slice (some ⟨w3.heap.size, 0, none⟩) 1 1) 1 (pc [(F, T)]) (w3.alloc (.cells #[.int .i64 F, .int .i64 T] 24)).drew) := Lib.hid (Src.ofSlice _ Try.underlying26 _ 1 1 _ rfl (fun j u hu => by
                rw [Addr.add_lit, Nat.zero_add]; exact cell_newd _ _ _ j u (by rw [← hu, ← Array.getElem?_toList]; rfl)) (pc_one _))
              have zX : w.heap.size ≤ (w3.alloc (.cells #[.int .i64 F, .int .i64 T] 24)).drew.heap.size := gX.size
              have G3 := Lib.hid gw3
              have GX := Lib.hid gX
              have e3 : w3.grownBy (w3.alloc (.cells #[.int .i64 F, .int .i64 T] 24)).drew none := only_drew (World.grownBy_alloc _ _ none)
              have E3 := Lib.hid e3
              clear vj gw3 gX bx3
              go_region_held3 (fun V => V.cell? ⟨w.heap.size, 0, none⟩ = some (.int .i64 F) ∧ V.cell? ⟨w.heap.size, 1, none⟩ = some (.int .i64 T) ∧ w3.grownBy V none) (first | exact (SV _ (by assumption)).out | exact (SV _ (only_drew (by assumption))).out) ((first
                | ((fail_if_success (have := O5)); refine step_app_moves (by rfl) _ _ 26 (by rfl) w.heap.size (some ⟨b, off, none⟩) i (pc (l.take i)) (by rfl) SX.out (.slice (some ⟨w3.heap.size, 0, none⟩) 1 1) 1 (pc [(F, T)]) (by omega) (by rfl) S1.out (by omega) zX ?_; rintro v5 w5 ⟨o5, g5, far5⟩; rw [← pc_append] at o5; have O5 := Lib.hid o5; have FAR5 := Lib.hid far5; have G5 := Lib.hid (grow2 E3.out g5); have g5 := grow2 E3.out g5; have s5 : Hid (Src Try.prog 2 26 (.slice A2 (l.length - j) (c - j)) (l.length - j) (pc (l.drop j)) w5) := Lib.hid (Src.all ((VJ.out.keep (grow2 G3.out G5.out) (Nat.le_refl _))) _ (by rw [List.length_drop])); have z5 : w.heap.size ≤ w5.heap.size := (grow2 G3.out G5.out).size; clear o5 far5)
                | (refine step_app_r (by rfl) _ _ 26 (by rfl) w.heap.size v5 (i + 1) (pc (l.take i ++ [(F, T)])) (by rfl) O5.out (.slice A2 (l.length - j) (c - j)) (l.length - j) (pc (l.drop j)) (by rfl) s5.out (by omega) z5 ?_; intro v6 w6 g6; rw [← pc_append] at g6; have O6 := Lib.hid g6.own; have G6 : Hid (w3.grownBy w6 none) := Lib.hid (only_step G5.out g6.only (fun k hk => .inr (Nat.le_trans E3.out.size (FAR5.out k hk)))); have g6 := G6.out)))
              go_wp2_with fail
              go_ret
              refine ⟨_, rfl, ?_, grow2 G3.out G6.out⟩
              rw [LEN.out, RES.out]; exact O6.out
set_option maxRecDepth 100000 in
set_option maxHeartbeats 8000000 in
theorem add_none (A : Option Addr) (c : Nat) (l : List E2) (f t : Int) (w : World) (h : Vw w w.heap.size A c l) (hl : l.length ≤ 1099511627776) (hnil : l.length = 0) (hr : okR (f, t)) :
    Calls Try.prog 11 #[.slice A l.length c, .agg #[.int .i64 f, .int .i64 t]] w (GotR w (addP l f t)) := by
  have HNIL := Lib.hid hnil
  clear hnil
  have HA := Lib.hid h
  unfold okR at hr
  simp only at hr
  have W1 : ∀ W, Hid (Calls Try.prog 19 #[.int .i64 f, .int .i64 0, .int .i64 1073741824] W fun e w' => e = .returned (.bool true) ∧ W = w') := fun W => by have := wn_any f 0 1073741824 W; rwa [show (decide (0 ≤ f) && decide (f ≤ 1073741824)) = true by simp; omega] at this
  have W2 : ∀ W, Hid (Calls Try.prog 19 #[.int .i64 t, .int .i64 0, .int .i64 1073741824] W fun e w' => e = .returned (.bool true) ∧ W = w') := fun W => by have := wn_any t 0 1073741824 W; rwa [show (decide (0 ≤ t) && decide (t ≤ 1073741824)) = true by simp; omega] at this
  have t1 : ¬ t ≤ f := by omega
  have b0 := Lib.hid (Bx.new w f t)
  have g0 := Lib.hid (World.grownBy_alloc w (.cells #[.int .i64 f, .int .i64 t] 24) none)
  clear h hr
  go_enter Try.func11, Try.ntmps11
  go_wp2_with fail
  refine (W1 _).out.mono ?_
  rintro _ w1 ⟨rfl, rfl⟩
  go_wp2_with fail
  refine (W2 _).out.mono ?_
  rintro _ w1 ⟨rfl, rfl⟩
  go_wp2_with fail
  obtain ⟨w0, hw0⟩ : ∃ w0, w0 = w.alloc (.cells #[.int .i64 f, .int .i64 t] 24) := ⟨_, rfl⟩
  rw [← hw0] at b0 g0 ⊢
  clear hw0 W1 W2 t1
  go_loopw [5] (fun si wr => ∃ i : Nat, i ≤ l.length ∧ si = .int .i64 i ∧ Hid (∀ (j : Nat) (y : E2), l[j]? = some y → j < i → y.2 < f) ∧ Hid (w0.grownBy wr none)) (fun si _ => l.length - (intOf si).toNat)
  case atStart => exact ⟨0, Nat.zero_le _, rfl, fun j y _ h => absurd h (by omega), only_refl _ _⟩
  case round =>
    obtain ⟨i, hi, rfl, HI, hG⟩ := hrel
    have gw := Lib.hid (grow2 g0.out hG.out)
    obtain ⟨r1, r2⟩ := (b0.out.keep hG.out).cells
    have k1 : ∀ k, (wr.drewN k).cell? ⟨w.heap.size, 0, none⟩ = some (.int .i64 f) := fun _ => r1
    obtain rfl : i = 0 := by have := HNIL.out; omega
    have HS : Hid (0 = skp l f) := Lib.hid (skp_of l f 0 hi HI.out (fun y hy hyf => by have := (List.getElem?_eq_some_iff.1 hy).1; rw [HNIL.out] at this; omega))
    have u1 : ¬ (0 : Int) < (l.length : Int) := by have := HNIL.out; omega
    obtain ⟨i, hi0⟩ : ∃ i : Nat, i = 0 := ⟨_, rfl⟩
    have HI0 := Lib.hid hi0
    rw [← hi0] at HS hi
    have u1 : ¬ (i : Int) < (l.length : Int) := by omega
    rw [show ((0 : Nat) : Int) = (i : Int) by omega]
    have hlt : ¬ i < l.length := by have := HNIL.out; omega
    clear r1 r2 hi0 HI
    go_wp2_with fail
    go_quiet (fail)
    go_wp2_with fail
    have BS : Hid (Bx (wr.drewN nq) w.heap.size f t) := Lib.hid (b0.out.keep (only_drewN hG.out nq))
    have GS : Hid (w.grownBy (wr.drewN nq) none) := Lib.hid (only_drewN gw.out nq)
    obtain ⟨ws, hws⟩ : ∃ ws, ws = wr.drewN nq := ⟨_, rfl⟩
    rw [← hws] at BS GS ⊢
    clear hws k1
    go_loopw [6] (fun sj wr => ∃ (j : Nat) (F T : Int), i ≤ j ∧ j ≤ l.length ∧ sj = .int .i64 j ∧ Hid (Bx wr w.heap.size F T) ∧ Hid (abs_ (l.drop i) f t = abs_ (l.drop j) F T) ∧ Hid (w.grownBy wr none)) (fun sj _ => l.length - (intOf sj).toNat)
    case atStart => exact ⟨i, f, t, Nat.le_refl _, hi, rfl, BS.out, rfl, GS.out⟩
    case round =>
      clear BS GS
      obtain ⟨j, F, T, hij, hj, rfl, HBX, HAB, hG2⟩ := hrel
      obtain ⟨r1, r2⟩ := HBX.out.cells
      have k1 : ∀ k, (wr.drewN k).cell? ⟨w.heap.size, 0, none⟩ = some (.int .i64 F) := fun _ => r1
      have k2 : ∀ k, (wr.drewN k).cell? ⟨w.heap.size, 1, none⟩ = some (.int .i64 T) := fun _ => r2
      by_cases hgo2 : ∃ y : E2, l[j]? = some y ∧ y.1 ≤ T
      · obtain ⟨y, hy, hyT⟩ := hgo2
        have hlt2 : j < l.length := (List.getElem?_eq_some_iff.1 hy).1
        exact absurd hlt2 (by omega)
      · by_cases hlt2 : j < l.length
        · obtain ⟨y, hy⟩ : ∃ y, l[j]? = some y := ⟨_, List.getElem?_eq_getElem hlt2⟩
          have hyT : ¬ y.1 ≤ T := fun h => hgo2 ⟨y, hy, h⟩
          exact absurd hlt2 (by omega)
        · have v1 : ¬ (j : Int) < (l.length : Int) := by omega
          have hab := Lib.hid (show abs_ (l.drop j) F T = (F, T, l.drop j) by rw [List.drop_eq_nil_of_le (by omega)]; rfl)
          clear hgo2
          have RES : Hid (addP l f t = l.take i ++ [(F, T)] ++ l.drop j) := Lib.hid (by unfold addP; rw [← HS.out, HAB.out, hab.out]; simp)
          have LEN : Hid ((addP l f t).length = i + 1 + (l.length - j)) := Lib.hid (by rw [RES.out]; simp <;> omega)
          go_wp2_with fail
          go_quiet (fail)
          go_wp2_with fail
          obtain ⟨w3, hw3⟩ : ∃ w3, w3 = wr.drewN nq := ⟨_, rfl⟩
          rw [← hw3]
          have gw3 := only_drewN hG2.out nq
          have bx3 : Bx w3 w.heap.size F T := by rw [hw3]; exact HBX.out
          rw [← hw3] at gw3
          have zw3 : w.heap.size ≤ w3.heap.size := gw3.size
          clear hw3 r1 r2 k1 k2
          have SV : ∀ V, w3.grownBy V none → Hid (V.cell? ⟨w.heap.size, 0, none⟩ = some (.int .i64 F) ∧ V.cell? ⟨w.heap.size, 1, none⟩ = some (.int .i64 T) ∧ w3.grownBy V none) := fun V hV => by
            have q := (bx3.keep hV).cells
            exact ⟨q.1, q.2, hV⟩
          have gd : w3.grownBy w3.drew none := only_drew (only_refl _ _)
          obtain ⟨A2, slj, vj⟩ := slice_lo HA.out j (by omega)
          have sci := slice_cut HA.out i hi
          have VJ := Lib.hid vj
          have gX : w.grownBy (w3.alloc (.cells #[.int .i64 F, .int .i64 T] 24)).drew none := only_drew (only_alloc gw3 _)
          have SX : Hid (Src Try.prog 2 26 (.slice A i i) i (pc (l.take i)) (w3.alloc (.cells #[.int .i64 F, .int .i64 T] 24)).drew) := Lib.hid ((HA.out.up gX).src i i hi)
          have S1 : Hid (Src Try.prog 2 26 (.slice (some ⟨w3.heap.size, 0, none⟩) 1 1) 1 (pc [(F, T)]) (w3.alloc (.cells #[.int .i64 F, .int .i64 T] 24)).drew) := Lib.hid (Src.ofSlice _ Try.underlying26 _ 1 1 _ rfl (fun j u hu => by
            rw [Addr.add_lit, Nat.zero_add]; exact cell_newd _ _ _ j u (by rw [← hu, ← Array.getElem?_toList]; rfl)) (pc_one _))
          have zX : w.heap.size ≤ (w3.alloc (.cells #[.int .i64 F, .int .i64 T] 24)).drew.heap.size := gX.size
          have G3 := Lib.hid gw3
          have GX := Lib.hid gX
          have e3 : w3.grownBy (w3.alloc (.cells #[.int .i64 F, .int .i64 T] 24)).drew none := only_drew (World.grownBy_alloc _ _ none)
          have E3 := Lib.hid e3
          clear vj gw3 gX bx3
          go_region_held3 (fun V => V.cell? ⟨w.heap.size, 0, none⟩ = some (.int .i64 F) ∧ V.cell? ⟨w.heap.size, 1, none⟩ = some (.int .i64 T) ∧ w3.grownBy V none) (first | exact (SV _ (by assumption)).out | exact (SV _ (only_drew (by assumption))).out) ((first
            | ((fail_if_success (have := O5)); refine step_app_moves (by rfl) _ _ 26 (by rfl) w.heap.size A i (pc (l.take i)) (by rfl) SX.out (.slice (some ⟨w3.heap.size, 0, none⟩) 1 1) 1 (pc [(F, T)]) (by omega) (by rfl) S1.out (by omega) zX ?_; rintro v5 w5 ⟨o5, g5, far5⟩; rw [← pc_append] at o5; have O5 := Lib.hid o5; have FAR5 := Lib.hid far5; have G5 := Lib.hid (grow2 E3.out g5); have g5 := grow2 E3.out g5; have s5 : Hid (Src Try.prog 2 26 (.slice A2 (l.length - j) (c - j)) (l.length - j) (pc (l.drop j)) w5) := Lib.hid (Src.all ((VJ.out.keep (grow2 G3.out G5.out) (Nat.le_refl _))) _ (by rw [List.length_drop])); have z5 : w.heap.size ≤ w5.heap.size := (grow2 G3.out G5.out).size; clear o5 far5)
            | (refine step_app_r (by rfl) _ _ 26 (by rfl) w.heap.size v5 (i + 1) (pc (l.take i ++ [(F, T)])) (by rfl) O5.out (.slice A2 (l.length - j) (c - j)) (l.length - j) (pc (l.drop j)) (by rfl) s5.out (by omega) z5 ?_; intro v6 w6 g6; rw [← pc_append] at g6; have O6 := Lib.hid g6.own; have G6 : Hid (w3.grownBy w6 none) := Lib.hid (only_step G5.out g6.only (fun k hk => .inr (Nat.le_trans E3.out.size (FAR5.out k hk)))); have g6 := G6.out)))
          go_wp2_with fail
          go_ret
          refine ⟨_, rfl, ?_, grow2 G3.out G6.out⟩
          rw [LEN.out, RES.out]; exact O6.out
theorem add_any (A : Option Addr) (c : Nat) (l : List E2) (f t : Int) (w : World) (h : Vw w w.heap.size A c l) (hl : l.length ≤ 1099511627776) (hr : okR (f, t)) :
    Calls Try.prog 11 #[.slice A l.length c, .agg #[.int .i64 f, .int .i64 t]] w (GotR w (addP l f t)) := by
  rcases h.has with h0 | ⟨b, off, rfl, _⟩
  · exact add_none A c l f t w h hl (by have := congrArg List.length h0; rw [pc_len] at this; simp at this; omega) hr
  · exact add_some b off c l f t w h hl hr
end Go.Proofs.Ytnljccmchmclnaa
