/- The reference's disk: Append, Sync, Stop. Conditions: its numbers stay below 2^40. -/
import Derived.Test.YtmjfemnjkgfgfaaRk
namespace Go.Proofs.Ytmjfemnjkgfgfaa
open Go.RowKit Go.Deep
theorem spend_eq (d : DS) (h : d.dd = false) : { goesS d with op := if (goesS d).dd = true then (goesS d).op else (goesS d).op + 1 } = spendS d := by
  unfold goesS spendS spO
  rw [h]
  rfl
theorem spend_op (d : DS) : (if (goesS d).dd = true then (18 : Int) else 0) = spR d.st d.sn := rfl
theorem left_pos (d : DS) (h : 0 ≤ d.sn) (hp : 0 < leftOf (goesS d)) : 0 < leftOf d := by
  have := (left_goes d h).2
  rw [this] at hp
  split at hp <;> omega
theorem own_lit0 (w : World) : (w.alloc (.cells #[] 5)).ownsRow w.heap.size 5 1 (.slice (some ⟨w.heap.size, 0, none⟩) 0 0) ([] : List Value).length [] :=
  ⟨rfl, .inr ⟨w.heap.size, 0, #[], rfl, Nat.le_refl _, heap_alloc_new w _, Nat.le_refl _, Nat.zero_le _, rfl, rfl⟩⟩
theorem Has.srcAt {w w' : World} {A : Option Addr} {l : List Int} (h : Has w w.heap.size A (bs l)) (hz : w.heap.size ≤ w'.heap.size) (hk : ∀ p : Addr, p.block < w.heap.size → (∃ i, i < l.length ∧ ∃ b off, A = some ⟨b, off, none⟩ ∧ p = ⟨b, off + i, none⟩) → w'.cell? p = w.cell? p) (c : Nat) : Src Try.prog 1 31 (.slice A l.length c) (bs l).length (bs l) w' := by
  have h2 : Has w' w'.heap.size A (bs l) := by
    rcases h with h | ⟨b, off, hA, hb, hc⟩
    · exact .inl h
    · refine .inr ⟨b, off, hA, by omega, fun j u hu => (hk ⟨b, off + j, none⟩ hb ⟨j, ?_, b, off, hA, rfl⟩).trans (hc j u hu)⟩
      have := (List.getElem?_eq_some_iff.1 hu).1
      rwa [bs_len] at this
  have h := h2.src (P := Try.prog) (tx := 31) Try.underlying31 c (bs_one _)
  rw [bs_len] at h ⊢
  exact h
theorem RkV.to {w w' : World} {F : Nat → Prop} {g : Nat} {d : DS} {ev : Bool} {vL vS : Value} (h : RkV w F g d ev vL vS) (gg : w.grownBy w' (some g)) {d' : DS} {ev' : Bool} {vL' vS' : Value}
    (hc : w'.heap[g]? = some (.cells #[.int .i64 d'.rm, vL', .int .i64 d'.sy, vS', .int .i64 (leftOf d'), .bool ev', .bool d'.dd, .int .i64 d'.op] 44 (0, 0)))
    (hL : (vL' = vL ∧ d'.L = d.L) ∨ Rv w' F g vL' d'.L) (hS : (vS' = vS ∧ d'.S = d.S) ∨ Rv w' F g vS' d'.S) : RkV w' F g d' ev' vL' vS' := by
  have kp : ∀ k, k < w.heap.size → k ≠ g → F k → w'.heap[k]? = w.heap[k]? := fun k hk hne _ => gg.block k hk (fun e => by injection e with e; exact hne e)
  refine ⟨hc, ?_, ?_⟩
  · rcases hL with ⟨rfl, e⟩ | h1
    · rw [e]; exact h.2.1.keep gg.size kp
    · exact h1
  · rcases hS with ⟨rfl, e⟩ | h1
    · rw [e]; exact h.2.2.keep gg.size kp
    · exact h1
set_option maxRecDepth 100000 in
set_option maxHeartbeats 2000000 in
theorem rstop_any (F : Nat → Prop) (g : Nat) (d : DS) (n : Int) (w : World) (h : Rk w F g d) (h1 : -9223372036854775808 ≤ n) (h2 : n ≤ 9223372036854775807) :
    Calls Try.prog 18 #[.pointer (some ⟨g, 0, none⟩), .int .i64 n] w fun e w' => e = .returned (.tuple #[]) ∧ Rk w' F g (stopS d n) ∧ w.grownBy w' (some g) := by
  obtain ⟨ev, vL, vS, hV, he⟩ := h
  obtain ⟨c0, c1, c2, c3, c4, c5, c6, c7⟩ := hV.cells
  have f4 := hV.fr 4
  have f5 := hV.fr 5
  have E : Hid ((n.tmod 2 == 0) = (n % 2 == 0)) := by
    show (n.tmod 2 == 0) = (n % 2 == 0)
    rw [Bool.eq_iff_iff, beq_iff_eq, beq_iff_eq]
    exact ⟨fun h => Int.emod_eq_zero_of_dvd (Int.dvd_of_tmod_eq_zero h), fun h => Int.tmod_eq_zero_of_dvd (Int.dvd_of_emod_eq_zero h)⟩
  have HV := Lib.hid hV
  clear hV he
  have fin : ∀ m : Int, m = leftOf (stopS d n) → Hid (Rk ((w.setCell ⟨g, 4, none⟩ (.int .i64 m)).setCell ⟨g, 5, none⟩ (.bool (n.tmod 2 == 0))) F g (stopS d n) ∧ w.grownBy ((w.setCell ⟨g, 4, none⟩ (.int .i64 m)).setCell ⟨g, 5, none⟩ (.bool (n.tmod 2 == 0))) (some g)) := fun m hm => by
    have gg : w.grownBy ((w.setCell ⟨g, 4, none⟩ (.int .i64 m)).setCell ⟨g, 5, none⟩ (.bool (n.tmod 2 == 0))) (some g) := only_set (p := ⟨g, 5, none⟩) (only_set (p := ⟨g, 4, none⟩) (only_refl _ _) (.inl rfl) _) (.inl rfl) _
    refine ⟨⟨n % 2 == 0, vL, vS, HV.out.to gg ?_ (.inl ⟨rfl, rfl⟩) (.inl ⟨rfl, rfl⟩), fun _ => rfl⟩, gg⟩
    rw [heap_set (heap_set HV.out.1), hm, E.out]
    rfl
  by_cases hn : 0 ≤ n
  · have F1 := fin n (by unfold leftOf stopS; dsimp only; split <;> omega)
    rw [E.out] at F1
    clear fin
    go_enter Try.func18, Try.ntmps18
    go_wp2_with fail
    go_end0
    exact ⟨rfl, F1.out.1, F1.out.2⟩
  · have F1 := fin 0 (by unfold leftOf stopS; dsimp only; split <;> omega)
    have hn2 : n < 0 := by omega
    clear fin
    go_enter Try.func18, Try.ntmps18
    go_wp2_with fail
    go_end0
    exact ⟨rfl, F1.out.1, F1.out.2⟩
set_option maxRecDepth 100000 in
set_option maxHeartbeats 2000000 in
theorem rsync_any (F : Nat → Prop) (g : Nat) (d : DS) (w : World) (h : Rk w F g d) (hk : Ok d) (hst : d.st ≤ 9223372036854775807) :
    Calls Try.prog 16 #[.pointer (some ⟨g, 0, none⟩)] w fun e w' => e = .returned (.int .i64 (syncE d)) ∧ Rk w' F g (syncS d) ∧ w.grownBy w' (some g) := by
  obtain ⟨ev, vL, vS, hV, he⟩ := h
  obtain ⟨c0, c1, c2, c3, c4, c5, c6, c7⟩ := hV.cells
  have HV := Lib.hid hV
  have HE := Lib.hid he
  have HK := Lib.hid hk
  clear hV he hk c0 c1 c2 c3 c4 c5 c7
  by_cases hd : d.dd = true
  · rw [show syncE d = 18 by simp [syncE, hd], show syncS d = d by simp [syncS, hd]]
    rw [hd] at c6
    clear hd
    go_enter Try.func16, Try.ntmps16
    go_wp2_with fail
    go_ret
    exact ⟨rfl, ⟨ev, vL, vS, HV.out, HE.out⟩, only_refl _ _⟩
  · have hd : d.dd = false := by simpa using hd
    rw [show syncE d = spR d.st d.sn by simp [syncE, hd], show syncS d = if goes d.st d.sn = true then spendS d else { spendS d with sy := d.L.length } by simp [syncS, hd]]
    have GO := Lib.hid (rgoes_any F g d ev vL vS w HV.out HK.out hd hst)
    have SE := Lib.hid (spend_eq d hd)
    rw [hd] at c6
    clear hd
    cases hg : goes d.st d.sn
    · rw [hg] at GO
      rw [show spR d.st d.sn = 0 by simp [spR, hg], if_neg (by decide)]
      have HGF := Lib.hid hg
      clear hg
      go_enter Try.func16, Try.ntmps16
      go_wp2_with fail
      refine GO.out.mono ?_
      rintro _ w1 ⟨rfl, V1, g1⟩
      obtain ⟨AL, cL, eL, _⟩ := V1.2.1
      have q1 := V1.cells.2.1
      rw [eL] at q1
      have q2 := V1.cells.2.2.1
      have f2 := V1.fr 2
      have HV1 := Lib.hid V1
      clear V1
      go_wp2_with fail
      obtain ⟨w2, hw2⟩ : ∃ Z, w1.setCell ⟨g, 2, none⟩ (.int .i64 (goesS d).L.length) = Z := ⟨_, rfl⟩
      have gg : w1.grownBy w2 (some g) := by subst hw2; exact only_set (p := ⟨g, 2, none⟩) (only_refl _ _) (.inl rfl) _
      have V2 : RkV w2 F g { goesS d with sy := d.L.length } ev vL vS := by
        refine HV1.out.to gg ?_ (.inl ⟨rfl, rfl⟩) (.inl ⟨rfl, rfl⟩)
        subst hw2
        rw [heap_set HV1.out.1]
        rfl
      rw [hw2]
      clear hw2
      refine (rend_any F g _ ev vL vS w2 V2 HK.out.op).mono ?_
      rintro e3 w3 ⟨he3, V3, g3⟩
      rw [show ({ goesS d with sy := (d.L.length : Int) } : DS).dd = false from HGF.out] at he3 V3
      rw [if_neg (by decide)] at he3 V3
      subst he3
      go_wp2_with fail
      go_ret
      refine ⟨rfl, ⟨ev, vL, vS, ?_, fun hp => HE.out (left_pos d HK.out.sn.1 hp)⟩, only_step (only_step g1 gg (fun _ h => .inl h)) g3 (fun _ h => .inl h)⟩
      rw [← SE.out, show (goesS d).dd = false from HGF.out, if_neg (by decide)]
      exact V3
    · rw [hg] at GO
      rw [show spR d.st d.sn = 18 by simp [spR, hg], if_pos rfl]
      have HGF := Lib.hid hg
      clear hg
      go_enter Try.func16, Try.ntmps16
      go_wp2_with fail
      refine GO.out.mono ?_
      rintro _ w1 ⟨rfl, V1, g1⟩
      go_wp2_with fail
      refine (rend_any F g _ ev vL vS w1 V1 HK.out.op).mono ?_
      rintro e3 w3 ⟨he3, V3, g3⟩
      rw [show (goesS d).dd = true from HGF.out, if_pos rfl] at he3
      subst he3
      rw [SE.out] at V3
      go_wp2_with fail
      go_ret
      exact ⟨rfl, ⟨ev, vL, vS, V3, fun hp => HE.out (left_pos d HK.out.sn.1 hp)⟩, only_step g1 g3 (fun _ h => .inl h)⟩
end Go.Proofs.Ytmjfemnjkgfgfaa
