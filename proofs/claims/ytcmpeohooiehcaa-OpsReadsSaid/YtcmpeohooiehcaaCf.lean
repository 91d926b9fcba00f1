/- Package parts' Fill, at a Reader's Int: numbers read into cells of one block; Dot, Count. Conditions: fewer than 2^40 bytes. -/
import Derived.Test.YtcmpeohooiehcaaCs
namespace Go.Proofs.Ytcmpeohooiehcaa
open Go.RowKit Go.Deep Go.ChangeShapes
def stN : Nat → RS → RS
  | 0, s => s
  | k + 1, s => stI (stN k s)
theorem stN_ok : ∀ (k : Nat) (s : RS), s.ok → (stN k s).ok
  | 0, _, h => h
  | k + 1, s, h => (stN_ok k s h).stI
def fillK (cs : List Value) (os : List Nat) (s : RS) : Nat → List Value
  | 0 => cs
  | k + 1 => (fillK cs os s k).set (os[k]?.getD 0) (.int .i64 (vI (stN k s)))
theorem fillK_len (cs : List Value) (os : List Nat) (s : RS) : ∀ k, (fillK cs os s k).length = cs.length
  | 0 => rfl
  | k + 1 => by rw [fillK, List.length_set, fillK_len cs os s k]
theorem two_only2 {a w w' : World} {g h : Nat} (k : Two a w g h) (hg : w.grownBy w' (some g)) : Two a w' g h :=
  ⟨hg.os.trans k.os, hg.tape.trans k.tape, hg.output.trans k.output, Nat.le_trans k.size hg.size, fun i hi h1 h2 =>
    (hg.block i (Nat.lt_of_lt_of_le hi k.size) (fun e => h1 (by injection e))).trans (k.block i hi h1 h2)⟩
set_option maxRecDepth 100000 in
set_option maxHeartbeats 1000000 in
theorem fill_any (g b pb : Nat) (T : TypeId) (os : List Nat) (cs : List Value) (s : RS) (w : World) (h : Rp w g s) (hb : w.heap[b]? = some (.cells cs.toArray T (0, 0))) (hgb : g < b) (hpb : w.heap[pb]? = some (.cells (os.map fun o => Value.pointer (some ⟨b, o, none⟩)).toArray 85 (0, 0))) (hne : pb ≠ b ∧ pb ≠ g)
    (hcs : ∀ k : Nat, ∀ o ∈ os, ∃ n, (fillK cs os s k)[o]? = some (.int .i64 n)) (hl : os.length ≤ 1048576) :
    Calls Try.prog 52 #[.func (.func 53) #[.pointer (some ⟨g, 0, none⟩)] #[], .slice (some ⟨pb, 0, none⟩) os.length os.length] w fun e w' => e = .returned (.tuple #[]) ∧ Rp w' g (stN os.length s) ∧ w'.heap[b]? = some (.cells (fillK cs os s os.length).toArray T (0, 0)) ∧ Two w w' g b := by
  have H := Lib.hid h
  have HB := Lib.hid hb
  have HPB := Lib.hid hpb
  have HNE := Lib.hid hne
  have HCS := Lib.hid hcs
  have HGB := Lib.hid hgb
  clear h hb hpb hne hcs hgb
  go_enter Try.func52, Try.ntmps52
  go_wp2_with fail
  go_loopw [5, 8] (fun _ si wr => ∃ k : Nat, k ≤ os.length ∧ si = .int .i64 k ∧ Hid (Rp wr g (stN k s)) ∧ Hid (wr.heap[b]? = some (.cells (fillK cs os s k).toArray T (0, 0))) ∧ Hid (Two w wr g b))
    (fun _ si _ => os.length - (intOf si).toNat)
  case atStart => exact ⟨0, Nat.zero_le _, rfl, H, HB, two_refl _ _ _⟩
  case round =>
    obtain ⟨k, hk, rfl, hP, hB, hT⟩ := hrel
    by_cases hlt : k < os.length
    · have hlp : pb < w.heap.size := (Array.getElem?_eq_some_iff.1 HPB.out).1
      have hbb := (hT.out.block pb hlp HNE.out.2 HNE.out.1).trans HPB.out
      obtain ⟨o, eo⟩ : ∃ o, o = os[k] := ⟨_, rfl⟩
      have hcell : wr.cell? ⟨pb, k, none⟩ = some (.pointer (some ⟨b, o, none⟩)) := by rw [eo]; simp [World.cell?, hbb, hlt]
      have hmem : o ∈ os := by rw [eo]; exact List.getElem_mem hlt
      obtain ⟨n0, hn0⟩ := HCS.out k o hmem
      have hgo : os[k]?.getD 0 = o := by rw [List.getElem?_eq_getElem hlt, eo]; rfl
      have HGO := Lib.hid hgo
      have hbw : b < wr.heap.size := (Array.getElem?_eq_some_iff.1 hB.out).1
      clear hbb eo hlp hmem hgo
      go_wp2_with fail
      refine (rpInt g _ wr hP.out).mono ?_
      rintro _ w2 ⟨rfl, P2, g2⟩
      have b2 := (g2.block b hbw (fun e => by injection e with e; have := HGB.out; omega)).trans hB.out
      have c2 : w2.cell? ⟨b, o, none⟩ = some (.int .i64 n0) := by simp [World.cell?, b2, hn0]
      have f2 : w2.frozen? ⟨b, o, none⟩ = false := by simp [World.frozen?, b2]
      have HP2 := Lib.hid P2
      have HG2 := Lib.hid g2
      have HB2 := Lib.hid b2
      clear P2 g2 b2 hn0
      go_wp2_with fail
      obtain ⟨U, hU⟩ : ∃ Z, w2.setCell ⟨b, o, none⟩ (.int .i64 (vI (stN k s))) = Z := ⟨_, rfl⟩
      have bU : Hid (U.heap[b]? = some (.cells (fillK cs os s (k + 1)).toArray T (0, 0))) := by
        unfold Hid
        subst hU
        rw [heap_set HB2.out, fillK, HGO.out]
        simp
      have PU : Hid (Rp U g (stN (k + 1) s)) := by
        subst hU
        exact HP2.out.later (set_at (only_refl _ _) _ _) HGB.out
      have TU : Hid (Two w U g b) := by
        subst hU
        exact two_set (two_only2 hT.out HG2.out) (.inr (.inl rfl)) _
      rw [hU]
      clear hU c2 f2
      go_roundw
      case rel => exact ⟨k + 1, hlt, by go_num, PU, bU, TU⟩
      case measure => simp [intOf]; omega
    · have hkl : k = os.length := by omega
      subst hkl
      go_wp2_with fail
      go_end0
      exact ⟨rfl, hP.out, hB.out, hT.out⟩
theorem fill_int (cs : List Value) (os : List Nat) (s : RS) (h : ∀ u ∈ cs, ∃ n, u = .int .i64 n) : ∀ (k o : Nat), o < cs.length → ∃ n, (fillK cs os s k)[o]? = some (.int .i64 n)
  | 0, o, ho => by
    obtain ⟨n, hn⟩ := h cs[o] (List.getElem_mem ho)
    exact ⟨n, by rw [fillK, List.getElem?_eq_getElem ho, hn]⟩
  | k + 1, o, ho => by
    obtain ⟨n, hn⟩ := fill_int cs os s h k o ho
    rw [fillK]
    by_cases e : os[k]?.getD 0 = o
    · refine ⟨vI (stN k s), ?_⟩
      rw [← e, List.getElem?_set_self (by rw [fillK_len, e]; exact ho)]
    · exact ⟨n, by rw [List.getElem?_set_ne e]; exact hn⟩
set_option maxRecDepth 100000 in
set_option maxHeartbeats 1000000 in
theorem pdot_any (g : Nat) (s : RS) (w : World) (h : Rp w g s) :
    Calls Try.prog 51 #[.pointer (some ⟨g, 0, none⟩)] w fun e w' => e = .returned (.agg #[.int .i64 (dotV s).1, .int .i64 (dotV s).2.1, .int .i64 (dotV s).2.2]) ∧ Rp w' g (s3 s) ∧ w.grownBy w' (some g) := by
  have H := Lib.hid h
  have hlt := h.lt
  have HLT := Lib.hid hlt
  clear h
  go_enter Try.func51, Try.ntmps51
  go_wp2_with fail
  obtain ⟨w3, hw3⟩ : ∃ Z, (((w.alloc (.cells #[.int .i64 0, .int .i64 0, .int .i64 0] 23)).alloc (.cells #[.int .i64 0, .int .i64 0, .int .i64 0] 23)).alloc (.cells #[.pointer (some ⟨w.heap.size + 1, 0, none⟩), .pointer (some ⟨w.heap.size + 1, 1, none⟩), .pointer (some ⟨w.heap.size + 1, 2, none⟩)] 85)) = Z := ⟨_, rfl⟩
  have hA : (w.alloc (.cells #[.int .i64 0, .int .i64 0, .int .i64 0] 23)).heap.size = w.heap.size + 1 := by simp
  have r3 : w3.heap[w.heap.size]? = some (.cells #[.int .i64 0, .int .i64 0, .int .i64 0] 23 (0, 0)) := by subst hw3; exact (Below.heap_alloc _ _ _ (by simp; omega)).trans ((Below.heap_alloc _ _ _ (by simp)).trans (heap_alloc_new w _))
  have b3 : w3.heap[w.heap.size + 1]? = some (.cells #[.int .i64 0, .int .i64 0, .int .i64 0] 23 (0, 0)) := by
    subst hw3
    refine (Below.heap_alloc _ _ _ (by simp)).trans ?_
    have := heap_alloc_new (w.alloc (.cells #[.int .i64 0, .int .i64 0, .int .i64 0] 23)) (.cells #[.int .i64 0, .int .i64 0, .int .i64 0] 23)
    rwa [hA] at this
  have p3 : w3.heap[w.heap.size + 1 + 1]? = some (.cells (([0, 1, 2] : List Nat).map fun o => Value.pointer (some ⟨w.heap.size + 1, o, none⟩)).toArray 85 (0, 0)) := by
    subst hw3
    have := heap_alloc_new ((w.alloc (.cells #[.int .i64 0, .int .i64 0, .int .i64 0] 23)).alloc (.cells #[.int .i64 0, .int .i64 0, .int .i64 0] 23)) (.cells #[.pointer (some ⟨w.heap.size + 1, 0, none⟩), .pointer (some ⟨w.heap.size + 1, 1, none⟩), .pointer (some ⟨w.heap.size + 1, 2, none⟩)] 85)
    rwa [World.size_alloc, World.size_alloc] at this
  have g3 : w.grownBy w3 none := by subst hw3; exact only_alloc (only_alloc (only_alloc (only_refl _ _) _) _) _
  rw [hw3]
  clear hw3 hA
  refine (fill_any g (w.heap.size + 1) (w.heap.size + 1 + 1) 23 [0, 1, 2] [.int .i64 0, .int .i64 0, .int .i64 0] s w3 (H.out.off g3) b3 (by omega) p3 (by omega) (fun k => ?_) (by simp)).mono ?_
  · intro o ho
    simp only [List.mem_cons, List.not_mem_nil, or_false] at ho
    exact fill_int _ _ _ (by intro u hu; simp only [List.mem_cons, List.not_mem_nil, or_false] at hu; rcases hu with rfl | rfl | rfl <;> exact ⟨0, rfl⟩) k o (by simp; omega)
  rintro _ w4 ⟨rfl, P4, b4, T4⟩
  have r4 := (T4.block w.heap.size (by have := g3.size; have := (Array.getElem?_eq_some_iff.1 r3).1; omega) (by have := HLT.out; omega) (by omega)).trans r3
  have g4 : w.grownBy w4 (some g) := ⟨T4.os.trans g3.os, T4.tape.trans g3.tape, T4.output.trans g3.output, Nat.le_trans g3.size T4.size, fun i hi hne => (T4.block i (Nat.lt_of_lt_of_le hi g3.size) (fun e => hne (by rw [e])) (by omega)).trans (g3.block i hi (by simp))⟩
  have b4 : w4.heap[w.heap.size + 1]? = some (.cells #[.int .i64 (vI s), .int .i64 (vI (stI s)), .int .i64 (vI (stI (stI s)))] 23 (0, 0)) := b4
  have c0 : w4.cell? ⟨w.heap.size + 1, 0, none⟩ = some (.int .i64 (vI s)) := by simp [World.cell?, b4]
  have c1 : w4.cell? ⟨w.heap.size + 1, 1, none⟩ = some (.int .i64 (vI (stI s))) := by simp [World.cell?, b4]
  have c2 : w4.cell? ⟨w.heap.size + 1, 2, none⟩ = some (.int .i64 (vI (stI (stI s)))) := by simp [World.cell?, b4]
  have q0 : w4.cell? ⟨w.heap.size, 0, none⟩ = some (.int .i64 0) := by simp [World.cell?, r4]
  have q1 : w4.cell? ⟨w.heap.size, 1, none⟩ = some (.int .i64 0) := by simp [World.cell?, r4]
  have q2 : w4.cell? ⟨w.heap.size, 2, none⟩ = some (.int .i64 0) := by simp [World.cell?, r4]
  have f0 : w4.frozen? ⟨w.heap.size, 0, none⟩ = false := by simp [World.frozen?, r4]
  have f1 : w4.frozen? ⟨w.heap.size, 1, none⟩ = false := by simp [World.frozen?, r4]
  have f2 : w4.frozen? ⟨w.heap.size, 2, none⟩ = false := by simp [World.frozen?, r4]
  have HP4 := Lib.hid P4
  have HG4 := Lib.hid g4
  have HR4 := Lib.hid r4
  clear P4 g4 T4 b4 r4 r3 b3 p3 g3
  go_wp2_with fail
  obtain ⟨U, hU⟩ : ∃ Z, (((w4.setCell ⟨w.heap.size, 0, none⟩ (.int .i64 (vI s))).setCell ⟨w.heap.size, 1, none⟩ (.int .i64 (vI (stI s)))).setCell ⟨w.heap.size, 2, none⟩ (.int .i64 (vI (stI (stI s))))) = Z := ⟨_, rfl⟩
  have rU : U.heap[w.heap.size]? = some (.cells #[.int .i64 (vI s), .int .i64 (vI (stI s)), .int .i64 (vI (stI (stI s)))] 23 (0, 0)) := by
    subst hU
    rw [heap_set (heap_set (heap_set HR4.out))]
    rfl
  have gU : w4.grownBy U (some w.heap.size) := by subst hU; exact set_at (set_at (set_at (only_refl _ _) 0 _) 1 _) 2 _
  rw [hU]
  clear hU
  have k0 : U.cell? ⟨w.heap.size, 0, none⟩ = some (.int .i64 (vI s)) := by simp [World.cell?, rU]
  have k1 : U.cell? ⟨w.heap.size, 1, none⟩ = some (.int .i64 (vI (stI s))) := by simp [World.cell?, rU]
  have k2 : U.cell? ⟨w.heap.size, 2, none⟩ = some (.int .i64 (vI (stI (stI s)))) := by simp [World.cell?, rU]
  exact bodyPost_ret (v := .agg #[.int .i64 (vI s), .int .i64 (vI (stI s)), .int .i64 (vI (stI (stI s)))]) (by simp [results, Try.results51, go_sem, k0, k1, k2]) rfl ⟨rfl, HP4.out.later gU HLT.out, only_step HG4.out gU (fun k hk => by cases hk; exact .inr (Nat.le_refl _))⟩
set_option maxRecDepth 100000 in
theorem count_any (g : Nat) (s : RS) (w : World) (h : Rp w g s) :
    Calls Try.prog 55 #[.pointer (some ⟨g, 0, none⟩), .int .i64 8] w fun e w' => e = .returned (.int .i64 (if 0 ≤ vI s ∧ vI s ≤ 8 then vI s else 0)) ∧ Rp w' g (if 0 ≤ vI s ∧ vI s ≤ 8 then stI s else flS (stI s) 4) ∧ w.grownBy w' (some g) := by
  have H := Lib.hid h
  clear h
  by_cases hr : 0 ≤ vI s ∧ vI s ≤ 8
  · rw [if_pos hr, if_pos hr]
    have HR := Lib.hid hr
    clear hr
    go_enter Try.func55, Try.ntmps55
    go_wp2_with fail
    refine (rpInt g s w H.out).mono ?_
    rintro _ w2 ⟨rfl, P2, g2⟩
    have HP := Lib.hid P2
    have HG := Lib.hid g2
    clear P2 g2
    go_wp2_with fail
    refine (wn_is (vI s) 0 8 true (by simpa using HR.out) _).mono ?_
    rintro _ w3 ⟨rfl, rfl⟩
    go_wp2_with fail
    go_ret
    exact ⟨rfl, HP.out, HG.out⟩
  · rw [if_neg hr, if_neg hr]
    have HR := Lib.hid hr
    clear hr
    go_enter Try.func55, Try.ntmps55
    go_wp2_with fail
    refine (rpInt g s w H.out).mono ?_
    rintro _ w2 ⟨rfl, P2, g2⟩
    have HP := Lib.hid P2
    have HG := Lib.hid g2
    clear P2 g2
    go_wp2_with fail
    refine (wn_is (vI s) 0 8 false (by simpa using HR.out) _).mono ?_
    rintro _ w3 ⟨rfl, rfl⟩
    go_wp2_with fail
    refine (rpFail g _ 4 _ HP.out).mono ?_
    rintro _ w4 ⟨rfl, P4, g4⟩
    have HP4 := Lib.hid P4
    have HG4 := Lib.hid (only_step HG.out g4 (fun _ h => .inl h))
    clear P4 g4
    go_wp2_with fail
    go_ret
    exact ⟨rfl, HP4.out, HG4.out⟩
end Go.Proofs.Ytcmpeohooiehcaa
