/- Join of two vectors; the walk of VectorJoined: it returns true for every input. No condition. -/
import Derived.Test.YtlanldjpafkckaaVj
import Derived.Test.YtlanldjpafkckaaGr
import Derived.Test.YtlanldjpafkckaaRow
namespace Go.Proofs.Ytlanldjpafkckaa
open Go.RowKit Go.Deep

theorem join_any (A : Option Addr) (c : Nat) (l : List E3) (A' : Option Addr) (c' : Nat) (m : List E3) (w : World) (h : Vw w w.heap.size A c l) (h' : Vw w w.heap.size A' c' m) (hl : l.length ≤ 1073741824) (hm : m.length ≤ 1073741824) :
    Calls Try.prog 19 #[.slice A l.length c, .slice A' m.length c'] w fun e w' => ∃ v, e = .returned v ∧ w'.ownsRow w.heap.size 40 3 v (vmrg l m).length (dc (vmrg l m)) ∧ w.grownBy w' none := by
  have g0 := World.grownBy_alloc w (.cells #[.slice A l.length c, .slice A' m.length c'] 26) none
  have z0 : w.heap.size < (w.alloc (.cells #[.slice A l.length c, .slice A' m.length c'] 26)).heap.size := by show _ < (w.heap.push _).size; rw [Array.size_push]; omega
  have HM := Lib.hid (merge_any A c l A' c' m w.heap.size (w.alloc (.cells #[.slice A l.length c, .slice A' m.length c'] 26)) (h.up g0) (h'.up g0) hl hm z0 (cell_new w _ _ 0 _ rfl) (cell_new w _ _ 1 _ rfl))
  clear h h'
  go_enter Try.func19, Try.ntmps19
  go_wp2_with fail
  refine HM.out.mono ?_
  rintro _ w1 ⟨v, rfl, ho, hg⟩
  go_wp2_with fail
  go_ret
  exact ⟨v, rfl, own_less ho g0.size, grow2' g0 hg⟩
theorem vhas_mrg (l m : List E3) (x : E3) (hl : Srt l) (hm : Srt m) (pl : Pos l) (pm : Pos m) : vhas (vmrg l m) x = (vhas l x || vhas m x) := by
  unfold vhas
  rw [vget_mrg l m _ _ hl hm pl pm]
  rw [Bool.eq_iff_iff]
  simp only [Bool.and_eq_true, Bool.or_eq_true, decide_eq_true_eq]
  omega

set_option maxRecDepth 100000 in
set_option maxHeartbeats 4000000 in
theorem vectorJoined_walk (A0 : Option Addr) (c0 : Nat) (ns : List Int) (A1 : Option Addr) (c1 : Nat) (ms : List Int) (w : World) (h : Has w w.heap.size A0 (is_ ns)) (hb : ∀ n ∈ ns, -9223372036854775808 ≤ n ∧ n ≤ 9223372036854775807) (h1 : Has w w.heap.size A1 (is_ ms)) (hb1 : ∀ n ∈ ms, -9223372036854775808 ≤ n ∧ n ≤ 9223372036854775807) :
    Calls Try.prog 7 #[.slice A0 ns.length c0, .slice A1 ms.length c1] w fun e w' => e = .returned (.bool true) ∧ w.grownBy w' none := by
  have HA := Lib.hid h
  have HB := Lib.hid hb
  have HA1 := Lib.hid h1
  have HB1 := Lib.hid hb1
  clear h hb h1 hb1
  go_enter Try.func7, Try.ntmps7
  go_wp2_with fail
  refine (known_any _).mono ?_
  rintro _ w1 ⟨rfl, g1⟩
  have OF := Lib.hid (of_any A0 c0 ns w1 (HA.out.up g1) HB.out)
  go_wp2_with fail
  refine OF.out.mono ?_
  rintro _ w2 ⟨v, l, rfl, ho, ok, g2⟩
  obtain ⟨A, c, rfl⟩ := own_slice_w ho
  have VV0 := Lib.hid (Vw.own ho).1
  have OK := Lib.hid ok
  have hl : l.length ≤ 12 := ok.len
  have G1 := Lib.hid (only_step g1 g2 (fun _ h => by cases h))
  have OF := Lib.hid (of_any A1 c1 ms w2 (HA1.out.up G1.out) HB1.out)
  clear ho ok g1 g2 HA HB
  go_wp2_with fail
  refine OF.out.mono ?_
  rintro _ w3 ⟨v', m, rfl, ho, ok, g3⟩
  obtain ⟨A', c', rfl⟩ := own_slice_w ho
  have WW0 := Lib.hid (Vw.own ho).1
  have OM := Lib.hid ok
  have hm : m.length ≤ 12 := ok.len
  have VV1 := Lib.hid (VV0.out.up g3)
  have G3 := Lib.hid (only_step G1.out g3 (fun _ h => by cases h))
  have JO := Lib.hid (join_any A c l A' c' m w3 VV1.out WW0.out (by omega) (by omega))
  obtain ⟨j, hj⟩ : ∃ j, j = vmrg l m := ⟨_, rfl⟩
  rw [← hj] at JO
  have SJ : Hid (Srt j) := Lib.hid (by rw [hj]; exact vmrg_srt l m OK.out.srt OM.out.srt)
  have hjl : j.length ≤ 24 := by rw [hj]; have := vmrg_len l m; omega
  have HJ : Hid (∀ x, vhas j x = (vhas l x || vhas m x)) := Lib.hid (fun x => by rw [hj]; exact vhas_mrg l m x OK.out.srt OM.out.srt OK.out.pos OM.out.pos)
  clear OF ho ok g3 HA1 HB1 VV0 G1 hj
  go_wp2_with fail
  refine JO.out.mono ?_
  rintro _ w4 ⟨vj, rfl, ho, g4⟩
  obtain ⟨Aj, cj, rfl⟩ := own_slice_w ho
  have JJ := Lib.hid (Vw.own ho).1
  have VV := Lib.hid (VV1.out.up g4)
  have WW := Lib.hid (WW0.out.up g4)
  have G0 := Lib.hid (grow2' G3.out g4)
  clear JO ho g4 VV1 WW0 G3
  go_wp2_with fail
  go_loopw [8] (fun sd wr => ∃ (d : Int), 0 ≤ d ∧ d ≤ 3 ∧ sd = .int .i64 d ∧ Hid (w4.grownBy wr none)) (fun sd _ => (3 - intOf sd).toNat)
  case atStart => exact ⟨0, by omega, by omega, rfl, only_refl _ _⟩
  case round =>
    obtain ⟨d, d0, d4, rfl, hG⟩ := hrel
    by_cases hd : d < 3
    · have hesd : IntKind.i64.wrap (d + 1) = d + 1 := by rw [IntKind.wrap_i64]; omega
      go_wp2_with fail
      obtain ⟨wd, hwd⟩ : ∃ wd, wd = wr := ⟨_, rfl⟩
      rw [← hwd] at hG ⊢
      clear hwd
      go_loopw [9] (fun se wr => ∃ (e : Int), 1 ≤ e ∧ e ≤ 3 ∧ se = .int .i64 e ∧ Hid (w4.grownBy wr none)) (fun se _ => (3 - intOf se).toNat)
      case atStart => exact ⟨1, by omega, by omega, rfl, hG⟩
      case round =>
        obtain ⟨e, e0, e4, rfl, hG2⟩ := hrel
        by_cases he : e < 3
        · have hese : IntKind.i64.wrap (e + 1) = e + 1 := by rw [IntKind.wrap_i64]; omega
          go_wp2_with fail
          obtain ⟨we, hwe⟩ : ∃ we, we = wr := ⟨_, rfl⟩
          rw [← hwe] at hG2 ⊢
          clear hwe
          go_loopw [10] (fun ss wr => ∃ (s : Int), 1 ≤ s ∧ s ≤ 7 ∧ ss = .int .i64 s ∧ Hid (w4.grownBy wr none)) (fun ss _ => (7 - intOf ss).toNat)
          case atStart => exact ⟨1, by omega, by omega, rfl, hG2⟩
          case round =>
            obtain ⟨s, s0, s8, rfl, hG4⟩ := hrel
            by_cases hs : s < 7
            · have hess : IntKind.i64.wrap (s + 1) = s + 1 := by rw [IntKind.wrap_i64]; omega
              have b0 := box3_new wr (d, e, s) 24
              have g0 := World.grownBy_alloc wr (.cells #[.int .i64 d, .int .i64 e, .int .i64 s] 24) none
              have z0 : wr.heap.size < (wr.alloc (.cells #[.int .i64 d, .int .i64 e, .int .i64 s] 24)).heap.size := by show _ < (wr.heap.push _).size; rw [Array.size_push]; omega
              obtain ⟨rl, hrl⟩ : ∃ r, r = vhas l (d, e, s) := ⟨_, rfl⟩
              obtain ⟨rm, hrm⟩ : ∃ r, r = vhas m (d, e, s) := ⟨_, rfl⟩
              have hrj : vhas j (d, e, s) = (rl || rm) := by rw [HJ.out, hrl, hrm]
              go_wp2_with fail
              obtain ⟨w5, hw5⟩ : ∃ w5, w5 = wr.alloc (.cells #[.int .i64 d, .int .i64 e, .int .i64 s] 24) := ⟨_, rfl⟩
              rw [← hw5] at b0 g0 z0 ⊢
              have g5 := grow2' hG4.out g0
              have CJ : ∀ V, w5.grownBy V none → Calls Try.prog 17 #[.slice Aj j.length cj, .agg #[.int .i64 d, .int .i64 e, .int .i64 s]] V fun e w' => e = .returned (.bool (rl || rm)) ∧ w5.grownBy w' none := fun V hV => by
                have := has_any Aj cj j (d, e, s) V (JJ.out.up (grow2' g5 hV)).has SJ.out (by omega)
                rw [hrj] at this
                exact this.mono fun _ _ h => ⟨h.1, grow2' hV h.2⟩
              have CL : ∀ V, w5.grownBy V none → Calls Try.prog 17 #[.slice A l.length c, .agg #[.int .i64 d, .int .i64 e, .int .i64 s]] V fun e w' => e = .returned (.bool rl) ∧ w5.grownBy w' none := fun V hV => by
                have := has_any A c l (d, e, s) V (VV.out.up (grow2' g5 hV)).has OK.out.srt (by omega)
                rw [← hrl] at this
                exact this.mono fun _ _ h => ⟨h.1, grow2' hV h.2⟩
              have CM : ∀ V, w5.grownBy V none → Calls Try.prog 17 #[.slice A' m.length c', .agg #[.int .i64 d, .int .i64 e, .int .i64 s]] V fun e w' => e = .returned (.bool rm) ∧ w5.grownBy w' none := fun V hV => by
                have := has_any A' c' m (d, e, s) V (WW.out.up (grow2' g5 hV)).has OM.out.srt (by omega)
                rw [← hrm] at this
                exact this.mono fun _ _ h => ⟨h.1, grow2' hV h.2⟩
              have BX : ∀ V, w5.grownBy V none → box3 V wr.heap.size (d, e, s) := fun V hV => b0.kept hV z0
              have CJ := Lib.hid CJ
              have CL := Lib.hid CL
              have CM := Lib.hid CM
              have BX := Lib.hid BX
              clear hrl hrm hrj b0 g0 z0 hw5
              have r0 : w5.grownBy w5 none := only_refl _ _
              cases rl <;> cases rm
              all_goals
                refine wp_region_grow w5 (by kernel_rfl) (by kernel_rfl) r0 ?_
                repeat (refine wpQuiet_step (fun K hK => ?_); go_simp; first
                  | (refine hK _ ?_; clear hK K)
                  | (refine ⟨_, fun _ _ => rfl, hK _ ?_⟩; clear hK K)
                  | (apply Exists.intro
                     refine ⟨fun W hW => ?_, hK _ ?_⟩
                     first
                       | (go_at_call 17; first | with_reducible exact CJ.out W hW | with_reducible exact CL.out W hW | with_reducible exact CM.out W hW)
                       | (obtain ⟨q1, q2, q3⟩ := BX.out W hW; go_simp; first | rfl | exact ⟨rfl, rfl⟩)
                     clear hK K))
                refine wpQuiet_nil ?_
                intro w6 g6
                go_wp2_with fail
                refine ⟨⟨s + 1, by omega, by omega, rfl, grow2' g5 g6⟩, ?_⟩
                simp [intOf]; omega
            · obtain rfl : s = 7 := by omega
              go_wp2_with fail
              refine ⟨⟨e + 1, by omega, by omega, rfl, hG4⟩, ?_⟩
              simp [intOf]; omega
        · obtain rfl : e = 3 := by omega
          go_wp2_with fail
          refine ⟨⟨d + 1, by omega, by omega, rfl, hG2⟩, ?_⟩
          simp [intOf]; omega
    · go_wp2_with fail
      go_ret
      exact ⟨rfl, grow2' G0.out hG.out⟩
end Go.Proofs.Ytlanldjpafkckaa
