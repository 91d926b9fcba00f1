/- Step of the reference and of package vector. No condition of the program's own. -/
import Derived.Test.YtlanldjpafkckaaVi
import Derived.Laws.MakeOwn
import Derived.Deep.WholeRow
namespace Go.Proofs.Ytlanldjpafkckaa
open Go.RowKit Go.Deep

def sErr (l : List E3) (x : E3) : Int := if x.1 < 0 ∨ x.2.1 < 0 ∨ x.2.2 < 1 then 1 else if vhas l x then 7 else 0
def sRow (l : List E3) (x : E3) : List E3 := if sErr l x = 0 then vput l x else []

set_option maxRecDepth 100000 in
set_option maxHeartbeats 2000000 in
theorem rstep_any (A : Option Addr) (c : Nat) (l : List E3) (x : E3) (w : World) (h : Vw w w.heap.size A c l) (hl : l.length ≤ 1099511627776) :
    Calls Try.prog 13 #[.slice A l.length c, .agg #[.int .i64 x.1, .int .i64 x.2.1, .int .i64 x.2.2]] w fun e w' =>
      ∃ v, e = .returned (.tuple #[v, .int .i64 (sErr l x)]) ∧ w'.ownsRow w.heap.size 40 3 v (sRow l x).length (dc (sRow l x)) ∧ w.grownBy w' none := by
  by_cases h1 : x.1 < 0
  · have hs : sErr l x = 1 := by unfold sErr; rw [if_pos (.inl h1)]
    have hr : sRow l x = [] := by unfold sRow; rw [hs]; rfl
    rw [hs, hr]
    clear hs hr
    go_enter Try.func13, Try.ntmps13
    go_wp2_with fail
    go_ret2
    exact ⟨_, rfl, World.ownsRow_nil _ _ _ 3, World.grownBy_alloc w _ none⟩
  · by_cases h2 : x.2.1 < 0
    · have hs : sErr l x = 1 := by unfold sErr; rw [if_pos (.inr (.inl h2))]
      have hr : sRow l x = [] := by unfold sRow; rw [hs]; rfl
      rw [hs, hr]
      clear hs hr
      go_enter Try.func13, Try.ntmps13
      go_wp2_with fail
      go_ret2
      exact ⟨_, rfl, World.ownsRow_nil _ _ _ 3, World.grownBy_alloc w _ none⟩
    · by_cases h3 : x.2.2 < 1
      · have hs : sErr l x = 1 := by unfold sErr; rw [if_pos (.inr (.inr h3))]
        have hr : sRow l x = [] := by unfold sRow; rw [hs]; rfl
        rw [hs, hr]
        clear hs hr
        go_enter Try.func13, Try.ntmps13
        go_wp2_with fail
        go_ret2
        exact ⟨_, rfl, World.ownsRow_nil _ _ _ 3, World.grownBy_alloc w _ none⟩
      · have g0 := World.grownBy_alloc w (.cells #[.int .i64 x.1, .int .i64 x.2.1, .int .i64 x.2.2] 24) none
        have b0 := box3_new w x 24
        have z0 : w.heap.size < (w.alloc (.cells #[.int .i64 x.1, .int .i64 x.2.1, .int .i64 x.2.2] 24)).heap.size := by show _ < (w.heap.push _).size; rw [Array.size_push]; omega
        have HV := Lib.hid (rhas_any A c l x (w.alloc (.cells #[.int .i64 x.1, .int .i64 x.2.1, .int .i64 x.2.2] 24)) (h.has.up g0) hl)
        have c0 := h.cap
        have HA := Lib.hid h
        clear h
        cases hv : vhas l x
        · rw [hv] at HV
          have HE : Hid (sErr l x = 0) := Lib.hid (by unfold sErr; rw [if_neg (by omega), hv]; rfl)
          have HR : Hid (sRow l x = vput l x) := Lib.hid (by unfold sRow; rw [HE.out]; rfl)
          rw [HE.out, HR.out]
          clear hv
          go_enter Try.func13, Try.ntmps13
          go_wp2_with fail
          refine HV.out.mono ?_
          rintro _ w1 ⟨rfl, g1⟩
          obtain ⟨q1, q2, q3⟩ := b0.kept g1 z0
          have gw := Lib.hid (only_step g0 g1 (fun _ h => by cases h))
          have HP := Lib.hid (put_any A c l x w1 (HA.out.up gw.out) hl)
          clear b0 g0 g1
          go_wp2_with fail
          refine HP.out.mono ?_
          rintro _ w2 ⟨v, rfl, ho, hg⟩
          go_wp2_with fail
          go_ret2
          exact ⟨v, rfl, own_less ho gw.out.size, only_step gw.out hg (fun _ h => by cases h)⟩
        · rw [hv] at HV
          have hs : sErr l x = 7 := by unfold sErr; rw [if_neg (by omega), hv]; rfl
          have hr : sRow l x = [] := by unfold sRow; rw [hs]; rfl
          rw [hs, hr]
          clear hs hr hv
          go_enter Try.func13, Try.ntmps13
          go_wp2_with fail
          refine HV.out.mono ?_
          rintro _ w1 ⟨rfl, g1⟩
          go_wp2_with fail
          go_ret2
          exact ⟨_, rfl, World.ownsRow_nil _ _ _ 3, only_step g0 g1 (fun _ h => by cases h)⟩
theorem run_make_e (w : World) (n : Nat) (hn : n ≤ 1099511627776) :
    (Instr.makeSlice 26 (.int .i64 (n : Int)) (.int .i64 ((n : Int) + 1))).run Try.prog w = .ok (.slice (some ⟨w.heap.size, 0, none⟩) n (n + 1)) (w.alloc (.cells (madeCells (Value.agg #[.int .i64 0, .int .i64 0, .int .i64 0]).cells ((n + 1) * 3)) 40)) := by
  obtain ⟨i, hi, hzz⟩ := Option.map_eq_some_iff.1 Try.info_entry
  simp only [Prod.mk.injEq] at hzz
  obtain ⟨hz, hs, hb⟩ := hzz
  have hr := run_make (P := Try.prog) w 26 40 i _ Try.underlying26 hi hz .i64 .i64 n (n + 1) (by omega) (by omega) (by rw [hb]; omega) (by omega)
  rw [hs, Int.toNat_natCast, show ((n : Int) + 1).toNat = n + 1 by omega] at hr
  exact hr
/-- copy of a vector into a new row with room for one more. -/
theorem copy_new {w : World} {lim : Nat} {A : Option Addr} {c : Nat} {l : List E3} (h : Vw w lim A c l) (hlim : lim ≤ w.heap.size) (ty : TypeId) (row : Array Value) (hr : row.size = (l.length + 1) * 3) :
    ∃ arr : Array Value, (Builtin.copy_ #[26, 26] ty #[.slice (some ⟨w.heap.size, 0, none⟩) l.length (l.length + 1), .slice A l.length c]).run Try.prog (w.alloc (.cells row 40)) = .ok (goInt (l.length : Nat)) (w.alloc (.cells arr 40)) ∧ arr.size = (l.length + 1) * 3 ∧ arr.toList.take (l.length * 3) = dc l := by
  have hg := heap_alloc_new w (.cells row 40)
  rcases h.has with h0 | ⟨b, off, rfl, hb, hc⟩
  · have hl : l = [] := by
      have := congrArg List.length h0; rw [dc_len] at this; exact List.eq_nil_of_length_eq_zero (by simp at this; omega)
    subst hl
    refine ⟨row, ?_, hr, by simp [dc]⟩
    cases A with
    | none => simp [Builtin.copy_, run_underlying Try.underlying26, Builtin.lenOf, Builtin.firstCells, Try.sizeOf40, goInt, storeCells]
    | some a =>
      have := run_copy_into (P := Try.prog) (w.alloc (.cells row 40)) 26 26 ty 40 3 w.heap.size 0 0 1 a 0 c row _ [] 0 Try.underlying26 info3 hg rfl rfl (fun j v hj => by simp at hj) (by simp) (fun _ h => by cases h)
      rw [World.setRow_alloc_new] at this
      simp at this
      exact this
  · have := run_copy_into (P := Try.prog) (w.alloc (.cells row 40)) 26 26 ty 40 3 w.heap.size 0 l.length (l.length + 1) ⟨b, off, none⟩ l.length c row _ (dc l) l.length Try.underlying26 info3 hg (by simp) (by rw [dc_len])
      (fun j v hj => by rw [Addr.add_lit]; exact (World.cell?_alloc_lt _ _ _ (by show b < w.heap.size; omega)).trans (hc j v hj)) (by rw [dc_len, hr]; omega) (dc_one l)
    rw [World.setRow_alloc_new] at this
    refine ⟨_, this, ?_, ?_⟩
    · simp only [List.size_toArray, List.length_append, List.length_take, List.length_drop, Array.length_toList, hr, dc_len]; omega
    · show (row.toList.take 0 ++ dc l ++ _).take (l.length * 3) = _
      rw [List.take_zero, List.nil_append, ← dc_len, List.take_left]
theorem dc_set (l : List E3) : ∀ (i : Nat) (x : E3), i < l.length → dc (l.set i x) = (((dc l).set (i * 3) (.int .i64 x.1)).set (i * 3 + 1) (.int .i64 x.2.1)).set (i * 3 + 2) (.int .i64 x.2.2) := by
  induction l with
  | nil => intro i x h; simp at h
  | cons p r ih =>
    intro i x h
    have e : dc (p :: r) = .int .i64 p.1 :: .int .i64 p.2.1 :: .int .i64 p.2.2 :: dc r := rfl
    cases i with
    | zero => rfl
    | succ k =>
      rw [e, show (k + 1) * 3 = k * 3 + 1 + 1 + 1 by omega, show k * 3 + 1 + 1 + 1 + 2 = k * 3 + 2 + 1 + 1 + 1 by omega]
      simp only [List.set_cons_succ]
      rw [← ih k x (by simpa using h)]
      rfl
theorem vput_miss (l : List E3) (x : E3) (h : vhit l x = false) (i : Nat) (hi : i = vpos l x) : vput l x = l.take i ++ x :: l.drop i := by
  subst hi
  rw [vput_eq]
  have h2 := hit_no h
  have h3 := vpos_at l x
  cases hq : l[vpos l x]? with
  | none => rfl
  | some y =>
    have : klt x y := by
      rcases klt_or x y with k | k | k
      · exact k
      · exact absurd k (h3 y hq)
      · exact absurd ⟨k.1.symm, k.2.symm⟩ (h2 y hq)
    simp [this]
theorem vput_hit (l : List E3) (x : E3) (h : vhit l x = true) (i : Nat) (hi : i = vpos l x) : i < l.length ∧ vput l x = l.set i x := by
  subst hi
  obtain ⟨y, hy, h1, h2⟩ := hit_yes h
  have hl := (List.getElem?_eq_some_iff.1 hy).1
  refine ⟨hl, ?_⟩
  have : ¬ klt x y := fun k => klt_ne k ⟨h1.symm, h2.symm⟩
  rw [vput_eq, hy, List.set_eq_take_append_cons_drop, if_pos hl]
  simp [this]

set_option maxRecDepth 100000 in
set_option maxHeartbeats 2000000 in
theorem step_any (A : Option Addr) (c : Nat) (l : List E3) (x : E3) (w : World) (h : Vw w w.heap.size A c l) (hs : Srt l) (hl : l.length ≤ 1099511627776) :
    Calls Try.prog 12 #[.slice A l.length c, .agg #[.int .i64 x.1, .int .i64 x.2.1, .int .i64 x.2.2]] w fun e w' =>
      ∃ v, e = .returned (.tuple #[v, .int .i64 (sErr l x)]) ∧ w'.ownsRow w.heap.size 40 3 v (sRow l x).length (dc (sRow l x)) ∧ w.grownBy w' none := by
  by_cases h1 : x.1 < 0
  · have hs : sErr l x = 1 := by unfold sErr; rw [if_pos (.inl h1)]
    have hr : sRow l x = [] := by unfold sRow; rw [hs]; rfl
    rw [hs, hr]
    clear hs hr
    go_enter Try.func12, Try.ntmps12
    go_wp2_with fail
    go_ret2
    exact ⟨_, rfl, World.ownsRow_nil _ _ _ 3, World.grownBy_alloc w _ none⟩
  · by_cases h2 : x.2.1 < 0
    · have hs : sErr l x = 1 := by unfold sErr; rw [if_pos (.inr (.inl h2))]
      have hr : sRow l x = [] := by unfold sRow; rw [hs]; rfl
      rw [hs, hr]
      clear hs hr
      go_enter Try.func12, Try.ntmps12
      go_wp2_with fail
      go_ret2
      exact ⟨_, rfl, World.ownsRow_nil _ _ _ 3, World.grownBy_alloc w _ none⟩
    · by_cases h3 : x.2.2 < 1
      · have hs : sErr l x = 1 := by unfold sErr; rw [if_pos (.inr (.inr h3))]
        have hr : sRow l x = [] := by unfold sRow; rw [hs]; rfl
        rw [hs, hr]
        clear hs hr
        go_enter Try.func12, Try.ntmps12
        go_wp2_with fail
        go_ret2
        exact ⟨_, rfl, World.ownsRow_nil _ _ _ 3, World.grownBy_alloc w _ none⟩
      · have g0 := World.grownBy_alloc w (.cells #[.int .i64 x.1, .int .i64 x.2.1, .int .i64 x.2.2] 24) none
        have b0 := box3_new w x 24
        have z0 : w.heap.size < (w.alloc (.cells #[.int .i64 x.1, .int .i64 x.2.1, .int .i64 x.2.2] 24)).heap.size := by show _ < (w.heap.push _).size; rw [Array.size_push]; omega
        have HV := Lib.hid (has_any A c l x (w.alloc (.cells #[.int .i64 x.1, .int .i64 x.2.1, .int .i64 x.2.2] 24)) (h.has.up g0) hs hl)
        have c0 := h.cap
        have HA := Lib.hid h
        clear h
        cases hv : vhas l x
        · rw [hv] at HV
          have HE : Hid (sErr l x = 0) := Lib.hid (by unfold sErr; rw [if_neg (by omega), hv]; rfl)
          have HR : Hid (sRow l x = vput l x) := Lib.hid (by unfold sRow; rw [HE.out]; rfl)
          rw [HE.out, HR.out]
          clear hv
          obtain ⟨n, hn⟩ : ∃ n, n = l.length := ⟨_, rfl⟩
          have HN := Lib.hid hn
          have HF : ∀ W, w.grownBy W none → Hid (Calls Try.prog 23 #[.slice A l.length c, .agg #[.int .i64 x.1, .int .i64 x.2.1, .int .i64 x.2.2]] W fun e w' => e = .returned (.tuple #[.int .i64 (vpos l x : Nat), .bool (vhit l x)]) ∧ W.grownBy w' none) := fun W hW => find_any A c l x W (HA.out.has.up hW) hs hl
          have hp := vpos_le l x
          obtain ⟨i, hi⟩ : ∃ i, i = vpos l x := ⟨_, rfl⟩
          have HI := Lib.hid hi
          rw [← hi] at HF hp
          clear hi hn
          have mk := fun W => run_make_e W l.length hl
          have hw1 : IntKind.i64.wrap ((l.length : Int) + 1) = (l.length : Int) + 1 := by rw [IntKind.wrap_i64]; omega
          have m0 : (0 : Int) ≤ (i : Int) := by omega
          cases hh : vhit l x
          · rw [hh] at HF
            have HH := Lib.hid hh
            clear hh
            go_enter Try.func12, Try.ntmps12
            go_wp2_with fail
            refine HV.out.mono ?_
            rintro _ w1 ⟨rfl, g1⟩
            obtain ⟨q1, q2, q3⟩ := b0.kept g1 z0
            have gw := Lib.hid (only_step g0 g1 (fun _ h => by cases h))
            clear b0 g0 g1
            go_wp2_with fail
            refine (HF _ (only_alloc gw.out _)).out.mono ?_
            rintro _ w2 ⟨rfl, g2⟩
            have zb : w1.heap.size < (w1.alloc (.cells #[.int .i64 x.1, .int .i64 x.2.1, .int .i64 x.2.2] 40)).heap.size := by show _ < (w1.heap.push _).size; rw [Array.size_push]; omega
            have hb2 : Hid (w2.heap[w1.heap.size]? = some (.cells #[.int .i64 x.1, .int .i64 x.2.1, .int .i64 x.2.2] 40 (0, 0))) := Lib.hid ((g2.block _ zb (by simp)).trans (heap_alloc_new w1 _))
            have zc : w1.heap.size < w2.heap.size := Nat.lt_of_lt_of_le zb g2.size
            have gw2 := Lib.hid (only_step (only_alloc gw.out _) g2 (fun _ h => by cases h))
            have zw : w.heap.size ≤ w2.heap.size := gw2.out.size
            clear zb g2 gw
            obtain ⟨row, hrow⟩ : ∃ row, row = madeCells (Value.agg #[.int .i64 0, .int .i64 0, .int .i64 0]).cells ((l.length + 1) * 3) := ⟨_, rfl⟩
            have hrs : row.size = (l.length + 1) * 3 := by rw [hrow]; exact size_madeCells _ _
            rw [← hrow] at mk
            clear hrow
            obtain ⟨arr, hcp, ha1, ha2⟩ := copy_new (HA.out.keep gw2.out (Nat.le_refl _)) zw 3 row hrs
            rw [← HN.out] at mk hcp hw1 ha1 ha2 ⊢
            have r1 := cell_of_heap hb2.out 0 _ rfl
            have r2 := cell_of_heap hb2.out 1 _ rfl
            have r3 := cell_of_heap hb2.out 2 _ rfl
            have hgA := (Below.heap_alloc (w2.alloc (.cells arr 40)) (.cells #[.int .i64 x.1, .int .i64 x.2.1, .int .i64 x.2.2] 40) w2.heap.size (by show _ < (w2.heap.push _).size; rw [Array.size_push]; omega)).trans (heap_alloc_new w2 (.cells arr 40))
            have hgB := heap_alloc_new (w2.alloc (.cells arr 40)) (.cells #[.int .i64 x.1, .int .i64 x.2.1, .int .i64 x.2.2] 40)
            rw [show (w2.alloc (.cells arr 40)).heap.size = w2.heap.size + 1 by show (w2.heap.push _).size = _; rw [Array.size_push]] at hgB
            have HINS := Lib.hid (ins_any w2.heap.size w2.heap.size (w2.heap.size + 1) l x i hp _ arr hgA (by rw [ha1, HN.out]) (by rw [← HN.out]; exact ha2) hgB (by omega) hl (Nat.le_refl _))
            rw [← HN.out] at HINS
            have HK : Hid (vput l x = l.take i ++ x :: l.drop i) := Lib.hid (vput_miss l x HH.out i HI.out)
            have HKL : Hid ((vput l x).length = n + 1) := Lib.hid (by rw [HK.out, List.length_append, List.length_cons, List.length_take, List.length_drop, HN.out]; omega)
            clear hgA hgB ha1 ha2
            go_wp2_with fail
            refine HINS.out.mono ?_
            rintro _ w3 ⟨v, rfl, ho, hg⟩
            go_wp2_with fail
            go_ret2
            rw [HKL.out, HK.out]
            exact ⟨v, rfl, own_less ho zw, only_step (only_alloc (only_alloc gw2.out _) _) hg (fun k hk => by cases hk; exact .inr zw)⟩
          · rw [hh] at HF
            have HH := Lib.hid hh
            clear hh
            go_enter Try.func12, Try.ntmps12
            go_wp2_with fail
            refine HV.out.mono ?_
            rintro _ w1 ⟨rfl, g1⟩
            obtain ⟨q1, q2, q3⟩ := b0.kept g1 z0
            have gw := Lib.hid (only_step g0 g1 (fun _ h => by cases h))
            clear b0 g0 g1
            go_wp2_with fail
            refine (HF _ (only_alloc gw.out _)).out.mono ?_
            rintro _ w2 ⟨rfl, g2⟩
            have zb : w1.heap.size < (w1.alloc (.cells #[.int .i64 x.1, .int .i64 x.2.1, .int .i64 x.2.2] 40)).heap.size := by show _ < (w1.heap.push _).size; rw [Array.size_push]; omega
            have hb2 : Hid (w2.heap[w1.heap.size]? = some (.cells #[.int .i64 x.1, .int .i64 x.2.1, .int .i64 x.2.2] 40 (0, 0))) := Lib.hid ((g2.block _ zb (by simp)).trans (heap_alloc_new w1 _))
            have zc : w1.heap.size < w2.heap.size := Nat.lt_of_lt_of_le zb g2.size
            have gw2 := Lib.hid (only_step (only_alloc gw.out _) g2 (fun _ h => by cases h))
            have zw : w.heap.size ≤ w2.heap.size := gw2.out.size
            clear zb g2 gw
            obtain ⟨row, hrow⟩ : ∃ row, row = madeCells (Value.agg #[.int .i64 0, .int .i64 0, .int .i64 0]).cells ((l.length + 1) * 3) := ⟨_, rfl⟩
            have hrs : row.size = (l.length + 1) * 3 := by rw [hrow]; exact size_madeCells _ _
            rw [← hrow] at mk
            clear hrow
            obtain ⟨arr, hcp, ha1, ha2⟩ := copy_new (HA.out.keep gw2.out (Nat.le_refl _)) zw 3 row hrs
            rw [← HN.out] at mk hcp hw1 ha1 ha2 ⊢
            have r1 := cell_of_heap hb2.out 0 _ rfl
            have r2 := cell_of_heap hb2.out 1 _ rfl
            have r3 := cell_of_heap hb2.out 2 _ rfl
            obtain ⟨hin, HK⟩ := vput_hit l x HH.out i HI.out
            rw [← HN.out] at hin
            have i1 : (i : Int) < (n : Int) := by omega
            have hKL : (vput l x).length = n := by rw [HK, List.length_set, HN.out]
            obtain ⟨u0, a0⟩ : ∃ u, arr[i * 3]? = some u := ⟨_, Array.getElem?_eq_getElem (by rw [ha1]; omega)⟩
            obtain ⟨u1, a1⟩ : ∃ u, arr[i * 3 + 1]? = some u := ⟨_, Array.getElem?_eq_getElem (by rw [ha1]; omega)⟩
            obtain ⟨u2, a2⟩ : ∃ u, arr[i * 3 + 2]? = some u := ⟨_, Array.getElem?_eq_getElem (by rw [ha1]; omega)⟩
            have HO : Hid ((w2.alloc (.cells (((arr.setIfInBounds (i * 3) (.int .i64 x.1)).setIfInBounds (i * 3 + 1) (.int .i64 x.2.1)).setIfInBounds (i * 3 + 2) (.int .i64 x.2.2)) 40)).ownsRow w2.heap.size 40 3 (.slice (some ⟨w2.heap.size, 0, none⟩) n (n + 1)) n (dc (vput l x))) := Lib.hid (own_of (Nat.le_refl _) (heap_alloc_new w2 _) hKL.symm (by omega) (by unfold maxLen; rw [HN.out]; omega) (by simp [ha1]) (by
              rw [HK, dc_set l i x (by rw [← HN.out]; exact hin)]
              simp only [Array.toList_setIfInBounds, List.take_set, ha2]))
            have HKL := Lib.hid hKL
            have HK' := Lib.hid HK
            clear hKL HK ha1 ha2
            go_wp2_with fail
            go_ret2
            rw [HKL.out]
            exact ⟨_, rfl, own_less HO.out zw, only_alloc gw2.out _⟩
        · rw [hv] at HV
          have hs : sErr l x = 7 := by unfold sErr; rw [if_neg (by omega), hv]; rfl
          have hr : sRow l x = [] := by unfold sRow; rw [hs]; rfl
          rw [hs, hr]
          clear hs hr hv
          go_enter Try.func12, Try.ntmps12
          go_wp2_with fail
          refine HV.out.mono ?_
          rintro _ w1 ⟨rfl, g1⟩
          go_wp2_with fail
          go_ret2
          exact ⟨_, rfl, World.ownsRow_nil _ _ _ 3, only_step g0 g1 (fun _ h => by cases h)⟩
end Go.Proofs.Ytlanldjpafkckaa
