/- Le of package vector and of the reference; the reference's less. No condition of the program's own. -/
import Derived.Test.YtlanldjpafkckaaVg
namespace Go.Proofs.Ytlanldjpafkckaa
open Go.RowKit Go.Deep

theorem le_step {a b : List E3} {i : Nat} {y : E3} (hy : a[i]? = some y) (h : ∀ j z, a[j]? = some z → j < i → z.2.2 ≤ vget b z.1 z.2.1) (hle : y.2.2 ≤ vget b y.1 y.2.1) : ∀ j z, a[j]? = some z → j < i + 1 → z.2.2 ≤ vget b z.1 z.2.1 := fun j z hz hj => by
  by_cases e : j = i
  · subst e; rw [hy] at hz; cases hz; exact hle
  · exact h j z hz (by omega)
theorem le_all {a b : List E3} (h : ∀ j z, a[j]? = some z → j < a.length → z.2.2 ≤ vget b z.1 z.2.1) : vle a b := fun y hy => by
  obtain ⟨j, hj⟩ := List.getElem?_of_mem hy
  exact h j y hj (List.getElem?_eq_some_iff.1 hj).1
set_option maxRecDepth 100000 in
set_option maxHeartbeats 1000000 in
theorem le_any (A : Option Addr) (c : Nat) (l : List E3) (A' : Option Addr) (c' : Nat) (m : List E3) (w : World) (h : Has w w.heap.size A (dc l)) (h' : Has w w.heap.size A' (dc m)) (hs : Srt m) (hl : l.length ≤ 1099511627776) (hm : m.length ≤ 1099511627776) :
    Calls Try.prog 21 #[.slice A l.length c, .slice A' m.length c'] w fun e' w' => e' = .returned (.bool (decide (vle l m))) ∧ w.grownBy w' none := by
  have HA := Lib.hid h
  have HB := Lib.hid h'
  have HS := Lib.hid hs
  clear h h' hs
  go_enter Try.func21, Try.ntmps21
  go_wp2_with fail
  go_loopw [9] (fun si wr => ∃ i : Nat, i ≤ l.length ∧ si = .int .i64 i ∧ Hid (∀ (j : Nat) (z : E3), l[j]? = some z → j < i → z.2.2 ≤ vget m z.1 z.2.1) ∧ Hid (w.grownBy wr none)) (fun si _ => l.length - (intOf si).toNat)
  case atStart => exact ⟨0, Nat.zero_le _, rfl, fun _ _ _ h => absurd h (by omega), only_refl _ _⟩
  case round =>
    obtain ⟨i, hi, rfl, HL, hG⟩ := hrel
    by_cases hlt : i < l.length
    · have u1 : (i : Int) < (l.length : Int) := by omega
      have u0 : (0 : Int) ≤ (i : Int) := by omega
      have hes : IntKind.i64.wrap ((i : Int) + 1) = (i : Int) + 1 := by rw [IntKind.wrap_i64]; omega
      obtain ⟨y, hy⟩ : ∃ y, l[i]? = some y := ⟨_, List.getElem?_eq_getElem hlt⟩
      obtain ⟨b, off, e0, hb, y1, y2, y3⟩ := HA.out.dot hy
      subst e0
      have HY := Lib.hid hy
      clear hy
      have q1 : wr.cell? ⟨b, off + i * 3, none⟩ = some (.int .i64 y.1) := (World.cell?_of_block (hG.out.block b hb (by simp))).trans y1
      have q2 : wr.cell? ⟨b, off + i * 3 + 1, none⟩ = some (.int .i64 y.2.1) := (World.cell?_of_block (hG.out.block b hb (by simp))).trans y2
      have q3 : wr.cell? ⟨b, off + i * 3 + 2, none⟩ = some (.int .i64 y.2.2) := (World.cell?_of_block (hG.out.block b hb (by simp))).trans y3
      clear y1 y2 y3
      have b0 := box3_new wr y 40
      have g0 := World.grownBy_alloc wr (.cells #[.int .i64 y.1, .int .i64 y.2.1, .int .i64 y.2.2] 40) none
      have z0 : wr.heap.size < (wr.alloc (.cells #[.int .i64 y.1, .int .i64 y.2.1, .int .i64 y.2.2] 40)).heap.size := by show _ < (wr.heap.push _).size; rw [Array.size_push]; omega
      go_wp2_with fail
      obtain ⟨w0, hw0⟩ : ∃ w0, w0 = wr.alloc (.cells #[.int .i64 y.1, .int .i64 y.2.1, .int .i64 y.2.2] 40) := ⟨_, rfl⟩
      rw [← hw0] at b0 g0 z0 ⊢
      have SV : ∀ V, w0.grownBy V none → Hid (V.cell? ⟨wr.heap.size, 0, none⟩ = some (.int .i64 y.1) ∧ V.cell? ⟨wr.heap.size, 1, none⟩ = some (.int .i64 y.2.1) ∧ V.cell? ⟨wr.heap.size, 2, none⟩ = some (.int .i64 y.2.2) ∧ w0.grownBy V none) := fun V hV => by
        have q := b0.kept hV z0
        exact ⟨q.1, q.2.1, q.2.2, hV⟩
      have GC : ∀ V, w0.grownBy V none → Hid (Calls Try.prog 15 #[.slice A' m.length c', .int .i64 y.1, .int .i64 y.2.1] V fun e w' => e = .returned (.int .i64 (vget m y.1 y.2.1)) ∧ V.grownBy w' none) := fun V hV => get_any A' c' m y.1 y.2.1 V (((HB.out.up hG.out).up g0).up hV) HS.out hm
      have d0 := only_drew (only_refl w0 none)
      have gw : Hid (w.grownBy w0 none) := only_step hG.out g0 (fun _ h => by cases h)
      clear b0 g0 z0 hw0 q1 q2 q3 hG
      obtain ⟨v, hv⟩ : ∃ v, v = vget m y.1 y.2.1 := ⟨_, rfl⟩
      have HV := Lib.hid hv
      rw [← hv] at GC
      clear hv
      go_region_held3 (fun V => V.cell? ⟨wr.heap.size, 0, none⟩ = some (.int .i64 y.1) ∧ V.cell? ⟨wr.heap.size, 1, none⟩ = some (.int .i64 y.2.1) ∧ V.cell? ⟨wr.heap.size, 2, none⟩ = some (.int .i64 y.2.2) ∧ w0.grownBy V none)
        (first | exact (SV _ d0).out | exact (SV _ (only_step d0 (by assumption) (fun _ h => by cases h))).out) ((go_at_call 15; refine (GC _ d0).out.mono ?_; rintro e wa ⟨rfl, ga⟩))
      have g2 : Hid (w.grownBy wa none) := only_step gw.out (only_step d0 ga (fun _ h => by cases h)) (fun _ h => by cases h)
      clear SV GC d0 ga gw
      by_cases hk : y.2.2 ≤ v
      · have t : ¬ v < y.2.2 := by omega
        go_wp2_with fail
        refine ⟨⟨i + 1, by omega, by go_num, le_step HY.out HL.out (by rw [← HV.out]; exact hk), g2⟩, ?_⟩
        · simp [intOf]; omega
      · have t : v < y.2.2 := by omega
        have HN : Hid (¬ vle l m) := Lib.hid (fun h => by have := h y (List.mem_of_getElem? HY.out); rw [← HV.out] at this; omega)
        go_wp2_with fail
        go_ret
        exact ⟨by rw [decide_eq_false HN.out]; rfl, g2.out⟩
    · have u1 : ¬ (i : Int) < (l.length : Int) := by omega
      obtain rfl : i = l.length := by omega
      have HN : Hid (vle l m) := le_all HL.out
      go_wp2_with fail
      go_ret
      exact ⟨by rw [decide_eq_true HN.out]; rfl, hG.out⟩

theorem quiet_left {P : Program} {f : FuncId} {args : Array Value} {w : World} {n : Nat} {v : Value} (h : Calls P f args (w.drewN n) fun e w' => e = .returned v ∧ w.drewN n = w') : Calls P f args (w.drewN n) fun e w'' => e = .returned v ∧ ∃ m, w'' = w.drewN m :=
  h.mono fun _ _ ⟨he, hm⟩ => ⟨he, n, hm.symm⟩
set_option maxRecDepth 100000 in
set_option maxHeartbeats 1000000 in
theorem rle_any (A : Option Addr) (c : Nat) (l : List E3) (A' : Option Addr) (c' : Nat) (m : List E3) (w : World) (h : Has w w.heap.size A (dc l)) (h' : Has w w.heap.size A' (dc m)) (hl : l.length ≤ 1099511627776) (hm : m.length ≤ 1099511627776) :
    Calls Try.prog 22 #[.slice A l.length c, .slice A' m.length c'] w fun e' w' => e' = .returned (.bool (decide (vle l m))) ∧ w.grownBy w' none := by
  have HA := Lib.hid h
  have HB := Lib.hid h'
  clear h h'
  go_enter Try.func22, Try.ntmps22
  go_wp2_with fail
  go_loopw [5] (fun si wr => ∃ i : Nat, i ≤ l.length ∧ si = .int .i64 i ∧ Hid (∀ (j : Nat) (z : E3), l[j]? = some z → j < i → z.2.2 ≤ vget m z.1 z.2.1) ∧ Hid (w.grownBy wr none)) (fun si _ => l.length - (intOf si).toNat)
  case atStart => exact ⟨0, Nat.zero_le _, rfl, fun _ _ _ h => absurd h (by omega), only_refl _ _⟩
  case round =>
    obtain ⟨i, hi, rfl, HL, hG⟩ := hrel
    by_cases hlt : i < l.length
    · have u1 : (i : Int) < (l.length : Int) := by omega
      have u0 : (0 : Int) ≤ (i : Int) := by omega
      have hes : IntKind.i64.wrap ((i : Int) + 1) = (i : Int) + 1 := by rw [IntKind.wrap_i64]; omega
      obtain ⟨y, hy⟩ : ∃ y, l[i]? = some y := ⟨_, List.getElem?_eq_getElem hlt⟩
      obtain ⟨b, off, e0, hb, y1, y2, y3⟩ := HA.out.dot hy
      subst e0
      have HY := Lib.hid hy
      clear hy
      have q1 : ∀ k, (wr.drewN k).cell? ⟨b, off + i * 3, none⟩ = some (.int .i64 y.1) := fun _ => (World.cell?_of_block (hG.out.block b hb (by simp))).trans y1
      have q2 : ∀ k, (wr.drewN k).cell? ⟨b, off + i * 3 + 1, none⟩ = some (.int .i64 y.2.1) := fun _ => (World.cell?_of_block (hG.out.block b hb (by simp))).trans y2
      have q3 : ∀ k, (wr.drewN k).cell? ⟨b, off + i * 3 + 2, none⟩ = some (.int .i64 y.2.2) := fun _ => (World.cell?_of_block (hG.out.block b hb (by simp))).trans y3
      clear y1 y2 y3
      obtain ⟨v, hv⟩ : ∃ v, v = vget m y.1 y.2.1 := ⟨_, rfl⟩
      have GC : ∀ k, Hid (Calls Try.prog 16 #[.slice A' m.length c', .int .i64 y.1, .int .i64 y.2.1] (wr.drewN k) fun e w' => e = .returned (.int .i64 v) ∧ wr.drewN k = w') := fun k => by
        rw [hv]; exact rget_any A' c' m y.1 y.2.1 _ (HB.out.up (only_drewN hG.out k)) hm
      have HV := Lib.hid hv
      clear hv
      go_wp2_with fail
      go_quiet ((go_at_call 16; exact quiet_left (GC _).out))
      by_cases hk : y.2.2 ≤ v
      · have t : ¬ v < y.2.2 := by omega
        go_wp2_with fail
        refine ⟨⟨i + 1, by omega, by go_num, le_step HY.out HL.out (by rw [← HV.out]; exact hk), only_drewN hG.out _⟩, ?_⟩
        · simp [intOf]; omega
      · have t : v < y.2.2 := by omega
        have HN : Hid (¬ vle l m) := Lib.hid (fun h => by have := h y (List.mem_of_getElem? HY.out); rw [← HV.out] at this; omega)
        go_wp2_with fail
        go_ret
        exact ⟨by rw [decide_eq_false HN.out]; rfl, only_drewN hG.out _⟩
    · have u1 : ¬ (i : Int) < (l.length : Int) := by omega
      obtain rfl : i = l.length := by omega
      have HN : Hid (vle l m) := le_all HL.out
      go_wp2_with fail
      go_ret
      exact ⟨by rw [decide_eq_true HN.out]; rfl, hG.out⟩

theorem less_any (x y : E3) (w : World) :
    Calls Try.prog 32 #[.agg #[.int .i64 x.1, .int .i64 x.2.1, .int .i64 x.2.2], .agg #[.int .i64 y.1, .int .i64 y.2.1, .int .i64 y.2.2]] w fun e w' => e = .returned (.bool (decide (klt x y))) ∧ w.grownBy w' none := by
  obtain ⟨x1, x2, x3⟩ := x
  obtain ⟨y1, y2, y3⟩ := y
  show Calls Try.prog _ #[.agg #[.int .i64 x1, .int .i64 x2, .int .i64 x3], .agg #[.int .i64 y1, .int .i64 y2, .int .i64 y3]] w _
  obtain ⟨r, hr⟩ : ∃ r, r = decide (klt (x1, x2, x3) (y1, y2, y3)) := ⟨_, rfl⟩
  rw [← hr]
  have hd : r = true ↔ (x1 < y1 ∨ x1 = y1 ∧ x2 < y2) := by rw [hr, decide_eq_true_eq]; exact Iff.rfl
  clear hr
  by_cases e1 : x1 < y1
  · obtain rfl : r = true := hd.2 (.inl e1)
    clear hd
    go_enter Try.func32, Try.ntmps32
    go_wp2_with fail
    go_ret
    exact ⟨rfl, only_alloc (World.grownBy_alloc w _ none) _⟩
  · by_cases e2 : x1 = y1
    · have n2 : (x1 == y1) = true := by simp [e2]
      obtain rfl : r = decide (x2 < y2) := by
        rw [Bool.eq_iff_iff, hd, decide_eq_true_eq]; omega
      subst e2
      clear hd
      go_enter Try.func32, Try.ntmps32
      go_wp2_with fail
      go_ret
      exact ⟨rfl, only_alloc (World.grownBy_alloc w _ none) _⟩
    · have n2 : (x1 == y1) = false := by simp [e2]
      obtain rfl : r = false := by
        rw [Bool.eq_false_iff]; intro h; have := hd.1 h; omega
      clear hd
      go_enter Try.func32, Try.ntmps32
      go_wp2_with fail
      go_ret
      exact ⟨rfl, only_alloc (World.grownBy_alloc w _ none) _⟩
end Go.Proofs.Ytlanldjpafkckaa
