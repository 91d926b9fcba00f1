/- The reference's Check of a remove, and of whatever operation. No condition of the program's own. -/
import Derived.Test.YtcmpeohooiehcaaOrc
namespace Go.Proofs.Ytcmpeohooiehcaa
open Go.RowKit Go.Deep

set_option maxRecDepth 100000 in
theorem rk3_many (d e s coll ver n time : Int) (key text : ByteArray) (A : Option Addr) (c : Nat) (l : List Dt) (w : World) (h0 : 0 ≤ d ∧ d ≤ 5) (h1 : 1 ≤ e ∧ e ≤ 1073741824) (h2 : 1 ≤ s ∧ s ≤ 1073741824) (h3 : 0 ≤ coll ∧ coll ≤ 2) (h4 : 1 ≤ ver ∧ ver ≤ 3) (h5 : 0 ≤ time ∧ time ≤ 1099511627776) (h7 : textOk key) (h8 : textOk text) (h9 : key.size ≠ 0) (f : 8 < l.length) :
    Calls Try.prog 14 #[.agg #[.int .i64 d, .int .i64 e, .int .i64 s, .int .i64 coll, .int .i64 ver, .int .i64 3, .string key, .string text, .int .i64 n, .int .i64 time, .slice A l.length c]] w fun e' w' => e' = .returned (.int .i64 4) ∧ w.grownBy w' none := by
  have a0 : ¬ d < 0 := by omega
  have b0 : ¬ 6 ≤ d := by omega
  have a1 : ¬ e < 1 := by omega
  have b1 : ¬ 1073741824 < e := by omega
  have a2 : ¬ s < 1 := by omega
  have b2 : ¬ 1073741824 < s := by omega
  have a3 : ¬ coll < 0 := by omega
  have b3 : ¬ 3 ≤ coll := by omega
  have a4 : ¬ ver < 1 := by omega
  have b4 : ¬ 3 < ver := by omega
  have a5 : ¬ time < 0 := by omega
  have b5 : ¬ 1099511627776 < time := by omega
  have H7 := Lib.hid h7
  have H8 := Lib.hid h8
  have bk : (key.toList == ([] : List UInt8)) = false := str_some key h9
  have g : (8 : Int) < (l.length : Int) := by omega
  clear h0 h1 h2 h3 h4 h5 h7 h8 h9
  go_enter Try.func14, Try.ntmps14
  go_wp2_with fail
  refine (rtext_is key true (iff_yes H7.out) _).mono ?_
  rintro _ wt ⟨rfl, rfl⟩
  go_wp2_with fail
  refine (rtext_is text true (iff_yes H8.out) _).mono ?_
  rintro _ wt ⟨rfl, rfl⟩
  go_wp2_with fail
  go_ret
  exact ⟨rfl, only_alloc (World.grownBy_alloc w _ none) _⟩
set_option maxHeartbeats 2000000 in
set_option maxRecDepth 100000 in
theorem rk3_few (d e s coll ver n time : Int) (key text : ByteArray) (A : Option Addr) (c : Nat) (l : List Dt) (w : World) (h0 : 0 ≤ d ∧ d ≤ 5) (h1 : 1 ≤ e ∧ e ≤ 1073741824) (h2 : 1 ≤ s ∧ s ≤ 1073741824) (h3 : 0 ≤ coll ∧ coll ≤ 2) (h4 : 1 ≤ ver ∧ ver ≤ 3) (h5 : 0 ≤ time ∧ time ≤ 1099511627776) (h7 : textOk key) (h8 : textOk text) (h9 : key.size ≠ 0) (r : Bool) (hr : r = true ↔ rises l) (h : Has w w.heap.size A (dc l)) (hn : l.length ≤ 8) :
    Calls Try.prog 14 #[.agg #[.int .i64 d, .int .i64 e, .int .i64 s, .int .i64 coll, .int .i64 ver, .int .i64 3, .string key, .string text, .int .i64 n, .int .i64 time, .slice A l.length c]] w fun e' w' => e' = .returned (.int .i64 (if r then 0 else 10)) ∧ w.grownBy w' none := by
  have a0 : ¬ d < 0 := by omega
  have b0 : ¬ 6 ≤ d := by omega
  have a1 : ¬ e < 1 := by omega
  have b1 : ¬ 1073741824 < e := by omega
  have a2 : ¬ s < 1 := by omega
  have b2 : ¬ 1073741824 < s := by omega
  have a3 : ¬ coll < 0 := by omega
  have b3 : ¬ 3 ≤ coll := by omega
  have a4 : ¬ ver < 1 := by omega
  have b4 : ¬ 3 < ver := by omega
  have a5 : ¬ time < 0 := by omega
  have b5 : ¬ 1099511627776 < time := by omega
  have H7 := Lib.hid h7
  have H8 := Lib.hid h8
  have bk : (key.toList == ([] : List UInt8)) = false := str_some key h9
  have g : ¬ (8 : Int) < (l.length : Int) := by omega
  have HR := Lib.hid hr
  have HA0 := Lib.hid h
  clear h0 h1 h2 h3 h4 h5 h7 h8 h9 hr h
  go_enter Try.func14, Try.ntmps14
  go_wp2_with fail
  refine (rtext_is key true (iff_yes H7.out) _).mono ?_
  rintro _ wt ⟨rfl, rfl⟩
  go_wp2_with fail
  refine (rtext_is text true (iff_yes H8.out) _).mono ?_
  rintro _ wt ⟨rfl, rfl⟩
  go_wp2_with fail
  obtain ⟨W, hW⟩ : ∃ Z, (w.alloc (.cells #[.int .i64 d, .int .i64 e, .int .i64 s, .int .i64 coll, .int .i64 ver, .int .i64 3, .string key, .string text, .int .i64 n, .int .i64 time, .slice A l.length c] 26)).alloc (.cells #[.int .i64 d, .int .i64 e, .int .i64 s] 23) = Z := ⟨_, rfl⟩
  have gW : Hid (w.grownBy W none) := by subst hW; exact only_alloc (World.grownBy_alloc w _ none) _
  have hz : w.heap.size < W.heap.size := by subst hW; show _ < ((w.heap.push _).push _).size; rw [Array.size_push, Array.size_push]; omega
  have HC : Hid (W.cell? ⟨w.heap.size, 10, none⟩ = some (.slice A l.length c)) := by
    subst hW
    exact (World.cell?_of_block ((World.grownBy_alloc _ _ none).block w.heap.size (by show _ < (w.heap.push _).size; rw [Array.size_push]; omega) (by simp))).trans (cell_new w _ _ 10 _ rfl)
  have HA : Hid (Has W W.heap.size A (dc l)) := HA0.out.up gW.out
  rw [hW]
  clear hW HA0
  go_loopw [4] (fun si wr => ∃ k : Nat, k ≤ l.length ∧ si = .int .i64 ((k : Int) + 1) ∧ Hid (∀ j x y, j < k → l[j]? = some x → l[j + 1]? = some y → dless x y) ∧ Hid (W.grownBy wr none)) (fun si _ => l.length + 1 - (intOf si).toNat)
  case atStart => exact ⟨0, Nat.zero_le _, rfl, fun j _ _ h => absurd h (by omega), only_refl _ _⟩
  case round =>
    obtain ⟨k, hk, rfl, HJ, hG⟩ := hrel
    have c10 : wr.cell? ⟨w.heap.size, 10, none⟩ = some (.slice A l.length c) := (World.cell?_of_block (hG.out.block _ hz (by simp))).trans HC.out
    by_cases hlt : k + 1 < l.length
    · have u1 : (k : Int) + 1 < (l.length : Int) := by omega
      have u0 : (0 : Int) ≤ (k : Int) + 1 := by omega
      have u2 : (0 : Int) ≤ (k : Int) := by omega
      have u3 : (k : Int) < (l.length : Int) := by omega
      have hes : IntKind.i64.wrap ((k : Int) + 1 + 1) = (k : Int) + 1 + 1 := by rw [IntKind.wrap_i64]; omega
      have hed : IntKind.i64.wrap ((k : Int) + 1 - 1) = (k : Int) := by rw [IntKind.wrap_i64]; omega
      have hed2 : IntKind.i64.wrap (k : Int) = (k : Int) := by rw [IntKind.wrap_i64]; omega
      have htn : ((k : Int) + 1).toNat = k + 1 := by omega
      obtain ⟨x, hx⟩ : ∃ x, l[k]? = some x := ⟨_, List.getElem?_eq_getElem (by omega)⟩
      obtain ⟨y, hy⟩ : ∃ y, l[k + 1]? = some y := ⟨_, List.getElem?_eq_getElem hlt⟩
      obtain ⟨b, off, rfl, hb, x1, x2, x3⟩ := HA.out.dot hx
      obtain ⟨b', off', e', _, y1, y2, y3⟩ := HA.out.dot hy
      simp only [Option.some.injEq, Addr.mk.injEq, and_true] at e'
      obtain ⟨rfl, rfl⟩ := e'
      have SV : ∀ V, W.grownBy V none → Hid (V.cell? ⟨b, off + k * 3, none⟩ = some (.int .i64 x.1) ∧ V.cell? ⟨b, off + k * 3 + 1, none⟩ = some (.int .i64 x.2.1) ∧ V.cell? ⟨b, off + k * 3 + 2, none⟩ = some (.int .i64 x.2.2) ∧ V.cell? ⟨b, off + (k + 1) * 3, none⟩ = some (.int .i64 y.1) ∧ V.cell? ⟨b, off + (k + 1) * 3 + 1, none⟩ = some (.int .i64 y.2.1) ∧ V.cell? ⟨b, off + (k + 1) * 3 + 2, none⟩ = some (.int .i64 y.2.2) ∧ V.cell? ⟨w.heap.size, 10, none⟩ = some (.slice (some ⟨b, off, none⟩) l.length c) ∧ W.grownBy V none) := fun V hV => by
        have o : ∀ j, V.cell? ⟨b, j, none⟩ = W.cell? ⟨b, j, none⟩ := fun j => World.cell?_of_block (hV.block b hb (by simp))
        exact ⟨(o _).trans x1, (o _).trans x2, (o _).trans x3, (o _).trans y1, (o _).trans y2, (o _).trans y3, (World.cell?_of_block (hV.block _ hz (by simp))).trans HC.out, hV⟩
      have HX := Lib.hid hx
      have HY := Lib.hid hy
      have d0 := only_drew hG.out
      clear hx hy x1 x2 x3 y1 y2 y3
      by_cases hl : dless x y
      · go_wp2_with fail
        go_region_held3 (fun V => V.cell? ⟨b, off + k * 3, none⟩ = some (.int .i64 x.1) ∧ V.cell? ⟨b, off + k * 3 + 1, none⟩ = some (.int .i64 x.2.1) ∧ V.cell? ⟨b, off + k * 3 + 2, none⟩ = some (.int .i64 x.2.2) ∧ V.cell? ⟨b, off + (k + 1) * 3, none⟩ = some (.int .i64 y.1) ∧ V.cell? ⟨b, off + (k + 1) * 3 + 1, none⟩ = some (.int .i64 y.2.1) ∧ V.cell? ⟨b, off + (k + 1) * 3 + 2, none⟩ = some (.int .i64 y.2.2) ∧ V.cell? ⟨w.heap.size, 10, none⟩ = some (.slice (some ⟨b, off, none⟩) l.length c) ∧ W.grownBy V none)
          (first | exact (SV _ (by assumption)).out) ((first
          | (go_at_call 22; refine (less_is x y true (iff_yes hl) _).mono ?_; rintro e wa ⟨rfl, ga⟩; have da : W.grownBy wa none := only_step d0 ga (fun _ h => by cases h))))
        go_wp2_with fail
        refine ⟨⟨k + 1, by omega, by go_num, fun j x' y' hj hx' hy' => ?_, da⟩, ?_⟩
        · rcases Nat.lt_or_ge j k with h5 | h5
          · exact HJ.out j x' y' h5 hx' hy'
          · obtain rfl : j = k := by omega
            rw [HX.out] at hx'
            rw [HY.out] at hy'
            cases hx'; cases hy'
            exact hl
        · simp [intOf]; omega
      · obtain rfl : r = false := by
          cases r
          · rfl
          · exact absurd (HR.out.1 rfl k x y HX.out HY.out) hl
        go_wp2_with fail
        go_region_held3 (fun V => V.cell? ⟨b, off + k * 3, none⟩ = some (.int .i64 x.1) ∧ V.cell? ⟨b, off + k * 3 + 1, none⟩ = some (.int .i64 x.2.1) ∧ V.cell? ⟨b, off + k * 3 + 2, none⟩ = some (.int .i64 x.2.2) ∧ V.cell? ⟨b, off + (k + 1) * 3, none⟩ = some (.int .i64 y.1) ∧ V.cell? ⟨b, off + (k + 1) * 3 + 1, none⟩ = some (.int .i64 y.2.1) ∧ V.cell? ⟨b, off + (k + 1) * 3 + 2, none⟩ = some (.int .i64 y.2.2) ∧ V.cell? ⟨w.heap.size, 10, none⟩ = some (.slice (some ⟨b, off, none⟩) l.length c) ∧ W.grownBy V none)
          (first | exact (SV _ (by assumption)).out) ((first
          | (go_at_call 22; refine (less_is x y false (iff_not hl) _).mono ?_; rintro e wa ⟨rfl, ga⟩; have da : W.grownBy wa none := only_step d0 ga (fun _ h => by cases h))))
        go_wp2_with fail
        go_ret
        exact ⟨rfl, only_step gW.out da (fun _ h => by cases h)⟩
    · have u1 : ¬ (k : Int) + 1 < (l.length : Int) := by omega
      obtain rfl : r = true := HR.out.2 fun j x y hx hy => HJ.out j x y (by
        have := (List.getElem?_eq_some_iff.1 hy).1; omega) hx hy
      go_wp2_with fail
      go_ret
      exact ⟨rfl, only_step gW.out hG.out (fun _ h => by cases h)⟩

theorem rcheck_f (d e s coll ver kind n time : Int) (key text : ByteArray) (A : Option Addr) (c : Nat) (l : List Dt) (w : World) (h : Has w w.heap.size A (dc l)) :
    Calls Try.prog 14 #[.agg #[.int .i64 d, .int .i64 e, .int .i64 s, .int .i64 coll, .int .i64 ver, .int .i64 kind, .string key, .string text, .int .i64 n, .int .i64 time, .slice A l.length c]] w fun e' w' => e' = .returned (.int .i64 (checkF d e s coll ver kind n time key text l)) ∧ w.grownBy w' none := by
  unfold checkF gateP
  by_cases h0 : 0 ≤ d ∧ d ≤ 5
  · rw [if_neg (fun h => h h0)]
    by_cases h1 : 1 ≤ e ∧ e ≤ 1073741824
    · rw [if_neg (fun h => h h1)]
      by_cases h2 : 1 ≤ s ∧ s ≤ 1073741824
      · rw [if_neg (fun h => h h2)]
        by_cases h3 : 0 ≤ coll ∧ coll ≤ 2
        · rw [if_neg (fun h => h h3)]
          by_cases h4 : 1 ≤ ver ∧ ver ≤ 3
          · rw [if_neg (fun h => h h4)]
            by_cases h5 : 0 ≤ time ∧ time ≤ 1099511627776
            · rw [if_neg (fun h => h h5)]
              by_cases h6 : 1 ≤ kind ∧ kind ≤ 5
              · rw [if_neg (fun h => h h6)]
                by_cases h7 : textOk key
                · rw [if_neg (fun h => h h7)]
                  by_cases h8 : textOk text
                  · rw [if_neg (fun h => h h8)]
                    unfold kindF
                    by_cases h9 : key.size = 0
                    · by_cases hx : kind = 5
                      · subst hx
                        rw [if_neg (by omega)]; unfold kindP; rw [if_pos rfl]
                        by_cases f : 0 ≤ n ∧ n ≤ 999
                        · rw [if_pos f]; exact rk5c d e s coll ver n time key text A c l w h0 h1 h2 h3 h4 h5 h7 h8 f
                        · rw [if_neg f]
                          by_cases g : n < 0
                          · exact rk5a d e s coll ver n time key text A c l w h0 h1 h2 h3 h4 h5 h7 h8 g
                          · exact rk5b d e s coll ver n time key text A c l w h0 h1 h2 h3 h4 h5 h7 h8 (by omega)
                      · have e1 : (if kind = 3 then (if key.size = 0 then 1 else dotsP l (risesB l)) else kindP kind n key) = 1 := by
                          unfold kindP; rw [if_neg hx, if_pos h9, if_pos h9]; simp
                        rw [e1]
                        exact rke d e s coll ver kind n time key text A c l w h0 h1 h2 h3 h4 h5 h6 h7 h8 h9 hx
                    · rcases (show kind = 1 ∨ kind = 2 ∨ kind = 3 ∨ kind = 4 ∨ kind = 5 by omega) with rfl | rfl | rfl | rfl | rfl
                      · rw [if_neg (by omega)]; unfold kindP; rw [if_neg (by omega), if_neg h9, if_neg (by omega)]
                        exact rk1 d e s coll ver n time key text A c l w h0 h1 h2 h3 h4 h5 h7 h8 h9
                      · rw [if_neg (by omega)]; unfold kindP; rw [if_neg (by omega), if_neg h9, if_neg (by omega)]
                        exact rk2 d e s coll ver n time key text A c l w h0 h1 h2 h3 h4 h5 h7 h8 h9
                      · rw [if_pos rfl, if_neg h9]; unfold dotsP
                        by_cases f : 8 < l.length
                        · rw [if_pos f]; exact rk3_many d e s coll ver n time key text A c l w h0 h1 h2 h3 h4 h5 h7 h8 h9 f
                        · rw [if_neg f]; exact rk3_few d e s coll ver n time key text A c l w h0 h1 h2 h3 h4 h5 h7 h8 h9 _ (risesB_iff l) h (by omega)
                      · rw [if_neg (by omega)]; unfold kindP; rw [if_neg (by omega), if_neg h9, if_pos rfl]
                        by_cases f : n = 0
                        · rw [if_pos f]; exact rk4a d e s coll ver n time key text A c l w h0 h1 h2 h3 h4 h5 h7 h8 h9 f
                        · rw [if_neg f]
                          by_cases g : -1099511627776 ≤ n ∧ n ≤ 1099511627776
                          · rw [if_pos g]; exact rk4d d e s coll ver n time key text A c l w h0 h1 h2 h3 h4 h5 h7 h8 h9 g f
                          · rw [if_neg g]
                            by_cases q : n < -1099511627776
                            · exact rk4b d e s coll ver n time key text A c l w h0 h1 h2 h3 h4 h5 h7 h8 h9 q
                            · exact rk4c d e s coll ver n time key text A c l w h0 h1 h2 h3 h4 h5 h7 h8 h9 (by omega)
                      · rw [if_neg (by omega)]; unfold kindP; rw [if_pos rfl]
                        by_cases f : 0 ≤ n ∧ n ≤ 999
                        · rw [if_pos f]; exact rk5c d e s coll ver n time key text A c l w h0 h1 h2 h3 h4 h5 h7 h8 f
                        · rw [if_neg f]
                          by_cases g : n < 0
                          · exact rk5a d e s coll ver n time key text A c l w h0 h1 h2 h3 h4 h5 h7 h8 g
                          · exact rk5b d e s coll ver n time key text A c l w h0 h1 h2 h3 h4 h5 h7 h8 (by omega)
                  · rw [if_pos h8]; exact rno8 d e s coll ver kind n time key text A c l w h0 h1 h2 h3 h4 h5 h6 h7 h8
                · rw [if_pos h7]; exact rno7 d e s coll ver kind n time key text A c l w h0 h1 h2 h3 h4 h5 h6 h7
              · rw [if_pos h6]
                by_cases q : kind < 1
                · exact rno6a d e s coll ver kind n time key text A c l w h0 h1 h2 h3 h4 h5 q
                · exact rno6b d e s coll ver kind n time key text A c l w h0 h1 h2 h3 h4 h5 (by omega)
            · rw [if_pos h5]
              by_cases q : time < 0
              · exact rno5a d e s coll ver kind n time key text A c l w h0 h1 h2 h3 h4 q
              · exact rno5b d e s coll ver kind n time key text A c l w h0 h1 h2 h3 h4 (by omega)
          · rw [if_pos h4]
            by_cases q : ver < 1
            · exact rno4a d e s coll ver kind n time key text A c l w h0 h1 h2 h3 q
            · exact rno4b d e s coll ver kind n time key text A c l w h0 h1 h2 h3 (by omega)
        · rw [if_pos h3]
          by_cases q : coll < 0
          · exact rno3a d e s coll ver kind n time key text A c l w h0 h1 h2 q
          · exact rno3b d e s coll ver kind n time key text A c l w h0 h1 h2 (by omega)
      · rw [if_pos h2]
        by_cases q : s < 1
        · exact rno2a d e s coll ver kind n time key text A c l w h0 h1 q
        · exact rno2b d e s coll ver kind n time key text A c l w h0 h1 (by omega)
    · rw [if_pos h1]
      by_cases q : e < 1
      · exact rno1a d e s coll ver kind n time key text A c l w h0 q
      · exact rno1b d e s coll ver kind n time key text A c l w h0 (by omega)
  · rw [if_pos h0]
    by_cases q : d < 0
    · exact rno0a d e s coll ver kind n time key text A c l w  q
    · exact rno0b d e s coll ver kind n time key text A c l w  (by omega)
end Go.Proofs.Ytcmpeohooiehcaa
