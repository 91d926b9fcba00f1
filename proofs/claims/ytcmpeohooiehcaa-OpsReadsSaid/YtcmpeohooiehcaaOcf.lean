/- ops.Check of whatever operation, as one function. No condition of the program's own. -/
import Derived.Test.YtcmpeohooiehcaaOck
import Derived.Test.YtcmpeohooiehcaaOgs
namespace Go.Proofs.Ytcmpeohooiehcaa
open Go.RowKit Go.Deep

instance (x y : Dt) : Decidable (dless x y) := by unfold dless; infer_instance
def risesB : List Dt → Bool
  | a :: b :: r => decide (dless a b) && risesB (b :: r)
  | _ => true
theorem risesB_iff : ∀ l : List Dt, risesB l = true ↔ rises l
  | [] => ⟨fun _ k x y hx _ => by simp at hx, fun _ => rfl⟩
  | [a] => ⟨fun _ k x y _ hy => by simp at hy, fun _ => rfl⟩
  | a :: b :: r => by
    rw [risesB, Bool.and_eq_true, decide_eq_true_eq, risesB_iff (b :: r), rises_cons a (b :: r)]
    simp
def kindF (kind n : Int) (key : ByteArray) (l : List Dt) : Int := if kind = 3 then (if key.size = 0 then 1 else dotsP l (risesB l)) else kindP kind n key
def gateP (d e s coll ver kind time : Int) (key text : ByteArray) (r : Int) : Int :=
  if ¬ (0 ≤ d ∧ d ≤ 5) then 1 else if ¬ (1 ≤ e ∧ e ≤ 1073741824) then 1 else if ¬ (1 ≤ s ∧ s ≤ 1073741824) then 1 else if ¬ (0 ≤ coll ∧ coll ≤ 2) then 1 else if ¬ (1 ≤ ver ∧ ver ≤ 3) then 1 else if ¬ (0 ≤ time ∧ time ≤ 1099511627776) then 1 else if ¬ (1 ≤ kind ∧ kind ≤ 5) then 3 else if ¬ (textOk key) then 5 else if ¬ (textOk text) then 5 else r
def checkF (d e s coll ver kind n time : Int) (key text : ByteArray) (l : List Dt) : Int := gateP d e s coll ver kind time key text (kindF kind n key l)

set_option maxRecDepth 100000 in
theorem knd3_no (d e s coll ver n time : Int) (key text : ByteArray) (A : Option Addr) (c : Nat) (l : List Dt) (r : Bool) (hr : r = true ↔ rises l) (h0 : key.size = 0) (w : World) (h : Has w w.heap.size A (dc l)) :
    Calls Try.prog 28 #[.agg #[.int .i64 d, .int .i64 e, .int .i64 s, .int .i64 coll, .int .i64 ver, .int .i64 3, .string key, .string text, .int .i64 n, .int .i64 time, .slice A l.length c]] w fun e' w' => e' = .returned (.int .i64 1) ∧ w.grownBy w' none := by
  have hk : (key.toList == ([] : List UInt8)) = true := str_empty key h0
  have HC : ∀ o, Hid (Calls Try.prog 45 #[.slice A l.length c] (w.alloc o) fun e w' => e = .returned (.int .i64 (dotsP l r)) ∧ (w.alloc o).grownBy w' none) := fun o =>
    cds_any A c l r hr _ ((h.only (World.grownBy_alloc w o none) (Nat.le_refl _) (fun _ h => by cases h)).more (World.grownBy_alloc w o none).size)
  clear h0 h hr
  go_enter Try.func28, Try.ntmps28
  go_wp2_with fail
  refine (HC _).out.mono ?_
  rintro _ w1 ⟨rfl, g1⟩
  have hb := g1.block w.heap.size (by show _ < (w.heap.push _).size; rw [Array.size_push]; omega) (by simp)
  rw [heap_alloc_new] at hb
  have hk6 : w1.cell? ⟨w.heap.size, 6, none⟩ = some (.string key) := by unfold World.cell?; rw [hb]; rfl
  clear hb
  go_wp2_with fail
  go_ret
  exact ⟨rfl, only_step (World.grownBy_alloc w _ none) g1 (fun _ h => by cases h)⟩
theorem knd_f (d e s coll ver kind n time : Int) (key text : ByteArray) (A : Option Addr) (c : Nat) (l : List Dt) (hk : 1 ≤ kind ∧ kind ≤ 5) (w : World) (h : Has w w.heap.size A (dc l)) :
    Calls Try.prog 28 #[.agg #[.int .i64 d, .int .i64 e, .int .i64 s, .int .i64 coll, .int .i64 ver, .int .i64 kind, .string key, .string text, .int .i64 n, .int .i64 time, .slice A l.length c]] w fun e' w' => e' = .returned (.int .i64 (kindF kind n key l)) ∧ w.grownBy w' none := by
  unfold kindF
  by_cases h3 : kind = 3
  · subst h3
    rw [if_pos rfl]
    by_cases h0 : key.size = 0
    · rw [if_pos h0]; exact knd3_no d e s coll ver n time key text A c l _ (risesB_iff l) h0 w h
    · rw [if_neg h0]; exact knd3_any d e s coll ver n time key text A c l _ (risesB_iff l) h0 w h
  · rw [if_neg h3]; exact knd_any d e s coll ver kind n time key text A l.length c hk h3 w
theorem check_f (d e s coll ver kind n time : Int) (key text : ByteArray) (A : Option Addr) (c : Nat) (l : List Dt) (w : World) (h : Has w w.heap.size A (dc l)) :
    Calls Try.prog 13 #[.agg #[.int .i64 d, .int .i64 e, .int .i64 s, .int .i64 coll, .int .i64 ver, .int .i64 kind, .string key, .string text, .int .i64 n, .int .i64 time, .slice A l.length c]] w fun e' w' => e' = .returned (.int .i64 (checkF d e s coll ver kind n time key text l)) ∧ w.grownBy w' none := by
  unfold checkF gateP
  by_cases h0 : 0 ≤ d ∧ d ≤ 5
  · rw [if_neg (fun h => h h0)]
    by_cases h1 : 1 ≤ e ∧ e ≤ 1073741824
    · rw [if_neg (fun h => h h1)]
      by_cases h2 : 1 ≤ s ∧ s ≤ 1073741824
      · rw [if_neg (fun h => h h2)]
        by_cases h3 : 0 ≤ coll ∧ coll ≤ 2
        · rw [if_neg (fun h => h h3)]
          by_cases h4 : 1 ≤ ver ∧ ver ≤ 3
          · rw [if_neg (fun h => h h4)]
            by_cases h5 : 0 ≤ time ∧ time ≤ 1099511627776
            · rw [if_neg (fun h => h h5)]
              by_cases h6 : 1 ≤ kind ∧ kind ≤ 5
              · rw [if_neg (fun h => h h6)]
                by_cases h7 : textOk key
                · rw [if_neg (fun h => h h7)]
                  by_cases h8 : textOk text
                  · rw [if_neg (fun h => h h8)]
                    exact chk_at d e s coll ver kind n time key text A l.length c w h0 h1 h2 h3 h4 h5 h6 h7 h8 _ ((knd_f d e s coll ver kind n time key text A c l h6 _ ((h.only (World.grownBy_alloc w _ none) (Nat.le_refl _) (fun _ h => by cases h)).more (World.grownBy_alloc w _ none).size)).mono fun _ _ ⟨he, hg⟩ => ⟨he, only_step (World.grownBy_alloc w _ none) hg (fun _ h => by cases h)⟩)
                  · rw [if_pos h8]; exact chk_no8 d e s coll ver kind n time key text A l.length c w h0 h1 h2 h3 h4 h5 h6 h7 h8
                · rw [if_pos h7]; exact chk_no7 d e s coll ver kind n time key text A l.length c w h0 h1 h2 h3 h4 h5 h6 h7
              · rw [if_pos h6]; exact chk_no6 d e s coll ver kind n time key text A l.length c w h0 h1 h2 h3 h4 h5 h6
            · rw [if_pos h5]; exact chk_no5 d e s coll ver kind n time key text A l.length c w h0 h1 h2 h3 h4 h5
          · rw [if_pos h4]; exact chk_no4 d e s coll ver kind n time key text A l.length c w h0 h1 h2 h3 h4
        · rw [if_pos h3]; exact chk_no3 d e s coll ver kind n time key text A l.length c w h0 h1 h2 h3
      · rw [if_pos h2]; exact chk_no2 d e s coll ver kind n time key text A l.length c w h0 h1 h2
    · rw [if_pos h1]; exact chk_no1 d e s coll ver kind n time key text A l.length c w h0 h1
  · rw [if_pos h0]; exact chk_no0 d e s coll ver kind n time key text A l.length c w h0
end Go.Proofs.Ytcmpeohooiehcaa
