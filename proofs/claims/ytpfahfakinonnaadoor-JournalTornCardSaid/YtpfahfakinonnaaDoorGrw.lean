/- The law's rows, of two rows that are the same. No condition of the program's own. -/
import Derived.Test.YtpfahfakinonnaaDoorGrr
import Derived.Deep.RegionHeld3
namespace Go.Proofs.YtpfahfakinonnaaDoor
open Go.RowKit Go.ChangeShapes Go.Deep
set_option maxRecDepth 100000 in
theorem rows_same (A B : Option Addr) (ca cb : Nat) (L : List (List Int)) (w : World) (hA : RR w A L) (hB : RR w B L) (hl : L.length ≤ 1099511627776) :
    Calls Tryd.prog 22 #[.slice A L.length ca, .slice B L.length cb] w fun e w' => e = .returned (.bool true) ∧ w.grownBy w' none := by
  have HA := Lib.hid hA
  have HB := Lib.hid hB
  clear hA hB
  go_enter Tryd.func22, Tryd.ntmps22
  go_wp2_with fail
  go_loopw [5] (fun si wr => ∃ i : Nat, i ≤ L.length ∧ si = .int .i64 i ∧ Hid (w.grownBy wr none)) (fun si _ => L.length - (intOf si).toNat)
  case atStart => exact ⟨0, Nat.zero_le _, rfl, only_refl _ _⟩
  case round =>
    obtain ⟨i, hi, rfl, hG⟩ := hrel
    by_cases hlt : i < L.length
    · have v1 : (i : Int) < (L.length : Int) := by omega
      have v0 : (0 : Int) ≤ (i : Int) := by omega
      have vs : IntKind.i64.wrap ((i : Int) + 1) = (i : Int) + 1 := by rw [IntKind.wrap_i64]; omega
      obtain ⟨x, hx⟩ : ∃ x, L[i]? = some x := ⟨_, List.getElem?_eq_getElem hlt⟩
      obtain ⟨b, off, Ax, cx, rfl, hb, hc, hh⟩ := HA.out i x hx
      obtain ⟨b', off', Bx, dx, rfl, hb', hc', hh'⟩ := HB.out i x hx
      obtain ⟨t, ht⟩ : ∃ t, t = strOfNums x := ⟨_, rfl⟩
      have G2 : w.grownBy wr.drew none := only_drew hG.out
      have SD : Hid (wr.drew.cell? ⟨b, off + i, none⟩ = some (.slice Ax x.length cx) ∧ wr.drew.cell? ⟨b', off' + i, none⟩ = some (.slice Bx x.length dx) ∧ (convert 33 9 (.slice Ax x.length cx)).run Tryd.prog wr.drew = .ok (.string t) wr.drew ∧ (convert 33 9 (.slice Bx x.length dx)).run Tryd.prog wr.drew = .ok (.string t) wr.drew) := by
        refine ⟨(World.cell?_of_block (G2.block b hb (by simp))).trans hc, (World.cell?_of_block (G2.block b' hb' (by simp))).trans hc', ?_, ?_⟩
        · rw [ht]; exact conv_string (hh.only G2 (Nat.le_refl _) (fun _ h => by cases h)) cx
        · rw [ht]; exact conv_string (hh'.only G2 (Nat.le_refl _) (fun _ h => by cases h)) dx
      have GD := Lib.hid G2
      clear hx hc hh hc' hh' ht G2
      go_wp2_with fail
      go_region_held3 (fun V => V.cell? ⟨b, off + i, none⟩ = some (.slice Ax x.length cx) ∧ V.cell? ⟨b', off' + i, none⟩ = some (.slice Bx x.length dx) ∧ (convert 33 9 (.slice Ax x.length cx)).run Tryd.prog V = .ok (.string t) V ∧ (convert 33 9 (.slice Bx x.length dx)).run Tryd.prog V = .ok (.string t) V) (first | exact SD.out) ((first | fail))
      go_wp2_with fail
      exact ⟨⟨i + 1, by omega, by go_num, GD⟩, by simp [intOf]; omega⟩
    · have v1 : ¬ (i : Int) < (L.length : Int) := by omega
      go_wp2_with fail
      go_ret
      exact ⟨rfl, hG.out⟩

end Go.Proofs.YtpfahfakinonnaaDoor
