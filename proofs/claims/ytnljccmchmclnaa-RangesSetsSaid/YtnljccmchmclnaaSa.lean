/- The reference's Row; Has; Less of a number that is not there. No condition of the program's own. -/
import Derived.Test.YtnljccmchmclnaaRz
namespace Go.Proofs.Ytnljccmchmclnaa
open Go.RowKit Go.Deep

theorem has_any (A : Option Addr) (c : Nat) (l : List E2) (n : Int) (w : World) (h : Vw w w.heap.size A c l) (hl : l.length ≤ 1000000) (hw : RW l) (b : Bool) (hb : b = true ↔ mem l n) :
    Calls Try.prog 14 #[.slice A l.length c, .int .i64 n] w fun e w' => e = .returned (.bool b) ∧ w.grownBy w' none := by
  by_cases hm : mem l n
  · obtain ⟨k, r, hk, hr, _⟩ := at_of l n hw hm
    have F := Lib.hid (find_hit A c l n k w h hl hk (List.getElem?_eq_some_iff.1 hr).1)
    obtain rfl := hb.2 hm
    clear h hw hb hm hk hr
    go_enter Try.func14, Try.ntmps14
    go_wp2_with fail
    refine F.out.mono ?_
    rintro _ w1 ⟨rfl, g1⟩
    have G1 := Lib.hid g1
    clear F g1
    go_wp2_with fail
    go_ret
    exact ⟨rfl, G1.out⟩
  · have F := Lib.hid (find_miss A c l n w h hl (at_none l n hm))
    have hf : b = false := by
      cases b with
      | false => rfl
      | true => exact absurd (hb.1 rfl) hm
    subst hf
    clear h hw hb hm
    go_enter Try.func14, Try.ntmps14
    go_wp2_with fail
    refine F.out.mono ?_
    rintro _ w1 ⟨rfl, g1⟩
    have G1 := Lib.hid g1
    clear F g1
    go_wp2_with fail
    go_ret
    exact ⟨rfl, G1.out⟩
theorem has_lv {w : World} {A : Option Addr} {c : Nat} {l : List E2} (h : Lv w A c l) (hl : l.length ≤ 1000000) (hw : RW l) (n : Int) (b : Bool) (hb : b = true ↔ mem l n) {V : World} (g : w.grownBy V none) :
    Calls Try.prog 14 #[.slice A l.length c, .int .i64 n] V fun e w' => e = .returned (.bool b) ∧ w.grownBy w' none :=
  (has_any A c l n V (h V g) hl hw b hb).mono fun _ _ h => ⟨h.1, grow2 g h.2⟩
theorem less_miss (A : Option Addr) (c : Nat) (l : List E2) (n : Int) (w : World) (h : Vw w w.heap.size A c l) (hl : l.length ≤ 1000000) (hm : ¬ mem l n) :
    Calls Try.prog 15 #[.slice A l.length c, .int .i64 n] w fun e w' => e = .returned (.tuple #[.slice none 0 0, .bool false]) ∧ w.grownBy w' none := by
  have F := Lib.hid (find_miss A c l n w h hl (at_none l n hm))
  clear h hm
  go_enter Try.func15, Try.ntmps15
  go_wp2_with fail
  refine F.out.mono ?_
  rintro _ w1 ⟨rfl, g1⟩
  have G1 := Lib.hid g1
  clear F g1
  go_wp2_with fail
  go_ret2
  exact ⟨rfl, G1.out⟩
theorem lessm_lv {w : World} {A : Option Addr} {c : Nat} {l : List E2} (h : Lv w A c l) (hl : l.length ≤ 1000000) (n : Int) (hm : ¬ mem l n) {V : World} (g : w.grownBy V none) :
    Calls Try.prog 15 #[.slice A l.length c, .int .i64 n] V fun e w' => e = .returned (.tuple #[.slice none 0 0, .bool false]) ∧ V.grownBy w' none := less_miss A c l n V (h V g) hl hm
theorem lessh_lv {w : World} {A : Option Addr} {c : Nat} {R : List E2} (h : Lv w A c R) (hl : R.length ≤ 1000000) (hw : RW R) (n : Int) (hm : mem R n) : ∃ L, LessOk R L n ∧ ∀ V, w.grownBy V none →
    Calls Try.prog 15 #[.slice A R.length c, .int .i64 n] V fun e w' => ∃ A' c', e = .returned (.tuple #[.slice A' L.length c', .bool true]) ∧ Lv w' A' c' L ∧ V.grownBy w' none := by
  obtain ⟨k, r, hk, hr, ok, h1, h2⟩ := at_of R n hw hm
  exact ⟨lessP R k n r, less_ok R k n r hw hr h1 h2, fun V g => less_hit A c R n k r V (h V g) hl hk hr ok⟩
end Go.Proofs.Ytnljccmchmclnaa
