import Derived.Test.YtjdpnidenjeigaaDoorFsl
/-! FramesScan whole: out of its reach it answers true; in it the core walk. My own. -/
set_option linter.unusedVariables false
set_option linter.unusedSimpArgs false
namespace Go.Proofs.YtjdpnidenjeigaaDoor

theorem framesScan_walk (A R P Q : Option Addr) (ca cr cp cq : Nat) (L : List (List Int)) (m at' by' : List Int) (cut : Int) (w : World) (hA : RR w A L) (hR : Has w w.heap.size R (bs m)) (hP : Has w w.heap.size P (is_ at')) (hQ : Has w w.heap.size Q (bs by'))
    (hb : ∀ l ∈ L, ∀ x ∈ l, 0 ≤ x ∧ x ≤ 255) (bm : ∀ x ∈ m, 0 ≤ x ∧ x ≤ 255) (ba : ∀ x ∈ at', -9223372036854775808 ≤ x ∧ x ≤ 9223372036854775807) (bb : ∀ x ∈ by', 0 ≤ x ∧ x ≤ 255)
    (hmax : L.length ≤ maxLen) (hcr : m.length ≤ cr) (e1 : -9223372036854775808 ≤ cut) (e2 : cut ≤ 9223372036854775807) (hT : Tab w) :
    Calls Tryd.prog 4 #[.slice A L.length ca, .slice R m.length cr, .slice P at'.length cp, .slice Q by'.length cq, .int .i64 cut] w fun e w' => e = .returned (.bool true) ∧ w.grownBy w' none := by
  by_cases hf : (∀ x ∈ L, x.length ≤ 300) ∧ L.length ≤ 10
  · by_cases hm : m.length ≤ 500
    · exact scan_law A R P Q ca cr cp cq L m at' by' cut w hA hR hP hQ hb bm ba bb hf.1 hf.2 hm hcr e1 e2 hT
    · have t3 : (500 : Int) < (m.length : Int) := by omega
      have HT := Lib.hid hT
      have HA := Lib.hid hA
      have HF := Lib.hid hf
      have HM := Lib.hid hmax
      clear hA hR hP hQ hb bm ba bb hT hf hmax hm
      go_enter Tryd.func4, Tryd.ntmps4
      go_wp2_with fail
      refine (known_any w HT.out).mono ?_
      rintro _ w1 ⟨rfl, g1⟩
      have G1 := Lib.hid g1
      clear g1
      go_wp2_with fail
      refine (few_is A ca L true (iff_yes' HF.out) w1 (HA.out.grow G1.out) HM.out).mono ?_
      rintro _ w2 ⟨rfl, rfl⟩
      go_wp2_with fail
      go_ret
      exact ⟨rfl, G1.out⟩
  · have HT := Lib.hid hT
    have HA := Lib.hid hA
    have HF := Lib.hid hf
    have HM := Lib.hid hmax
    clear hA hR hP hQ hb bm ba bb hT hf hmax
    go_enter Tryd.func4, Tryd.ntmps4
    go_wp2_with fail
    refine (known_any w HT.out).mono ?_
    rintro _ w1 ⟨rfl, g1⟩
    have G1 := Lib.hid g1
    clear g1
    go_wp2_with fail
    refine (few_is A ca L false ⟨fun e => (by cases e), fun e => absurd e HF.out⟩ w1 (HA.out.grow G1.out) HM.out).mono ?_
    rintro _ w2 ⟨rfl, rfl⟩
    go_wp2_with fail
    go_ret
    exact ⟨rfl, G1.out⟩
end Go.Proofs.YtjdpnidenjeigaaDoor
