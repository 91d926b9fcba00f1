/- The reference's Row. No condition of the program's own. -/
import Derived.Test.YtnljccmchmclnaaRz
namespace Go.Proofs.Ytnljccmchmclnaa
open Go.RowKit Go.Deep

set_option maxRecDepth 100000 in
set_option maxHeartbeats 2000000 in
theorem row_any (A : Option Addr) (c : Nat) (l : List E2) (w : World) (h : Vw w w.heap.size A c l) (hl : l.length ≤ 1000000) (hw : RW l) :
    Calls Try.prog 17 #[.slice A l.length c] w fun e w' => e = .returned (.bool true) ∧ w.grownBy w' none := by
  have HA := Lib.hid h
  have HW := Lib.hid hw
  clear h hw
  go_enter Try.func17, Try.ntmps17
  go_wp2_with fail
  go_loopw [3] (fun si wr => ∃ i : Nat, i ≤ l.length ∧ si = .int .i64 i ∧ Hid (w.grownBy wr none)) (fun si _ => l.length - (intOf si).toNat)
  case atStart => exact ⟨0, Nat.zero_le _, rfl, only_refl _ _⟩
  case round =>
    obtain ⟨i, hi, rfl, hG⟩ := hrel
    by_cases hlt : i < l.length
    · have u1 : (i : Int) < (l.length : Int) := by omega
      have u0 : (0 : Int) ≤ (i : Int) := by omega
      have hes : IntKind.i64.wrap ((i : Int) + 1) = (i : Int) + 1 := by rw [IntKind.wrap_i64]; omega
      obtain ⟨r, hr⟩ : ∃ r, l[i]? = some r := ⟨_, List.getElem?_eq_getElem hlt⟩
      obtain ⟨b, off, e0, hb, r1, r2⟩ := (HA.out.up hG.out).has.rng hr
      have okr := HW.out.ok r (List.mem_of_getElem? hr)
      unfold okR at okr
      have v1 : decide (r.1 < 0) = false := decide_eq_false (by omega)
      have v2 : decide (r.2 ≤ r.1) = false := decide_eq_false (by omega)
      have v3 : decide ((1073741824 : Int) < r.2) = false := decide_eq_false (by omega)
      have q1 : ∀ n, (wr.drewN n).cell? ⟨b, off + i * 2, none⟩ = some (.int .i64 r.1) := fun _ => r1
      have q2 : ∀ n, (wr.drewN n).cell? ⟨b, off + i * 2 + 1, none⟩ = some (.int .i64 r.2) := fun _ => r2
      by_cases hi0 : 0 < i
      · obtain ⟨p, hp⟩ : ∃ p : Nat, p + 1 = i := ⟨i - 1, by omega⟩
        obtain ⟨z, hz⟩ : ∃ z, l[p]? = some z := ⟨_, List.getElem?_eq_getElem (by omega)⟩
        obtain ⟨bz, offz, ez, _, z1, z2⟩ := (HA.out.up hG.out).has.rng hz
        obtain ⟨rfl, rfl⟩ : b = bz ∧ off = offz := by rw [e0] at ez; injection ez with e; injection e with e1 e2; exact ⟨e1, e2⟩
        have q3 : ∀ n, (wr.drewN n).cell? ⟨b, off + p * 2 + 1, none⟩ = some (.int .i64 z.2) := fun _ => z2
        have v4 : decide (r.1 ≤ z.2) = false := decide_eq_false <| by
          have := List.pairwise_iff_getElem.1 HW.out.far p i (by omega) hlt (by omega)
          rw [(List.getElem?_eq_some_iff.1 hz).2, (List.getElem?_eq_some_iff.1 hr).2] at this
          omega
        have v5 : IntKind.i64.wrap ((i : Int) - 1) = (p : Int) := by rw [IntKind.wrap_i64]; omega
        have v6 : (p : Int) < (l.length : Int) := by omega
        have v7 : (0 : Int) ≤ (p : Int) := by omega
        have v8 : (0 : Int) < (i : Int) := by omega
        subst e0
        clear hr hz z1 z2 r1 r2 hp ez
        go_wp2_with fail
        go_quiet (fail)
        go_wp2_with fail
        refine ⟨⟨i + 1, by omega, by go_num, only_drewN hG.out _⟩, ?_⟩
        simp [intOf]; omega
      · have v8 : ¬ (0 : Int) < (i : Int) := by omega
        subst e0
        clear hr r1 r2
        go_wp2_with fail
        go_quiet (fail)
        go_wp2_with fail
        refine ⟨⟨i + 1, by omega, by go_num, only_drewN hG.out _⟩, ?_⟩
        simp [intOf]; omega
    · have u1 : ¬ (i : Int) < (l.length : Int) := by omega
      go_wp2_with fail
      go_ret
      exact ⟨rfl, hG.out⟩
theorem row_lv {w : World} {A : Option Addr} {c : Nat} {l : List E2} (h : Lv w A c l) (hl : l.length ≤ 1000000) (hw : RW l) {V : World} (g : w.grownBy V none) :
    Calls Try.prog 17 #[.slice A l.length c] V fun e w' => e = .returned (.bool true) ∧ w.grownBy w' none :=
  (row_any A c l V (h V g) hl hw).mono fun _ _ h => ⟨h.1, grow2 g h.2⟩
end Go.Proofs.Ytnljccmchmclnaa
