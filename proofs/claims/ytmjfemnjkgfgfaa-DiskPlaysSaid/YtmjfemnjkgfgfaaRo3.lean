/- The reference's disk: Crash, New. Conditions: its numbers stay below 2^40. -/
import Derived.Test.YtmjfemnjkgfgfaaRn3
namespace Go.Proofs.Ytmjfemnjkgfgfaa
open Go.RowKit Go.Deep
set_option maxRecDepth 100000 in
theorem rnew_any (F : Nat → Prop) (room : Int) (w : World) (h1 : 1 ≤ room) (h2 : room ≤ 16777216) :
    Calls Try.prog 11 #[.int .i64 room] w fun e w' => e = .returned (.tuple #[.pointer (some ⟨w.heap.size, 0, none⟩), .int .i64 0]) ∧ Rk w' F w.heap.size (newS room) ∧ w.grownBy w' none := by
  have t1 : ¬ room < 1 := by omega
  have t2 : ¬ (16777216 : Int) < room := by omega
  go_enter Try.func11, Try.ntmps11
  go_wp2_with fail
  go_ret2
  refine ⟨rfl, ⟨false, .slice none 0 0, .slice none 0 0, ⟨?_, Rv.nil _ _ _, Rv.nil _ _ _⟩, fun h => ?_⟩, World.grownBy_alloc _ _ none⟩
  · exact heap_alloc_new _ _
  · exact absurd h (by unfold leftOf newS; dsimp only; rw [if_neg (by omega)]; omega)
set_option maxRecDepth 100000 in
set_option maxHeartbeats 2000000 in
theorem rcrash_any (F : Nat → Prop) (g : Nat) (d : DS) (p : Int) (w : World) (h : Rk w F g d) (hk : Ok d) (_ : -9223372036854775808 ≤ p) (_ : p ≤ 9223372036854775807) :
    Calls Try.prog 20 #[.pointer (some ⟨g, 0, none⟩), .int .i64 p] w fun e w' => e = .returned (.int .i64 (crashK d p)) ∧ Rk w' F g (crashS d p) ∧ w.grownBy w' (some g) := by
  obtain ⟨ev, vL, vS, hV, he⟩ := h
  obtain ⟨c0, c1, c2, c3, c4, c5, c6, c7⟩ := hV.cells
  obtain ⟨AL, cL, eL, _⟩ := hV.2.1
  rw [eL] at c1
  have hRL : Rv w F g (.slice AL d.L.length cL) d.L := by have := hV.2.1; rwa [eL] at this
  have hcap := hRL.has.2.2
  have kl := hk.l
  have ks := hk.sy
  obtain ⟨cc, hcc⟩ : ∃ cc : Int, cc = (d.L.length : Int) - d.sy + 1 := ⟨_, rfl⟩
  have hcp : 0 < cc := by omega
  obtain ⟨t, ht, ht1, ht2, ht3, ht4⟩ := crash_mod p cc hcp
  have hK : crashK d p = p % cc := by unfold crashK; rw [← hcc]
  have hk1 := Int.emod_nonneg p (show cc ≠ 0 by omega)
  have hk2 := Int.emod_lt_of_pos p hcp
  obtain ⟨kk, hkk⟩ : ∃ kk, kk = p % cc := ⟨_, rfl⟩
  rw [← hkk] at hK hk1 hk2 ht3
  obtain ⟨m, hm⟩ : ∃ m : Nat, d.sy + kk = (m : Int) := ⟨(d.sy + kk).toNat, by omega⟩
  have hml : m ≤ d.L.length := by omega
  have hS : crashS d p = { d with L := d.L.take m, sy := m, dd := false, st := 0, sn := 0 } := by
    unfold crashS; rw [hK, hm, Int.toNat_natCast]
  rw [hK, hS]
  have w1 : IntKind.i64.wrap ((d.L.length : Int) - d.sy) = (d.L.length : Int) - d.sy := by rw [IntKind.wrap_i64]; omega
  have w2 : IntKind.i64.wrap ((d.L.length : Int) - d.sy + 1) = cc := by rw [IntKind.wrap_i64]; omega
  have w5 : IntKind.i64.wrap (d.sy + kk) = (m : Int) := by rw [IntKind.wrap_i64]; omega
  have hcz : ¬ cc = 0 := by omega
  have hczb : (cc == 0) = false := by rw [beq_eq_false_iff_ne]; exact hcz
  have hcm : ¬ cc = -1 := by omega
  have f1 := hV.fr 1
  have f2 := hV.fr 2
  have f4 := hV.fr 4
  have f6 := hV.fr 6
  have HV := Lib.hid hV
  have HR := Lib.hid (hRL.front m hml)
  have m0 : (0 : Int) ≤ (m : Int) := by omega
  have m1 : (m : Int) ≤ (cL : Int) := by omega
  have fin : ∀ n, Hid (Rk (((((w.drewN n).setCell ⟨g, 1, none⟩ (.slice AL m cL)).setCell ⟨g, 2, none⟩ (.int .i64 m)).setCell ⟨g, 6, none⟩ (.bool false)).setCell ⟨g, 4, none⟩ (.int .i64 0)) F g { d with L := d.L.take m, sy := m, dd := false, st := 0, sn := 0 } ∧ w.grownBy (((((w.drewN n).setCell ⟨g, 1, none⟩ (.slice AL m cL)).setCell ⟨g, 2, none⟩ (.int .i64 m)).setCell ⟨g, 6, none⟩ (.bool false)).setCell ⟨g, 4, none⟩ (.int .i64 0)) (some g)) := fun n => by
    have gg : w.grownBy (((((w.drewN n).setCell ⟨g, 1, none⟩ (.slice AL m cL)).setCell ⟨g, 2, none⟩ (.int .i64 m)).setCell ⟨g, 6, none⟩ (.bool false)).setCell ⟨g, 4, none⟩ (.int .i64 0)) (some g) := only_set (p := ⟨g, 4, none⟩) (only_set (p := ⟨g, 6, none⟩) (only_set (p := ⟨g, 2, none⟩) (only_set (p := ⟨g, 1, none⟩) (only_drewN (only_refl w (some g)) n) (.inl rfl) _) (.inl rfl) _) (.inl rfl) _) (.inl rfl) _
    refine ⟨⟨ev, .slice AL m cL, vS, HV.out.to gg ?_ (.inr ?_) (.inl ⟨rfl, rfl⟩), fun h => ?_⟩, gg⟩
    · have hh : (w.drewN n).heap[g]? = some (.cells #[.int .i64 d.rm, vL, .int .i64 d.sy, vS, .int .i64 (leftOf d), .bool ev, .bool d.dd, .int .i64 d.op] 44 (0, 0)) := HV.out.1
      rw [heap_set (heap_set (heap_set (heap_set hh))), show leftOf { d with L := d.L.take m, sy := (m : Int), dd := false, st := 0, sn := 0 } = 0 by unfold leftOf; dsimp only; rw [if_neg (by omega)]]
      rfl
    · exact HR.out.keep gg.size (fun k hk hne _ => gg.block k hk (fun e => by injection e with e; exact hne e))
    · exact absurd h (by unfold leftOf; dsimp only; rw [if_neg (by omega)]; omega)
  by_cases hneg : t < 0
  · have hkt : t + cc = kk := by
      have h3 : (t + cc) % cc = kk := ht3
      rw [Int.emod_eq_of_lt ht4 (by omega)] at h3
      exact h3
    have w3 : IntKind.i64.wrap (t + cc) = kk := by rw [IntKind.wrap_i64]; omega
    clear hkt
    clear hV he hk hK hS hkk hcc ht3 eL hRL
    go_enter Try.func20, Try.ntmps20
    go_wp2_with fail
    go_quiet (fail)
    go_wp2_with fail
    have cd1 : (w.drewN nq).drew.cell? ⟨g, 1, none⟩ = some (.slice AL d.L.length cL) := c1
    have cd2 : (w.drewN nq).drew.cell? ⟨g, 2, none⟩ = some (.int .i64 d.sy) := c2
    have fd1 : (w.drewN nq).drew.frozen? ⟨g, 1, none⟩ = false := f1
    go_region
    go_wp2_with fail
    go_ret
    exact ⟨rfl, (fin _).out.1, (fin _).out.2⟩
  · obtain rfl : t = kk := by
      have h3 : (t + cc) % cc = kk := ht3
      rw [Int.add_emod_right, Int.emod_eq_of_lt (by omega) ht2] at h3
      exact h3
    clear hV he hk hK hS hkk hcc ht3 eL hRL
    go_enter Try.func20, Try.ntmps20
    go_wp2_with fail
    go_quiet (fail)
    go_wp2_with fail
    have cd1 : (w.drewN nq).drew.cell? ⟨g, 1, none⟩ = some (.slice AL d.L.length cL) := c1
    have cd2 : (w.drewN nq).drew.cell? ⟨g, 2, none⟩ = some (.int .i64 d.sy) := c2
    have fd1 : (w.drewN nq).drew.frozen? ⟨g, 1, none⟩ = false := f1
    go_region
    go_wp2_with fail
    go_ret
    exact ⟨rfl, (fin _).out.1, (fin _).out.2⟩
end Go.Proofs.Ytmjfemnjkgfgfaa
