/- The law's known, same, Of. No condition of the program's own. -/
import Derived.Test.YtnljccmchmclnaaRb
namespace Go.Proofs.Ytnljccmchmclnaa
open Go.RowKit Go.Deep

theorem known_any (w : World) : Calls Try.prog 8 #[] w fun e w' => e = .returned (.bool true) ∧ w.grownBy w' none := by
  have g0 := World.grownBy_alloc w (.cells #[.int .i64 0, .int .i64 3] 24) none
  have v0 : Vw (w.alloc (.cells #[.int .i64 0, .int .i64 3] 24)) (w.alloc (.cells #[.int .i64 0, .int .i64 3] 24)).heap.size (some ⟨w.heap.size, 0, none⟩) 1 [(0, 3)] :=
    ⟨.inr ⟨w.heap.size, 0, rfl, by show _ < (w.heap.push _).size; rw [Array.size_push]; omega, fun j u hu => by rw [Nat.zero_add]; exact cell_new _ _ _ j u (by rw [← hu, ← Array.getElem?_toList]; rfl)⟩, Nat.le_refl _, fun h => by cases h⟩
  have HS := Lib.hid (add_any (some ⟨w.heap.size, 0, none⟩) 1 [(0, 3)] 3 5 _ v0 (by simp) ⟨by decide, by decide, by decide⟩)
  rw [show addP [(0, 3)] 3 5 = [(0, 5)] by decide] at HS
  clear v0
  go_enter Try.func8, Try.ntmps8
  go_wp2_with fail
  refine HS.out.mono ?_
  rintro _ w1 ⟨v, rfl, ho, hg⟩
  obtain ⟨A, c, rfl⟩ := own_slice_w ho
  obtain ⟨g, rfl, _, hgs, _, hc⟩ := own_form_w ho (by simp)
  have c0 : w1.cell? ⟨g, 0, none⟩ = some (.int .i64 0) := hc 0 _ rfl
  have c1 : w1.cell? ⟨g, 1, none⟩ = some (.int .i64 5) := hc 1 _ rfl
  clear HS ho hc
  simp only [List.length_singleton]
  go_wp2_with fail
  go_ret
  exact ⟨rfl, grow2 g0 hg⟩
set_option maxRecDepth 100000 in
set_option maxHeartbeats 1000000 in
theorem same_any (A : Option Addr) (c : Nat) (l : List E2) (A' : Option Addr) (c' : Nat) (m : List E2) (w : World) (h : Has w w.heap.size A (pc l)) (h' : Has w w.heap.size A' (pc m)) (hl : l.length ≤ 1099511627776) (r : Bool) (hr : r = true ↔ l = m) :
    Calls Try.prog 16 #[.slice A l.length c, .slice A' m.length c'] w fun e' w' => e' = .returned (.bool r) ∧ w.grownBy w' none := by
  have HA := Lib.hid h
  have HB := Lib.hid h'
  have HR := Lib.hid hr
  clear h h' hr
  by_cases hn : l.length = m.length
  · have t0 : ((l.length : Int) != (m.length : Int)) = false := by simp [hn]
    have HN := Lib.hid hn
    clear hn
    go_enter Try.func16, Try.ntmps16
    go_wp2_with fail
    go_loopw [5] (fun si wr => ∃ i : Nat, i ≤ l.length ∧ si = .int .i64 i ∧ Hid (l.take i = m.take i) ∧ Hid (w.grownBy wr none)) (fun si _ => l.length - (intOf si).toNat)
    case atStart => exact ⟨0, Nat.zero_le _, rfl, rfl, only_refl _ _⟩
    case round =>
      obtain ⟨i, hi, rfl, HT, hG⟩ := hrel
      by_cases hlt : i < l.length
      · have u1 : (i : Int) < (l.length : Int) := by omega
        have hltm : i < m.length := by rw [← HN.out]; exact hlt
        have u2 : (i : Int) < (m.length : Int) := by omega
        have u0 : (0 : Int) ≤ (i : Int) := by omega
        have hes : IntKind.i64.wrap ((i : Int) + 1) = (i : Int) + 1 := by rw [IntKind.wrap_i64]; omega
        obtain ⟨x, hx⟩ : ∃ y, l[i]? = some y := ⟨_, List.getElem?_eq_getElem hlt⟩
        obtain ⟨y, hy⟩ : ∃ y, m[i]? = some y := ⟨_, List.getElem?_eq_getElem hltm⟩
        obtain ⟨b, off, e0, hb, x1, x2⟩ := HA.out.rng hx
        obtain ⟨b', off', e0', hb', y1, y2⟩ := HB.out.rng hy
        subst e0; subst e0'
        have HX := Lib.hid hx
        have HY := Lib.hid hy
        have l1 : ∀ k, (wr.drewN k).cell? ⟨b, off + i * 2, none⟩ = some (.int .i64 x.1) := fun _ => (World.cell?_of_block (hG.out.block b hb (by simp))).trans x1
        have l2 : ∀ k, (wr.drewN k).cell? ⟨b, off + i * 2 + 1, none⟩ = some (.int .i64 x.2) := fun _ => (World.cell?_of_block (hG.out.block b hb (by simp))).trans x2
        have m1 : ∀ k, (wr.drewN k).cell? ⟨b', off' + i * 2, none⟩ = some (.int .i64 y.1) := fun _ => (World.cell?_of_block (hG.out.block b' hb' (by simp))).trans y1
        have m2 : ∀ k, (wr.drewN k).cell? ⟨b', off' + i * 2 + 1, none⟩ = some (.int .i64 y.2) := fun _ => (World.cell?_of_block (hG.out.block b' hb' (by simp))).trans y2
        clear hx hy x1 x2 y1 y2
        by_cases hxy : x = y
        · subst hxy
          go_wp2_with fail
          go_quiet (fail)
          go_wp2_with fail
          refine ⟨⟨i + 1, by omega, by go_num, ?_, only_drewN hG.out _⟩, ?_⟩
          · show l.take (i + 1) = m.take (i + 1)
            rw [List.take_add_one, List.take_add_one, HT.out, HX.out, HY.out]
          · simp [intOf]; omega
        · have HR' : Hid (r = false) := Lib.hid (by
            rw [Bool.eq_false_iff]; intro h
            have := HR.out.1 h
            rw [this, HY.out] at HX
            have := HX.out
            exact hxy (Option.some.inj this).symm)
          have HXY : Hid (¬ (x.1 = y.1 ∧ x.2 = y.2)) := Lib.hid (fun h => hxy (Prod.ext h.1 h.2))
          clear hxy HR HX HY
          rcases (show (x.1 == y.1) = false ∨ (x.1 == y.1) = true ∧ (x.2 == y.2) = false by
            have := HXY.out
            simp only [beq_eq_false_iff_ne, beq_iff_eq]; omega) with t1 | ⟨t1, t2⟩
          · go_wp2_with fail
            go_quiet (fail)
            go_wp2_with fail
            go_ret
            exact ⟨by rw [HR'.out]; rfl, only_drewN hG.out _⟩
          · go_wp2_with fail
            go_quiet (fail)
            go_wp2_with fail
            go_ret
            exact ⟨by rw [HR'.out]; rfl, only_drewN hG.out _⟩
      · have u1 : ¬ (i : Int) < (l.length : Int) := by omega
        have HR' : Hid (r = true) := Lib.hid (HR.out.2 (by
          have h1 := HT.out
          rwa [List.take_of_length_le (by omega), List.take_of_length_le (by have := HN.out; omega)] at h1))
        go_wp2_with fail
        go_ret
        exact ⟨by rw [HR'.out]; rfl, hG.out⟩
  · have t0 : ((l.length : Int) != (m.length : Int)) = true := by simp; omega
    have HR' : Hid (r = false) := Lib.hid (by
      rw [Bool.eq_false_iff]; intro h
      exact hn (by rw [HR.out.1 h]))
    clear hn HR
    go_enter Try.func16, Try.ntmps16
    go_wp2_with fail
    go_ret
    exact ⟨by rw [HR'.out]; rfl, only_refl _ _⟩


def is_ (l : List Int) : List Value := l.map (Value.int .i64)
structure Ok11 (l : List E2) : Prop where
  rw_ : RW l
  low : ∀ n, mem l n → n < 65
  len : l.length ≤ 20
theorem ok11_nil : Ok11 [] := ⟨RW.nil, fun n h => ((mem_nil n).1 h).elim, by simp⟩
theorem ok11_step {l : List E2} (h : Ok11 l) {f t : Int} (hf : 0 ≤ f) (hft : f < t) (ht : t ≤ 65) {i : Nat} (hi : i < 20) (hl : l.length ≤ i) : Ok11 (addP l f t) ∧ (addP l f t).length ≤ i + 1 := by
  have hr : okR (f, t) := ⟨hf, hft, by show t ≤ _; omega⟩
  obtain ⟨a, b⟩ := add_ok l f t h.rw_ hr
  have c := add_len l f t
  refine ⟨⟨a, fun n hn => ?_, by omega⟩, by omega⟩
  rcases (b n).1 hn with k | k
  · exact h.low n k
  · omega
def GotOf (w : World) (e : Ending) (w' : World) : Prop := ∃ v l, e = .returned v ∧ w'.ownsRow w.heap.size 24 2 v l.length (pc l) ∧ Ok11 l ∧ w.grownBy w' none
set_option maxRecDepth 100000 in
set_option maxHeartbeats 4000000 in
theorem of_any (A : Option Addr) (c : Nat) (ns : List Int) (w : World) (h : Has w w.heap.size A (is_ ns)) (hb : ∀ n ∈ ns, -9223372036854775808 ≤ n ∧ n ≤ 9223372036854775807) :
    Calls Try.prog 9 #[.slice A ns.length c] w (GotOf w) := by
  have HA := Lib.hid h
  have HB := Lib.hid hb
  clear h hb
  go_enter Try.func9, Try.ntmps9
  go_wp2_with fail
  go_loopw [3, 4] (fun s3 si wr => ∃ (i : Nat) (l : List E2) (v : Value), i ≤ ns.length ∧ i ≤ 20 ∧ si = .int .i64 i ∧ v = s3 ∧ Hid (wr.ownsRow w.heap.size 24 2 v l.length (pc l)) ∧ Hid (Ok11 l ∧ l.length ≤ i) ∧ Hid (w.grownBy wr none))
    (fun _ si _ => ns.length - (intOf si).toNat)
  case atStart => exact ⟨0, [], .slice none 0 0, Nat.zero_le _, Nat.zero_le _, rfl, rfl, World.ownsRow_nil _ _ _ 2, ⟨ok11_nil, by simp⟩, only_refl _ _⟩
  case round =>
    obtain ⟨i, l, v, hi, hi2, rfl, rfl, HV, HO, hG⟩ := hrel
    by_cases hlt : i < ns.length
    · have u1 : (i : Int) < (ns.length : Int) := by omega
      have u0 : (0 : Int) ≤ (i : Int) := by omega
      by_cases h12 : i < 20
      · have u2 : (i : Int) < 20 := by omega
        have hes : IntKind.i64.wrap ((i : Int) + 1) = (i : Int) + 1 := by rw [IntKind.wrap_i64]; omega
        obtain ⟨n, hn⟩ : ∃ n, ns[i]? = some n := ⟨_, List.getElem?_eq_getElem hlt⟩
        have hnb := HB.out n (List.mem_of_getElem? hn)
        obtain ⟨b, off, rfl, hb, hc⟩ : ∃ b off, A = some ⟨b, off, none⟩ ∧ b < w.heap.size ∧ w.cell? ⟨b, off + i, none⟩ = some (.int .i64 n) := by
          rcases HA.out with h0 | ⟨b, off, hA, hb, hc⟩
          · have := congrArg List.length h0; simp [is_] at this; rw [this] at hlt; simp at hlt
          · exact ⟨b, off, hA, hb, hc i _ (by simp [is_, hn])⟩
        have hcr : wr.cell? ⟨b, off + i, none⟩ = some (.int .i64 n) := (World.cell?_of_block (hG.out.block b hb (by simp))).trans hc
        obtain ⟨p2, hp2⟩ : ∃ p, p = n.tdiv 60 := ⟨_, rfl⟩
        have q2 := tdiv_in n 60 (by omega) hnb.1 hnb.2
        have z2 : IntKind.i64.wrap (n.tdiv 60) = p2 := by rw [IntKind.wrap_i64]; omega
        rw [← hp2] at q2
        obtain ⟨f, hf⟩ : ∃ f, f = n % 60 := ⟨_, rfl⟩
        obtain ⟨r, hr⟩ : ∃ r, r = p2 % 6 := ⟨_, rfl⟩
        have N0 : ∀ W, Hid (Calls Try.prog 10 #[.int .i64 n, .int .i64 60] W fun e w' => e = .returned (.int .i64 f) ∧ W = w') := fun W => by rw [hf]; exact within_any n 60 hnb.1 hnb.2 (by omega) (by omega) W
        have N1 : ∀ W, Hid (Calls Try.prog 10 #[.int .i64 p2, .int .i64 6] W fun e w' => e = .returned (.int .i64 r) ∧ W = w') := fun W => by rw [hr]; exact within_any p2 6 q2.1 q2.2 (by omega) (by omega) W
        have f0 : 0 ≤ f ∧ f ≤ 59 := by omega
        have r0 : 0 ≤ r ∧ r ≤ 5 := by omega
        obtain ⟨OK, hlen⟩ := HO.out
        obtain ⟨Av, cv, rfl⟩ := own_slice_w HV.out
        have HST := Lib.hid (radd_any Av cv l f (f + 1 + r) wr (Vw.own HV.out).1 (by have := OK.len; omega) ⟨f0.1, by show f < f + 1 + r; omega, by show f + 1 + r ≤ _; omega⟩ OK.rw_)
        have HO3 := Lib.hid (ok11_step OK f0.1 (show f < f + 1 + r by omega) (by omega) h12 hlen)
        have y1 : IntKind.i64.wrap (f + 1) = f + 1 := by rw [IntKind.wrap_i64]; omega
        have y2 : IntKind.i64.wrap (f + 1 + r) = f + 1 + r := by rw [IntKind.wrap_i64]; omega
        clear hc hp2 q2 hf hr hn OK
        go_wp2_with fail
        refine (N0 _).out.mono ?_
        rintro _ _ ⟨rfl, rfl⟩
        go_wp2_with fail
        refine (N1 _).out.mono ?_
        rintro _ _ ⟨rfl, rfl⟩
        go_wp2_with fail
        refine HST.out.mono ?_
        rintro _ w2 ⟨v2, rfl, ho, g2⟩
        have HO2 := Lib.hid (own_less ho hG.out.size)
        have gw : Hid (w.grownBy w2 none) := grow2 hG.out g2
        clear ho g2
        go_wp2_with fail
        refine ⟨⟨i + 1, _, v2, by omega, by omega, by go_num, rfl, HO2, HO3, gw⟩, ?_⟩
        simp [intOf]; omega
      · have u2 : ¬ (i : Int) < 20 := by omega
        go_wp2_with fail
        go_ret
        exact ⟨_, l, rfl, HV.out, HO.out.1, hG.out⟩
    · have u1 : ¬ (i : Int) < (ns.length : Int) := by omega
      go_wp2_with fail
      go_ret
      exact ⟨_, l, rfl, HV.out, HO.out.1, hG.out⟩
end Go.Proofs.Ytnljccmchmclnaa
