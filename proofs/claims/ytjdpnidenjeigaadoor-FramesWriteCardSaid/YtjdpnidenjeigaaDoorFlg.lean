/- The reference's Frame; the law's few, log, rows. No condition of the program's own. -/
import Derived.Test.YtjdpnidenjeigaaDoorFrc
import Derived.Test.YtjdpnidenjeigaaDoorCam
namespace Go.Proofs.YtjdpnidenjeigaaDoor
open Go.RowKit Go.ChangeShapes

set_option maxRecDepth 100000 in
theorem rframe_any (A : Option Addr) (c : Nat) (l : List Int) (w : World) (h : Has w w.heap.size A (bs l)) (hb : ∀ x ∈ l, 0 ≤ x ∧ x ≤ 255) (hl : l.length ≤ 4194304) :
    Calls Tryd.prog 11 #[.slice A l.length c] w fun e w' => ∃ v, e = .returned (.tuple #[v, .int .i64 0]) ∧ w'.ownsRow w.heap.size 5 1 v (bs (frP l)).length (bs (frP l)) ∧ w.grownBy w' none := by
  have t0 : ¬ (4194304 : Int) < (l.length : Int) := by omega
  have hw : IntKind.u32.wrap (l.length : Int) = (l.length : Int) := by have := IntKind.wrap_u32 (l.length : Int); rw [this]; omega
  have HA := Lib.hid h
  have C1 := Lib.hid (rcrc_any A c l w h hb (by unfold maxLen; omega))
  have A1 := Lib.hid (four_any w.heap.size (.slice none 0 0) [] l.length w (World.ownsRow_nil w _ _ 1) (by simp) (Nat.le_refl _))
  clear h hb
  go_enter Tryd.func11, Tryd.ntmps11
  go_wp2_with fail
  refine C1.out.mono ?_
  rintro _ w1 ⟨rfl, rfl⟩
  go_wp2_with fail
  refine A1.out.mono ?_
  rintro _ w1 ⟨v1, rfl, g1⟩
  rw [List.nil_append] at g1
  have gn1 := Lib.hid (g1.none rfl)
  obtain ⟨B1, c1, rfl⟩ := own_slice g1.own
  have O1 := Lib.hid g1.own
  clear A1 g1 C1
  go_wp2_with fail
  refine (four_any w.heap.size (.slice B1 (bs (w4 l.length)).length c1) (w4 l.length) (crcP l) w1 O1.out (by rw [w4_len]; omega) gn1.out.size).mono ?_
  rintro _ w3 ⟨v3, rfl, g3⟩
  have gn3 : Hid (w.grownBy w3 none) := g3.all O1.out gn1.out (Nat.le_refl _)
  obtain ⟨B3, c3, rfl⟩ := own_slice g3.own
  have O3 := Lib.hid g3.own
  have hs : Hid (Src Tryd.prog 1 22 (.slice A l.length c) (bs l).length (bs l) w3) := by
    have h := ((HA.out.only gn3.out (Nat.le_refl _) (fun _ h => by cases h)).more gn3.out.size).src (P := Tryd.prog) (tx := 22) Tryd.underlying22 c (bs_one _)
    rw [bs_len] at h ⊢
    exact h
  have z3 := gn3.out.size
  have hlen : (bs (w4 l.length ++ w4 (crcP l))).length + (bs l).length ≤ 70368744177664 := by rw [bs_len, bs_len, List.length_append, w4_len, w4_len]; omega
  clear g3
  go_wp2_with (at_builtin; go_loud (refine app_bytes rfl _ _ 22 rfl w.heap.size (.slice B3 (bs (w4 l.length ++ w4 (crcP l))).length c3) (bs (w4 l.length ++ w4 (crcP l))) rfl O3.out (.slice A l.length c) (bs l) rfl hs.out hlen z3 ?_); intro v4 w4' g4)
  go_ret2
  refine ⟨_, rfl, ?_, g4.all O3.out gn3.out (Nat.le_refl _)⟩
  have := g4.own
  rw [← bs_append] at this
  exact this

/-- Rows of bytes that are read. -/
def RR (w : World) (A : Option Addr) (L : List (List Int)) : Prop :=
  ∀ (i : Nat) (x : List Int), L[i]? = some x → ∃ b off Ax cx, A = some ⟨b, off, none⟩ ∧ b < w.heap.size ∧ w.cell? ⟨b, off + i, none⟩ = some (.slice Ax x.length cx) ∧ Has w w.heap.size Ax (bs x)
theorem RR.grow {w w' : World} {A : Option Addr} {L : List (List Int)} (h : RR w A L) (hg : w.grownBy w' none) : RR w' A L := fun i x hx => by
  obtain ⟨b, off, Ax, cx, h1, h2, h3, h4⟩ := h i x hx
  exact ⟨b, off, Ax, cx, h1, Nat.lt_of_lt_of_le h2 hg.size, (World.cell?_of_block (hg.block b h2 (by simp))).trans h3, (h4.only hg (Nat.le_refl _) (fun _ h => by cases h)).more hg.size⟩
theorem RL.rr {w : World} {base c n : Nat} {A : Option Addr} {L : List (List Int)} (h : RL w base (.slice A n c) L) : RR w A L := fun i x hx => by
  obtain ⟨es, ho, he⟩ := h
  have hi : i < L.length := (List.getElem?_eq_some_iff.1 hx).1
  obtain ⟨g, cap, hv, _⟩ := own_form ho (by omega)
  injection hv with e1 e2 e3
  subst e1
  obtain ⟨Ax, cx, h1, h2, h3⟩ := he i x hx
  have hc := ho.cells (g := g) rfl i _ h1
  rw [Addr.add_lit, Nat.zero_add] at hc
  refine ⟨g, 0, Ax, cx, rfl, (ho.lt g rfl).2, by rw [Nat.zero_add]; exact hc, ?_⟩
  rcases h3 with h0 | ⟨b, off, e, hb, _, hcc⟩
  · exact .inl (by rw [h0]; rfl)
  · exact .inr ⟨b, off, e, hb, hcc⟩
theorem IsLists.rr {w : World} {A : Option Addr} {n c : Nat} {ls : List (Option Addr × List Int × Nat)} (h : IsLists .u8 w A n c ls) : RR w A (ls.map (·.2.1)) := fun i x hx => by
  obtain ⟨h1, _, _, hc, he⟩ := h
  rw [List.getElem?_map, Option.map_eq_some_iff] at hx
  obtain ⟨y, hy, rfl⟩ := hx
  have hm : (ls.map listCell)[i]? = some (listCell y) := by rw [List.getElem?_map, hy]; rfl
  rcases hc with h0 | ⟨b, off, e, hb, hcc⟩
  · rw [h0] at hm; simp at hm
  · exact ⟨b, off, y.1, y.2.2, e, hb, hcc i _ hm, (he y (List.mem_of_getElem? hy)).2.2⟩
theorem RR.take {w : World} {A : Option Addr} {L : List (List Int)} (h : RR w A L) (n : Nat) : RR w A (L.take n) := fun i x hx => by
  rw [List.getElem?_take] at hx
  split at hx
  · exact h i x hx
  · cases hx

set_option maxRecDepth 100000 in
theorem rows_same (A B : Option Addr) (ca cb : Nat) (L : List (List Int)) (w : World) (hA : RR w A L) (hB : RR w B L) (hl : L.length ≤ 1099511627776) :
    Calls Tryd.prog 21 #[.slice A L.length ca, .slice B L.length cb] w fun e w' => e = .returned (.bool true) ∧ w.grownBy w' none := by
  have HA := Lib.hid hA
  have HB := Lib.hid hB
  clear hA hB
  go_enter Tryd.func21, Tryd.ntmps21
  go_wp2_with fail
  go_loopw [5] (fun si wr => ∃ i : Nat, i ≤ L.length ∧ si = .int .i64 i ∧ Hid (w.grownBy wr none)) (fun si _ => L.length - (intOf si).toNat)
  case atStart => exact ⟨0, Nat.zero_le _, rfl, only_refl _ _⟩
  case round =>
    obtain ⟨i, hi, rfl, hG⟩ := hrel
    by_cases hlt : i < L.length
    · have v1 : (i : Int) < (L.length : Int) := by omega
      have v0 : (0 : Int) ≤ (i : Int) := by omega
      have vs : IntKind.i64.wrap ((i : Int) + 1) = (i : Int) + 1 := by rw [IntKind.wrap_i64]; omega
      obtain ⟨x, hx⟩ : ∃ x, L[i]? = some x := ⟨_, List.getElem?_eq_getElem hlt⟩
      obtain ⟨b, off, Ax, cx, rfl, hb, hc, hh⟩ := HA.out i x hx
      obtain ⟨b', off', Bx, dx, rfl, hb', hc', hh'⟩ := HB.out i x hx
      obtain ⟨t, ht⟩ : ∃ t, t = strOfNums x := ⟨_, rfl⟩
      have G2 : w.grownBy wr.drew none := only_drew hG.out
      have SD : Hid (wr.drew.cell? ⟨b, off + i, none⟩ = some (.slice Ax x.length cx) ∧ wr.drew.cell? ⟨b', off' + i, none⟩ = some (.slice Bx x.length dx) ∧ (convert 22 9 (.slice Ax x.length cx)).run Tryd.prog wr.drew = .ok (.string t) wr.drew ∧ (convert 22 9 (.slice Bx x.length dx)).run Tryd.prog wr.drew = .ok (.string t) wr.drew) := by
        refine ⟨(World.cell?_of_block (G2.block b hb (by simp))).trans hc, (World.cell?_of_block (G2.block b' hb' (by simp))).trans hc', ?_, ?_⟩
        · rw [ht]; exact conv_string (hh.only G2 (Nat.le_refl _) (fun _ h => by cases h)) cx
        · rw [ht]; exact conv_string (hh'.only G2 (Nat.le_refl _) (fun _ h => by cases h)) dx
      have GD := Lib.hid G2
      clear hx hc hh hc' hh' ht G2
      go_wp2_with fail
      go_region_held3 (fun V => V.cell? ⟨b, off + i, none⟩ = some (.slice Ax x.length cx) ∧ V.cell? ⟨b', off' + i, none⟩ = some (.slice Bx x.length dx) ∧ (convert 22 9 (.slice Ax x.length cx)).run Tryd.prog V = .ok (.string t) V ∧ (convert 22 9 (.slice Bx x.length dx)).run Tryd.prog V = .ok (.string t) V) (first | exact SD.out) ((first | fail))
      go_wp2_with fail
      exact ⟨⟨i + 1, by omega, by go_num, GD⟩, by simp [intOf]; omega⟩
    · have v1 : ¬ (i : Int) < (L.length : Int) := by omega
      go_wp2_with fail
      go_ret
      exact ⟨rfl, hG.out⟩

set_option maxRecDepth 100000 in
theorem few_is (A : Option Addr) (ca : Nat) (L : List (List Int)) (r : Bool) (hr : r = true ↔ (∀ x ∈ L, x.length ≤ 300) ∧ L.length ≤ 10) (w : World) (hA : RR w A L) (hl : L.length ≤ maxLen) :
    Calls Tryd.prog 17 #[.slice A L.length ca] w fun e w' => e = .returned (.bool r) ∧ w = w' := by
  unfold maxLen at hl
  have HA := Lib.hid hA
  have HR := Lib.hid hr
  clear hA hr
  go_enter Tryd.func17, Tryd.ntmps17
  go_wp2_with fail
  go_loopw [3] (fun si wr => ∃ i : Nat, i ≤ L.length ∧ si = .int .i64 i ∧ Hid (∀ j x, j < i → L[j]? = some x → x.length ≤ 300) ∧ wr = w) (fun si _ => L.length - (intOf si).toNat)
  case atStart => exact ⟨0, Nat.zero_le _, rfl, fun _ _ h => absurd h (by omega), rfl⟩
  case round =>
    obtain ⟨i, hi, rfl, HJ, rfl⟩ := hrel
    by_cases hlt : i < L.length
    · have v1 : (i : Int) < (L.length : Int) := by omega
      have v0 : (0 : Int) ≤ (i : Int) := by omega
      have vs : IntKind.i64.wrap ((i : Int) + 1) = (i : Int) + 1 := by rw [IntKind.wrap_i64]; omega
      obtain ⟨x, hx⟩ : ∃ x, L[i]? = some x := ⟨_, List.getElem?_eq_getElem hlt⟩
      obtain ⟨b, off, Ax, cx, rfl, hb, hc, hh⟩ := HA.out i x hx
      have HX := Lib.hid hx
      clear hh hx
      by_cases h3 : x.length ≤ 300
      · have t3 : ¬ (300 : Int) < (x.length : Int) := by omega
        go_wp2_with fail
        refine ⟨⟨i + 1, by omega, by go_num, fun j y hj hy => ?_, trivial⟩, by simp [intOf]; omega⟩
        rcases Nat.lt_or_ge j i with h5 | h5
        · exact HJ.out j y h5 hy
        · obtain rfl : j = i := by omega
          rw [HX.out] at hy; cases hy; exact h3
      · have t3 : (300 : Int) < (x.length : Int) := by omega
        obtain rfl : r = false := by
          cases r
          · rfl
          · exact absurd ((HR.out.1 rfl).1 x (List.mem_of_getElem? HX.out)) h3
        go_wp2_with fail
        go_ret
        exact ⟨rfl, rfl⟩
    · have v1 : ¬ (i : Int) < (L.length : Int) := by omega
      obtain rfl : i = L.length := by omega
      have hd : decide ((L.length : Int) ≤ 10) = r := by
        cases r
        · rw [decide_eq_false_iff_not]
          intro h
          have := HR.out.2 ⟨fun x hx => by
            obtain ⟨j, hj, rfl⟩ := List.getElem_of_mem hx
            exact HJ.out j _ hj (List.getElem?_eq_getElem hj), by omega⟩
          cases this
        · rw [decide_eq_true_eq]
          have := (HR.out.1 rfl).2; omega
      go_wp2_with fail
      go_ret
      first
        | exact ⟨rfl, rfl⟩
        | exact ⟨by rw [← hd]; rfl, rfl⟩
end Go.Proofs.YtjdpnidenjeigaaDoor
