/- The walk of CodeReads: it returns true for every input. No condition. -/
import Derived.Test.YtjcanlnnadnodaaPair
namespace Go.Proofs.Ytjcanlnnadnodaa
open Go.RowKit

theorem own_lit2 (w : World) : (w.alloc (.cells #[] 5)).ownsRow w.heap.size 5 1 (.slice (some ⟨w.heap.size, 0, none⟩) 0 0) 0 [] :=
  ⟨rfl, .inr ⟨w.heap.size, 0, #[], rfl, Nat.le_refl _, heap_alloc_new w _, Nat.le_refl _, Nat.zero_le _, rfl, rfl⟩⟩

set_option maxRecDepth 100000 in
set_option maxHeartbeats 2000000 in
theorem reads_core (A B : Option Addr) (c d : Nat) (b asks : List Int) (w : World) (h : Has w w.heap.size A (bs b)) (hb : bytesOk b) (hl : Has w w.heap.size B (is asks))
    (hlb : b.length ≤ 500) (hbc : b.length ≤ c) (_ : asks.length ≤ 9223372036854775807) (hba : ∀ n ∈ asks, -9223372036854775808 ≤ n ∧ n ≤ 9223372036854775807) :
    Calls Try.prog 4 #[.slice A b.length c, .slice B asks.length d] w fun e w' => e = .returned (.bool true) ∧ w.grownBy w' none := by
  have t1 : ¬ (500 : Int) < (b.length : Int) := by omega
  have hsrc : Hid (∀ W : World, w.grownBy W none → Src Try.prog 1 22 (.slice A b.length c) (bs b).length (bs b) W) := fun W hW => by
    have := (h.only hW (Nat.le_refl _) (fun _ h => by cases h)).src (P := Try.prog) (tx := 22) Try.underlying22 c (bs_one _)
    rw [bs_len] at this ⊢
    exact this
  have HA := Lib.hid h
  have HL := Lib.hid hl
  have HBA := Lib.hid hba
  have HB0 := Lib.hid hb
  clear hba h hl hb
  go_enter Try.func4, Try.ntmps4
  go_wp2_with fail
  refine (known_any _).mono ?_
  rintro _ w1 ⟨rfl, g1⟩
  have hz1 := g1.size
  have ho0 : Hid ((w1.alloc (.cells #[] 5)).ownsRow w1.heap.size 5 1 (.slice (some ⟨w1.heap.size, 0, none⟩) 0 0) ([] : List Value).length []) := own_lit2 w1
  have gl : w.grownBy (w1.alloc (.cells #[] 5)) none := only_step g1 (World.grownBy_alloc w1 _ none) (fun _ h => by cases h)
  go_wp2_with (at_builtin; go_loud (refine app_bytes rfl _ _ 22 rfl w1.heap.size (.slice (some ⟨w1.heap.size, 0, none⟩) 0 0) [] rfl ho0.out (.slice A b.length c) (bs b) rfl (hsrc.out _ gl) (by rw [bs_len]; simp only [List.length_nil]; omega) (by simp) ?_); intro v0 w2 g2)
  have g02 : w.grownBy w2 none := only_step gl g2.only (fun k hk => by cases hk; exact .inr hz1)
  have O2 := g2.own
  rw [List.nil_append] at O2
  obtain ⟨A0, c0, rfl⟩ := own_slice O2
  rw [bs_len]
  clear g2 hsrc ho0
  refine (new_any A0 c0 b _ (Has.own O2) (by omega)).mono ?_
  rintro _ w3 ⟨g, rfl, R, hg, g3⟩
  have g03 : w.grownBy w3 none := only_step g02 g3 (fun _ h => by cases h)
  have hz2 := g02.size
  have hz3 := g03.size
  have hgl := R.lt
  clear O2
  go_wp2_with fail
  refine (rfNew_lim A c b _ (HA.out.only g03 (Nat.le_refl _) (fun _ h => by cases h)) hz3 hbc (by omega)).mono ?_
  rintro _ w4 ⟨q, rfl, F, hq, g4⟩
  have g04 : w.grownBy w4 none := only_step g03 g4 (fun _ h => by cases h)
  have R4 := R.only g4 (fun _ h => by cases h)
  have hwg : w.heap.size ≤ g := by omega
  have hgq : g < q := by omega
  have hne : q ≠ g := by omega
  clear R g3 g4 g02 g03 gl g1
  go_wp2_with fail
  go_loopw [7] (fun si wr => ∃ (k : Nat) (l' : List Int) (e : Int), k ≤ asks.length ∧ k ≤ 30 ∧ si = .int .i64 k ∧ Rdr wr g l' e ∧ Rdf w.heap.size wr q l' e ∧ Hid (bytesOk l') ∧ l'.length ≤ 500 ∧ w.grownBy wr none)
    (fun si _ => 30 - (intOf si).toNat)
  case atStart => exact ⟨0, b, 0, Nat.zero_le _, by omega, rfl, R4, F, HB0, hlb, g04⟩
  case round =>
    obtain ⟨k, l', e, hk1, hk2, rfl, R, F, HB, hl5, hG⟩ := hrel
    clear R4 g04
    have hGz := hG.size
    have hqz := F.lt
    by_cases hlt : k < asks.length ∧ k < 30
    · obtain ⟨hlt1, hlt2⟩ := hlt
      have t2 : (k : Int) < (asks.length : Int) := by omega
      have t3 : (k : Int) < 30 := by omega
      have hx : (is asks)[k]? = some (.int .i64 asks[k]) := by simp [is, hlt1]
      have hbx := HBA.out asks[k] (List.getElem_mem hlt1)
      obtain ⟨x, ex⟩ : ∃ x, x = asks[k] := ⟨_, rfl⟩
      rw [← ex] at hx hbx
      obtain ⟨bb, off, rfl, hbb, hcell⟩ : ∃ b off, B = some ⟨b, off, none⟩ ∧ b < w.heap.size ∧ wr.cell? ⟨b, off + k, none⟩ = some (.int .i64 x) := by
        rcases HL.out.only hG (Nat.le_refl _) (fun _ h => by cases h) with h0 | ⟨b, off, hA, hb, hc⟩
        · rw [h0] at hx; cases hx
        · exact ⟨b, off, hA, hb, hc k _ hx⟩
      have ht0 : (0 : Int) ≤ (k : Int) := by omega
      have hes : IntKind.i64.wrap ((k : Int) + 1) = (k : Int) + 1 := by rw [IntKind.wrap_i64]; omega
      clear hx ex
      have hWm : ∀ (m : Int), x % 7 = m → ∀ W, Hid (Calls Try.prog 21 #[.int .i64 x, .int .i64 7] W fun e w' => e = .returned (.int .i64 m) ∧ W = w') := fun m hm W => by
        rw [← hm]; exact within_any x 7 hbx.1 hbx.2 (by omega) (by omega) W
      have h7 : x % 7 = 0 ∨ x % 7 = 1 ∨ x % 7 = 2 ∨ x % 7 = 3 ∨ x % 7 = 4 ∨ x % 7 = 5 ∨ x % 7 = 6 := by omega
      rcases h7 with h7 | h7 | h7 | h7 | h7 | h7 | h7
      · have hW := hWm _ h7
        clear hWm h7
        obtain ⟨t, l2, e2, P1, P2, hb2, hl2⟩ := pair_int (lim := w.heap.size) g q l' e (by omega) HB.out
        have P1 := fun W H => Lib.hid (P1 W H)
        have P2 := fun W H => Lib.hid (P2 W H)
        have HB2 := Lib.hid hb2
        clear hb2
        go_wp2_with (first
          | (go_at_call 21; refine (hW _).out.mono ?_; rintro e w5 ⟨rfl, rfl⟩)
          | (go_at_call 22; refine (P1 _ R).out.mono ?_; rintro e w5 ⟨rfl, R1, g1⟩; have F1 := F.only g1 (fun q hq => by cases hq; exact ⟨hwg, hne⟩))
          | (go_at_call 23; refine (P2 _ F1).out.mono ?_; rintro e w6 ⟨rfl, F2, g2⟩; have R2 := R1.only g2 (fun q hq => by cases hq; exact hgq))
          | (go_at_call 31; refine (end_any g _ _ _ R2 (by omega)).mono ?_; rintro e w7 ⟨rfl, rfl⟩)
          | (go_at_call 32; refine (rfEnd_any q _ _ _ F2).mono ?_; rintro e w8 ⟨rfl, F3, g3⟩; have R3 := R2.only g3 (fun _ h => by cases h)))
        go_roundw
        case rel => exact ⟨k + 1, l2, e2, by omega, by omega, by go_num, R3, F3, HB2, by omega, only_step (only_step (only_step hG g1 (fun q hq => by cases hq; exact .inr hwg)) g2 (fun q hq => by cases hq; exact .inr (by omega))) g3 (fun _ h => by cases h)⟩
        case measure => simp [intOf]; omega
      · have hW := hWm _ h7
        clear hWm h7
        obtain ⟨t, l2, e2, P1, P2, hb2, hl2⟩ := pair_int (lim := w.heap.size) g q l' e (by omega) HB.out
        have P1 := fun W H => Lib.hid (P1 W H)
        have P2 := fun W H => Lib.hid (P2 W H)
        have HB2 := Lib.hid hb2
        clear hb2
        go_wp2_with (first
          | (go_at_call 21; refine (hW _).out.mono ?_; rintro e w5 ⟨rfl, rfl⟩)
          | (go_at_call 22; refine (P1 _ R).out.mono ?_; rintro e w5 ⟨rfl, R1, g1⟩; have F1 := F.only g1 (fun q hq => by cases hq; exact ⟨hwg, hne⟩))
          | (go_at_call 23; refine (P2 _ F1).out.mono ?_; rintro e w6 ⟨rfl, F2, g2⟩; have R2 := R1.only g2 (fun q hq => by cases hq; exact hgq))
          | (go_at_call 31; refine (end_any g _ _ _ R2 (by omega)).mono ?_; rintro e w7 ⟨rfl, rfl⟩)
          | (go_at_call 32; refine (rfEnd_any q _ _ _ F2).mono ?_; rintro e w8 ⟨rfl, F3, g3⟩; have R3 := R2.only g3 (fun _ h => by cases h)))
        go_roundw
        case rel => exact ⟨k + 1, l2, e2, by omega, by omega, by go_num, R3, F3, HB2, by omega, only_step (only_step (only_step hG g1 (fun q hq => by cases hq; exact .inr hwg)) g2 (fun q hq => by cases hq; exact .inr (by omega))) g3 (fun _ h => by cases h)⟩
        case measure => simp [intOf]; omega
      · have hW := hWm _ h7
        clear hWm h7
        obtain ⟨t, l2, e2, P1, P2, hb2, hl2⟩ := pair_int (lim := w.heap.size) g q l' e (by omega) HB.out
        have P1 := fun W H => Lib.hid (P1 W H)
        have P2 := fun W H => Lib.hid (P2 W H)
        have HB2 := Lib.hid hb2
        clear hb2
        go_wp2_with (first
          | (go_at_call 21; refine (hW _).out.mono ?_; rintro e w5 ⟨rfl, rfl⟩)
          | (go_at_call 22; refine (P1 _ R).out.mono ?_; rintro e w5 ⟨rfl, R1, g1⟩; have F1 := F.only g1 (fun q hq => by cases hq; exact ⟨hwg, hne⟩))
          | (go_at_call 23; refine (P2 _ F1).out.mono ?_; rintro e w6 ⟨rfl, F2, g2⟩; have R2 := R1.only g2 (fun q hq => by cases hq; exact hgq))
          | (go_at_call 31; refine (end_any g _ _ _ R2 (by omega)).mono ?_; rintro e w7 ⟨rfl, rfl⟩)
          | (go_at_call 32; refine (rfEnd_any q _ _ _ F2).mono ?_; rintro e w8 ⟨rfl, F3, g3⟩; have R3 := R2.only g3 (fun _ h => by cases h)))
        go_roundw
        case rel => exact ⟨k + 1, l2, e2, by omega, by omega, by go_num, R3, F3, HB2, by omega, only_step (only_step (only_step hG g1 (fun q hq => by cases hq; exact .inr hwg)) g2 (fun q hq => by cases hq; exact .inr (by omega))) g3 (fun _ h => by cases h)⟩
        case measure => simp [intOf]; omega
      · have hW := hWm _ h7
        clear hWm h7
        obtain ⟨t, l2, e2, P1, P2, hb2, hl2⟩ := pair_text (lim := w.heap.size) g q l' e (by omega) HB.out
        have P1 := fun W H => Lib.hid (P1 W H)
        have P2 := fun W H => Lib.hid (P2 W H)
        have HB2 := Lib.hid hb2
        clear hb2
        go_wp2_with (first
          | (go_at_call 21; refine (hW _).out.mono ?_; rintro e w5 ⟨rfl, rfl⟩)
          | (go_at_call 24; refine (P1 _ R).out.mono ?_; rintro e w5 ⟨rfl, R1, g1⟩; have F1 := F.only g1 (fun q hq => by cases hq; exact ⟨hwg, hne⟩))
          | (go_at_call 25; refine (P2 _ F1).out.mono ?_; rintro e w6 ⟨rfl, F2, g2⟩; have R2 := R1.only g2 (fun q hq => by cases hq; exact hgq))
          | (go_at_call 31; refine (end_any g _ _ _ R2 (by omega)).mono ?_; rintro e w7 ⟨rfl, rfl⟩)
          | (go_at_call 32; refine (rfEnd_any q _ _ _ F2).mono ?_; rintro e w8 ⟨rfl, F3, g3⟩; have R3 := R2.only g3 (fun _ h => by cases h)))
        go_roundw
        case rel => exact ⟨k + 1, l2, e2, by omega, by omega, by go_num, R3, F3, HB2, by omega, only_step (only_step (only_step hG g1 (fun q hq => by cases hq; exact .inr hwg)) g2 (fun q hq => by cases hq; exact .inr (by omega))) g3 (fun _ h => by cases h)⟩
        case measure => simp [intOf]; omega
      · have hW := hWm _ h7
        clear hWm h7
        obtain ⟨t, l2, e2, P1, P2, hb2, hl2⟩ := pair_text (lim := w.heap.size) g q l' e (by omega) HB.out
        have P1 := fun W H => Lib.hid (P1 W H)
        have P2 := fun W H => Lib.hid (P2 W H)
        have HB2 := Lib.hid hb2
        clear hb2
        go_wp2_with (first
          | (go_at_call 21; refine (hW _).out.mono ?_; rintro e w5 ⟨rfl, rfl⟩)
          | (go_at_call 24; refine (P1 _ R).out.mono ?_; rintro e w5 ⟨rfl, R1, g1⟩; have F1 := F.only g1 (fun q hq => by cases hq; exact ⟨hwg, hne⟩))
          | (go_at_call 25; refine (P2 _ F1).out.mono ?_; rintro e w6 ⟨rfl, F2, g2⟩; have R2 := R1.only g2 (fun q hq => by cases hq; exact hgq))
          | (go_at_call 31; refine (end_any g _ _ _ R2 (by omega)).mono ?_; rintro e w7 ⟨rfl, rfl⟩)
          | (go_at_call 32; refine (rfEnd_any q _ _ _ F2).mono ?_; rintro e w8 ⟨rfl, F3, g3⟩; have R3 := R2.only g3 (fun _ h => by cases h)))
        go_roundw
        case rel => exact ⟨k + 1, l2, e2, by omega, by omega, by go_num, R3, F3, HB2, by omega, only_step (only_step (only_step hG g1 (fun q hq => by cases hq; exact .inr hwg)) g2 (fun q hq => by cases hq; exact .inr (by omega))) g3 (fun _ h => by cases h)⟩
        case measure => simp [intOf]; omega
      · have hW := hWm _ h7
        clear hWm h7
        obtain ⟨t, l2, e2, P1, P2, hb2, hl2⟩ := pair_ints (lim := w.heap.size) g q l' e (by omega) HB.out
        have P1 := fun W H => Lib.hid (P1 W H)
        have P2 := fun W H => Lib.hid (P2 W H)
        have HB2 := Lib.hid hb2
        clear hb2
        go_wp2_with (first
          | (go_at_call 21; refine (hW _).out.mono ?_; rintro e w5 ⟨rfl, rfl⟩)
          | (go_at_call 27; refine (P1 _ R).out.mono ?_; rintro e w5 ⟨⟨v1, rfl, o1⟩, R1, g1⟩; have F1 := F.only g1 (fun q hq => by cases hq; exact ⟨hwg, hne⟩); have z5 := g1.size)
          | (go_at_call 28; refine (P2 _ F1).out.mono ?_; rintro e w6 ⟨⟨v2, rfl, o2⟩, F2a, g2a⟩; have o1' := o1.kept g2a (by rcases own_at o1 with h | ⟨q9, h, hq9⟩ <;> rw [h] <;> simp <;> omega); obtain ⟨A1, c1, rfl⟩ := own_slice o1'; obtain ⟨A2, c2, rfl⟩ := own_slice o2; have hi := ints_same A1 A2 c1 c2 _ _ t w6 (Has.own o1') (Has.own o2) (Nat.le_refl _) (Nat.le_refl _) (own_len o2))
          | (go_at_call 26; refine hi.mono ?_; rintro e w6b ⟨rfl, gi⟩; have F2 := F2a.only gi (fun _ h => by cases h); have g2 := only_step g2a gi (fun _ h => by cases h); have R2 := R1.only g2 (fun q hq => by cases hq; exact hgq))
          | (go_at_call 31; refine (end_any g _ _ _ R2 (by omega)).mono ?_; rintro e w7 ⟨rfl, rfl⟩)
          | (go_at_call 32; refine (rfEnd_any q _ _ _ F2).mono ?_; rintro e w8 ⟨rfl, F3, g3⟩; have R3 := R2.only g3 (fun _ h => by cases h)))
        go_roundw
        case rel => exact ⟨k + 1, l2, e2, by omega, by omega, by go_num, R3, F3, HB2, by omega, only_step (only_step (only_step hG g1 (fun q hq => by cases hq; exact .inr hwg)) g2 (fun q hq => by cases hq; exact .inr (by omega))) g3 (fun _ h => by cases h)⟩
        case measure => simp [intOf]; omega
      · have hW := hWm _ h7
        clear hWm h7
        go_wp2_with fail
        refine (hW _).out.mono ?_
        rintro _ w5 ⟨rfl, rfl⟩
        go_wp2_with fail
        have hT : -9223372036854775808 ≤ x.tdiv 7 ∧ x.tdiv 7 ≤ 9223372036854775807 := by
          rcases Int.le_total 0 x with h0 | h0
          · rw [Int.tdiv_eq_ediv_of_nonneg h0]; omega
          · have h1 : x.tdiv 7 = -((-x).tdiv 7) := by rw [Int.neg_tdiv, Int.neg_neg]
            rw [h1, Int.tdiv_eq_ediv_of_nonneg (by omega)]; omega
        refine (within_any (x.tdiv 7) 20 hT.1 hT.2 (by omega) (by omega) _).mono ?_
        rintro _ w5b ⟨rfl, rfl⟩
        go_wp2_with fail
        refine (fail_any g l' e _ _ R).mono ?_
        rintro _ w6 ⟨rfl, R1, g1⟩
        have F1 := F.only g1 (fun q hq => by cases hq; exact ⟨hwg, hne⟩)
        have hcell6 : w6.cell? ⟨bb, off + k, none⟩ = some (.int .i64 x) := (World.cell?_of_block (g1.block bb (by omega) (by simp; omega))).trans hcell
        go_wp2_with fail
        refine (within_any (x.tdiv 7) 20 hT.1 hT.2 (by omega) (by omega) _).mono ?_
        rintro _ w6b ⟨rfl, rfl⟩
        go_wp2_with fail
        refine (rfFail_any q l' e _ _ F1).mono ?_
        rintro _ w7 ⟨rfl, F2, g2⟩
        have R2 := R1.only g2 (fun q hq => by cases hq; exact hgq)
        obtain ⟨l2, hl2⟩ : ∃ l2, l2 = l' := ⟨_, rfl⟩
        obtain ⟨e2, he2⟩ : ∃ e2, e2 = failOf e (x.tdiv 7 % 20) := ⟨_, rfl⟩
        rw [← he2, ← hl2] at R2 F2
        have HB2 : Hid (bytesOk l2) := by rw [hl2]; exact HB
        have hl2' : l2.length ≤ 500 := by rw [hl2]; exact hl5
        clear hl2 he2
        go_wp2_with (first
          | (go_at_call 31; refine (end_any g _ _ _ R2 (by omega)).mono ?_; rintro e w7 ⟨rfl, rfl⟩)
          | (go_at_call 32; refine (rfEnd_any q _ _ _ F2).mono ?_; rintro e w8 ⟨rfl, F3, g3⟩; have R3 := R2.only g3 (fun _ h => by cases h)))
        go_roundw
        case rel => exact ⟨k + 1, l2, e2, by omega, by omega, by go_num, R3, F3, HB2, by omega, only_step (only_step (only_step hG g1 (fun q hq => by cases hq; exact .inr hwg)) g2 (fun q hq => by cases hq; exact .inr (by omega))) g3 (fun _ h => by cases h)⟩
        case measure => simp [intOf]; omega
    · have t2 : ¬ ((k : Int) < (asks.length : Int) ∧ (k : Int) < 30) := by omega
      by_cases hlt1 : k < asks.length
      · have t4 : (k : Int) < (asks.length : Int) := by omega
        have t5 : ¬ (k : Int) < 30 := by omega
        go_wp2_with (first
          | (go_at_call 31; refine (end_any g _ _ _ R (by omega)).mono ?_; rintro e w7 ⟨rfl, rfl⟩)
          | (go_at_call 32; refine (rfEnd_any q _ _ _ F).mono ?_; rintro e w8 ⟨rfl, F3, g3⟩))
        go_ret
        exact ⟨by simp, only_step hG g3 (fun _ h => by cases h)⟩
      · have t4 : ¬ (k : Int) < (asks.length : Int) := by omega
        go_wp2_with (first
          | (go_at_call 31; refine (end_any g _ _ _ R (by omega)).mono ?_; rintro e w7 ⟨rfl, rfl⟩)
          | (go_at_call 32; refine (rfEnd_any q _ _ _ F).mono ?_; rintro e w8 ⟨rfl, F3, g3⟩))
        go_ret
        exact ⟨by simp, only_step hG g3 (fun _ h => by cases h)⟩
theorem codeReads_walk (A B : Option Addr) (c d : Nat) (b asks : List Int) (w : World) (h : Has w w.heap.size A (bs b)) (hb : bytesOk b) (hl : Has w w.heap.size B (is asks))
    (hbc : b.length ≤ c) (_ : c ≤ maxLen) (hla : asks.length ≤ maxLen) (hba : ∀ n ∈ asks, -9223372036854775808 ≤ n ∧ n ≤ 9223372036854775807) :
    Calls Try.prog 4 #[.slice A b.length c, .slice B asks.length d] w fun e w' => e = .returned (.bool true) ∧ w.grownBy w' none := by
  unfold maxLen at hla
  by_cases hlb : b.length ≤ 500
  · exact reads_core A B c d b asks w h hb hl hlb hbc (by omega) hba
  · have t1 : (500 : Int) < (b.length : Int) := by omega
    clear h hl hb hba
    go_enter Try.func4, Try.ntmps4
    go_wp2_with (go_at_call 12; refine (known_any _).mono ?_; rintro e w1 ⟨rfl, g1⟩)
    go_ret
    exact ⟨rfl, g1⟩
end Go.Proofs.Ytjcanlnnadnodaa
