/- The walk of CodeTexts: it returns true for every input. No condition. -/
import Derived.Test.YtjcanlnnadnodaaFails
import Derived.Deep.RegionLaw
import Derived.Deep.RegionHeld3
import Derived.Deep.DrawnRows
namespace Go.Proofs.Ytjcanlnnadnodaa
open Go.RowKit Go.ChangeShapes
attribute [local go_sem ↓] Go.wp_at_zero Go.wp_at_succ

theorem sb_of (l : List Int) (hb : bytesOk l) : sb (strOfNums l) = l := by
  unfold sb
  rw [strOfNums_data, List.map_map]
  apply List.ext_getElem (by simp)
  intro i h1 h2
  have h := hb l[i] (List.getElem_mem h2)
  simp only [List.getElem_map, Function.comp]
  rw [UInt8.toNat_ofNat']
  omega
theorem text_ok (l r : List Int) (hl : l.length ≤ 65535) : ans textB (enc l.length ++ (l ++ r)) 0 = (.ok l, r) := by
  have h1 : lengthB (enc l.length ++ (l ++ r)) = (.ok (l.length : Int), l ++ r) := by
    unfold lengthB
    rw [number_enc _ _ (by omega) (by omega)]
    simp only [if_neg (show ¬ ((l.length : Int) < 0 ∨ 65535 < (l.length : Int)) by omega)]
  unfold ans textB
  rw [if_pos rfl, h1]
  simp
theorem int_ok (n : Int) (r : List Int) (h1 : -9223372036854775808 ≤ n) (h2 : n ≤ 9223372036854775807) : ans number (enc n ++ r) 0 = (.ok n, r) := number_enc n r h1 h2
theorem own_lit0 (w : World) : (w.alloc (.cells #[] 5)).ownsRow w.heap.size 5 1 (.slice (some ⟨w.heap.size, 0, none⟩) 0 0) 0 [] :=
  ⟨rfl, .inr ⟨w.heap.size, 0, #[], rfl, Nat.le_refl _, heap_alloc_new w _, Nat.le_refl _, Nat.zero_le _, rfl, rfl⟩⟩

set_option maxHeartbeats 2000000 in
theorem texts_core (A : Option Addr) (c : Nat) (l : List Int) (n : Int) (w : World) (h : Has w w.heap.size A (bs l)) (hb : bytesOk l) (hl : l.length ≤ 300) (e1 : -9223372036854775808 ≤ n) (e2 : n ≤ 9223372036854775807) :
    Calls Try.prog 11 #[.slice A l.length c, .int .i64 n] w fun e w' => e = .returned (.bool true) ∧ w.grownBy w' none := by
  have ht : ¬ (300 : Int) < (l.length : Int) := by omega
  have hsb := sb_of l hb
  have hss := strOfNums_size l
  have hel := enc_len l.length (by omega) (by omega)
  have hen := enc_len n e1 e2
  have HT := Lib.hid (text_ok l (enc n) (by omega))
  have HI := Lib.hid (int_ok n [] e1 e2)
  have HB : Hid (bytesOk (enc l.length ++ (l ++ enc n))) := fun x hx => by
    rcases List.mem_append.1 hx with hx | hx
    · exact enc_byte _ x hx
    · rcases List.mem_append.1 hx with hx | hx
      · exact hb x hx
      · exact enc_byte n x hx
  have hcb : ∀ W : World, w.grownBy W none → (convert 22 9 (.slice A l.length c)).run Try.prog W = .ok (.string (strOfNums l)) W :=
    fun W hW => conv_string (h.only hW (Nat.le_refl _) (fun _ h => by cases h)) c
  have HSB := Lib.hid hsb
  have HSS := Lib.hid hss
  clear hb h hsb hss
  go_enter Try.func11, Try.ntmps11
  go_wp2_with fail
  refine (known_any _).mono ?_
  rintro _ w1 ⟨rfl, g1⟩
  go_wp2_with fail
  refine (text_any none 0 [] (strOfNums l) _ Has.nil (by simp) (by simp) (by rw [HSS.out]; omega)).mono ?_
  rintro _ w2 ⟨v2, rfl, g2⟩
  rw [HSB.out, HSS.out, List.nil_append, ← bs_append] at g2
  have hg2 : w.grownBy w2 none := only_step g1 (g2.none rfl) (fun _ h => by cases h)
  obtain ⟨A2, c2, rfl⟩ := own_slice g2.own
  have h2 := Has.own g2.own
  rw [bs_len, List.length_append]
  have hc2 : (enc l.length).length + l.length ≤ c2 := by
    rcases g2.own.2 with ⟨h, h0⟩ | ⟨q, cap, cur, h, _, _, hn, _⟩
    · rw [bs_len, List.length_append] at h0; omega
    · rw [bs_len, List.length_append] at h; simp at h; rw [bs_len, List.length_append] at hn; omega
  clear g2
  go_wp2_with fail
  refine (int_any none 0 [] l.length _ Has.nil (by simp) (by simp) (by omega) (by omega)).mono ?_
  rintro _ w3 ⟨v3, rfl, g3⟩
  obtain ⟨A3, c3, rfl⟩ := own_slice g3.own
  have hg3 : w.grownBy w3 none := only_step hg2 (g3.none rfl) (fun _ h => by cases h)
  have h3 := (h2.only (g3.none rfl) (Nat.le_refl _) (fun _ h => by cases h)).more g3.only.size
  rw [List.nil_append, bs_len]
  clear g3 g1 h2 hg2
  have hs4 : Hid (Src Try.prog 1 22 (.slice A2 ((enc l.length).length + l.length) c2) (bs (enc l.length ++ l)).length (bs (enc l.length ++ l)) (w3.alloc (.cells #[] 5))) := by
    have h4 := h3.keep (w' := w3.alloc (.cells #[] 5)) (fun p hp => World.cell?_alloc_lt _ _ _ hp)
    have := h4.src (P := Try.prog) (tx := 22) Try.underlying22 c2 (bs_one _)
    rw [bs_len, List.length_append] at this
    rw [bs_len, List.length_append]
    exact this
  have ho4 : Hid ((w3.alloc (.cells #[] 5)).ownsRow w3.heap.size 5 1 (.slice (some ⟨w3.heap.size, 0, none⟩) 0 0) ([] : List Value).length []) := own_lit0 w3
  go_wp2_with (at_builtin; go_loud (refine app_bytes rfl _ _ 22 rfl w3.heap.size (.slice (some ⟨w3.heap.size, 0, none⟩) 0 0) [] rfl ho4.out (.slice A2 ((enc l.length).length + l.length) c2) (bs (enc l.length ++ l)) rfl hs4.out (by rw [bs_len, List.length_append]; simp only [List.length_nil]; omega) (by simp) ?_); intro v4 w4 g4)
  have hg4 : w.grownBy w4 none := only_step hg3 (only_step (World.grownBy_alloc w3 (.cells #[] 5) none) g4.only (fun k hk => by cases hk; exact .inr (Nat.le_refl _))) (fun k hk => by cases hk)
  have h34 : w3.grownBy w4 none := only_step (World.grownBy_alloc w3 (.cells #[] 5) none) g4.only (fun k hk => by cases hk; exact .inr (Nat.le_refl _))
  have H3 := Lib.hid h3
  have H34 := Lib.hid h34
  have ho4 := g4.own
  rw [List.nil_append] at ho4
  have hs4 := h34.size
  clear h3 g4 h34
  refine (int_any none 0 [] n _ Has.nil (by simp) (by simp) (by omega) (by omega)).mono ?_
  rintro _ w5 ⟨v5, rfl, g5⟩
  obtain ⟨A5, c5, rfl⟩ := own_slice g5.own
  have hg5 : w.grownBy w5 none := only_step hg4 (g5.none rfl) (fun _ h => by cases h)
  have ho5 := ho4.kept (g5.none rfl) (by cases v4.ownBlock <;> simp)
  have H45 := Lib.hid (g5.none rfl)
  have hs5 : Hid (Src Try.prog 1 22 (.slice A5 (enc n).length c5) (bs (enc n)).length (bs (enc n)) w5) := by
    have h := Has.own g5.own
    rw [List.nil_append] at h
    have := h.src (P := Try.prog) (tx := 22) Try.underlying22 c5 (bs_one _)
    rw [bs_len] at this
    rw [bs_len]
    exact this
  have hz5 := g5.only.size
  rw [List.nil_append, bs_len]
  clear ho4 g5
  go_wp2_with (at_builtin; go_loud (refine app_bytes rfl _ _ 22 rfl w3.heap.size v4 (bs (enc l.length ++ l)) rfl ho5 (.slice A5 (enc n).length c5) (bs (enc n)) rfl hs5.out (by rw [bs_len, bs_len, List.length_append]; omega) (by omega) ?_); intro v6 w6 g6)
  obtain ⟨A6, c6, rfl⟩ := own_slice g6.own
  have h56 : w5.grownBy w6 v4.ownBlock := g6.only
  have hg6 : w.grownBy w6 none := only_step hg5 h56 (fun k hk => .inr (by have := (ho5.lt k hk).1; have := hg3.size; omega))
  have h6 := Has.own g6.own
  rw [← bs_append, List.append_assoc] at h6
  have h36 : w3.grownBy w6 none := only_step (only_step H34.out H45.out (fun _ h => by cases h)) h56 (fun k hk => .inr (ho5.lt k hk).1)
  have hx6 := H3.out.only h36 (Nat.le_refl _) (fun _ h => by cases h)
  have hs36 := h36.size
  rw [← bs_append, List.append_assoc, bs_len]
  clear ho5 h56 g6 hs5 hs4
  refine (new_any A6 c6 _ _ h6 (by simp only [List.length_append]; omega)).mono ?_
  rintro _ w7 ⟨g, rfl, R, hg, g7⟩
  have hg7 : w.grownBy w7 none := only_step hg6 g7 (fun _ h => by cases h)
  have hxW : ∀ W : World, w7.grownBy W (some g) → Has W w3.heap.size A2 (bs (enc l.length ++ l)) := fun W hW =>
    (hx6.only g7 hs36 (fun _ h => by cases h)).only hW (by have := g7.size; omega) (fun k hk => by cases hk; omega)
  have HXW := fun W hW => Lib.hid (hxW W hW)
  have HR := Lib.hid R
  have hzg : w.heap.size ≤ g := by have := hg6.size; omega
  clear hxW hx6 g7 h6 hg6 R
  obtain ⟨k, hk⟩ : ∃ k, k = (enc (l.length : Int)).length := ⟨_, rfl⟩
  rw [← hk] at hc2 hel ⊢
  have HK := Lib.hid hk
  clear hk
  have HTx : ∀ W, Rdr W g (enc l.length ++ (l ++ enc n)) 0 → Calls Try.prog 24 #[.pointer (some ⟨g, 0, none⟩)] W fun e w' => e = .returned (.string (strOfNums l)) ∧ Rdr w' g (enc n) 0 ∧ W.grownBy w' (some g) := fun W R =>
    (rText_any g _ 0 W R (by simp only [List.length_append]; rw [← HK.out]; omega) HB.out).mono fun e w' hp => by
      rw [HT.out] at hp
      obtain ⟨⟨v, he, hv⟩, h2, h3⟩ := hp
      exact ⟨by rw [he, show v = _ from hv], h2, h3⟩
  have HIn : ∀ W, Rdr W g (enc n) 0 → Calls Try.prog 22 #[.pointer (some ⟨g, 0, none⟩)] W fun e w' => e = .returned (.int .i64 n) ∧ Rdr w' g [] 0 ∧ W.grownBy w' (some g) := fun W R =>
    (rInt_any g _ 0 W R (by omega) (enc_byte n)).mono fun e w' hp => by
      have h0 := HI.out
      rw [List.append_nil] at h0
      rw [h0] at hp
      obtain ⟨⟨v, he, hv⟩, h2, h3⟩ := hp
      exact ⟨by rw [he, show v = _ from hv], h2, h3⟩
  have H1 := fun W R => Lib.hid (HTx W R)
  have H2 := fun W R => Lib.hid (HIn W R)
  clear HTx HIn
  have cc1 : (0 : Int) ≤ (k : Int) := by omega
  have cc2 : (k : Int) ≤ ((k + l.length : Nat) : Int) := by omega
  have cc3 : (k : Int) ≤ (k : Int) + (l.length : Int) := by omega
  have cc4 : k ≤ k + l.length := by omega
  have cc5 : IntKind.i64.wrap ((k : Int) + (l.length : Int)) = (k : Int) + (l.length : Int) := by rw [IntKind.wrap_i64]; omega
  have d0 : w.grownBy w7.drew none := only_drew hg7
  have d1 : w7.grownBy w7.drew (some g) := only_drew (only_refl _ _)
  have R0 : Rdr w7.drew g (enc l.length ++ (l ++ enc n)) 0 := HR.out
  by_cases hck : c2 = k
  · have hl0 : l.length = 0 := by omega
    have hl00 : l = [] := List.eq_nil_of_length_eq_zero hl0
    subst hl00
    have hcx : ∀ W : World, w7.grownBy W (some g) → (convert 22 9 (.slice A2 0 0)).run Try.prog W = .ok (.string (strOfNums [])) W := fun W _ => conv_string (w := W) (lim := 0) (l := []) (.inl rfl) 0
    have hcb0 : ∀ W : World, w7.grownBy W (some g) → (convert 22 9 (.slice A 0 c)).run Try.prog W = .ok (.string (strOfNums [])) W := fun W _ => conv_string (w := W) (lim := 0) (l := []) (.inl rfl) c
    subst hck
    clear cc5 hcb
    have cc6 : IntKind.i64.wrap (c2 : Int) = (c2 : Int) := by rw [IntKind.wrap_i64]; omega
    have cc7 : IntKind.i64.wrap ((c2 : Int) + 0) = (c2 : Int) := by rw [IntKind.wrap_i64]; omega
    go_wp2_with fail
    go_region_held3 (fun W => w7.grownBy W (some g) ∧ w.grownBy W none) (first | exact ⟨by assumption, by assumption⟩) ((first
      | (go_at_call 24; refine (H1 _ R0).out.mono ?_; rintro e wa ⟨rfl, Ra, ga⟩; have d2 : w.grownBy wa none := only_step d0 ga (fun q hq => by cases hq; exact .inr hzg); have d3 : w7.grownBy wa (some g) := only_step d1 ga (fun q hq => .inl hq))
      | (go_at_call 22; refine (H2 _ Ra).out.mono ?_; rintro e wb ⟨rfl, Rb, gb⟩; have d4 : w.grownBy wb none := only_step d2 gb (fun q hq => by cases hq; exact .inr hzg); have d5 : w7.grownBy wb (some g) := only_step d3 gb (fun q hq => .inl hq))
      | (go_at_call 31; refine (end_any g [] 0 _ Rb (by simp)).mono ?_; rintro e wc ⟨rfl, rfl⟩)))
    go_wp2_with fail
    go_ret
    exact ⟨rfl, by assumption⟩
  · have hcx : ∀ W : World, w7.grownBy W (some g) → (convert 22 9 (.slice (A2.map (·.add k)) l.length (c2 - k))).run Try.prog W = .ok (.string (strOfNums l)) W := fun W hW => by
      have h := (HXW W hW).out.drop k
      rw [HK.out, List.drop_left] at h
      rw [HK.out]
      exact conv_string h _
    have hck' : ¬ k = c2 := fun e => hck e.symm
    go_wp2_with fail
    go_region_held3 (fun W => w7.grownBy W (some g) ∧ w.grownBy W none) (first | exact ⟨by assumption, by assumption⟩) ((first
      | (go_at_call 24; refine (H1 _ R0).out.mono ?_; rintro e wa ⟨rfl, Ra, ga⟩; have d2 : w.grownBy wa none := only_step d0 ga (fun q hq => by cases hq; exact .inr hzg); have d3 : w7.grownBy wa (some g) := only_step d1 ga (fun q hq => .inl hq))
      | (go_at_call 22; refine (H2 _ Ra).out.mono ?_; rintro e wb ⟨rfl, Rb, gb⟩; have d4 : w.grownBy wb none := only_step d2 gb (fun q hq => by cases hq; exact .inr hzg); have d5 : w7.grownBy wb (some g) := only_step d3 gb (fun q hq => .inl hq))
      | (go_at_call 31; refine (end_any g [] 0 _ Rb (by simp)).mono ?_; rintro e wc ⟨rfl, rfl⟩)))
    go_wp2_with fail
    go_ret
    exact ⟨rfl, by assumption⟩

theorem codeTexts_walk (A : Option Addr) (c : Nat) (l : List Int) (n : Int) (w : World) (h : Has w w.heap.size A (bs l)) (hb : bytesOk l) (hlm : l.length ≤ maxLen) (e1 : -9223372036854775808 ≤ n) (e2 : n ≤ 9223372036854775807) :
    Calls Try.prog 11 #[.slice A l.length c, .int .i64 n] w fun e w' => e = .returned (.bool true) ∧ w.grownBy w' none := by
  unfold maxLen at hlm
  by_cases hl : l.length ≤ 300
  · exact texts_core A c l n w h hb hl e1 e2
  · have ht : (300 : Int) < (l.length : Int) := by omega
    clear h hb
    go_enter Try.func11, Try.ntmps11
    go_wp2_with (go_at_call 12; refine (known_any _).mono ?_; rintro e w1 ⟨rfl, g1⟩)
    go_ret
    exact ⟨rfl, g1⟩
end Go.Proofs.Ytjcanlnnadnodaa
