/- The walk of SchemaBytes: it returns true for every input. No condition. -/
import Derived.Test.YtjgbflgeicejeaaDoorSst
import Derived.BigQuiet
import Derived.Deep.QuietTactic
namespace Go.Proofs.YtjgbflgeicejeaaDoor
open Go.RowKit Go.Lib

theorem tr_pre (l : List UInt8) : tr l = l.take (tr l).length := by
  have key : ∀ (n : Nat) (l : List UInt8), l.length = n → tr l = l.take (tr l).length := by
    intro n
    induction n with
    | zero => intro l hl; rw [List.eq_nil_of_length_eq_zero hl]; rfl
    | succ n ih =>
      intro l hl
      have hne : l ≠ [] := by intro h; rw [h] at hl; simp at hl
      obtain ⟨m, x, rfl⟩ : ∃ m x, l = m ++ [x] := ⟨l.dropLast, l.getLast hne, (List.dropLast_concat_getLast hne).symm⟩
      have IH := ih m (by simpa using hl)
      rw [tr_snoc]
      by_cases hx : x = 32
      · rw [if_pos hx, List.take_append_of_le_length (tr_length m)]; exact IH
      · rw [if_neg hx, List.take_of_length_le (Nat.le_refl _)]
  exact key l.length l rfl
theorem tr_last (l : List UInt8) (x : UInt8) (h : (tr l)[(tr l).length - 1]? = some x) : x ≠ 32 := by
  have key : ∀ (n : Nat) (l : List UInt8), l.length = n → (tr l)[(tr l).length - 1]? = some x → x ≠ 32 := by
    intro n
    induction n with
    | zero => intro l hl h; rw [List.eq_nil_of_length_eq_zero hl] at h; cases h
    | succ n ih =>
      intro l hl h
      have hne : l ≠ [] := by intro h; rw [h] at hl; simp at hl
      obtain ⟨m, y, rfl⟩ : ∃ m x, l = m ++ [x] := ⟨l.dropLast, l.getLast hne, (List.dropLast_concat_getLast hne).symm⟩
      rw [tr_snoc] at h
      by_cases hy : y = 32
      · rw [if_pos hy] at h; exact ih m (by simpa using hl) h
      · rw [if_neg hy] at h
        simp at h
        rw [← h]; exact hy
  exact key l.length l rfl h
/-- Where the blanks ahead end: the trimmed text is a piece of it from there on. -/
theorem tm_at (s : ByteArray) (k : Nat) (hk : k ≤ s.size) (ht : tl (bl s) = tl ((bl s).drop k)) (hx : ∀ h : k < s.size, (s[k]'h) ≠ 32) :
    (ofB (tm (bl s))).size + k ≤ s.size ∧ s.extract k (k + (ofB (tm (bl s))).size) = ofB (tm (bl s)) ∧
    (∀ h : 0 < (ofB (tm (bl s))).size, ((ofB (tm (bl s)))[0]'h) ≠ 32) ∧ (∀ h : (ofB (tm (bl s))).size - 1 < (ofB (tm (bl s))).size, ((ofB (tm (bl s)))[(ofB (tm (bl s))).size - 1]'h) ≠ 32) := by
  have h1 : tl ((bl s).drop k) = (bl s).drop k := by
    by_cases h : k < s.size
    · have hl : k < (bl s).length := by rw [bl_len]; exact h
      rw [List.drop_eq_getElem_cons hl]
      unfold tl
      rw [List.dropWhile_cons_of_neg (p := (· == 32))]
      have := hx h
      rw [← bl_get s k h] at this
      simpa using this
    · rw [List.drop_of_length_le (by rw [bl_len]; omega)]; rfl
  have h2 : tm (bl s) = tr ((bl s).drop k) := by unfold tm; rw [tl_tr, ht, h1]
  have hsz : (ofB (tm (bl s))).size = (tr ((bl s).drop k)).length := by rw [ofB_size, h2]
  have hle : (tr ((bl s).drop k)).length + k ≤ s.size := by
    have := tr_length ((bl s).drop k)
    rw [List.length_drop, bl_len] at this
    omega
  refine ⟨by rw [hsz]; exact hle, ?_, fun h => ?_, fun h => ?_⟩
  · apply bl_inj
    rw [bl_extract, bl_ofB, hsz, show k + (tr ((bl s).drop k)).length - k = (tr ((bl s).drop k)).length by omega, ← tr_pre, h2]
  · have h3 : 0 < (bl (ofB (tm (bl s)))).length := by rw [bl_len]; exact h
    have h4 := bl_get (ofB (tm (bl s))) 0 h
    rw [← h4]
    have h5 : (bl (ofB (tm (bl s))))[0]? = ((bl s).drop k)[0]? := by
      rw [bl_ofB, h2, tr_pre ((bl s).drop k), List.getElem?_take, if_pos (by rw [← hsz]; exact h)]
    rw [List.getElem?_eq_getElem h3, List.getElem?_drop] at h5
    have hks : k < s.size := by omega
    have h6 : (bl s)[k + 0]? = some s[k] := by rw [← bl_get s k hks]; exact List.getElem?_eq_getElem _
    rw [h6] at h5
    injection h5 with h5
    rw [h5]
    exact hx hks
  · have h4 := bl_get (ofB (tm (bl s))) ((ofB (tm (bl s))).size - 1) h
    rw [← h4]
    refine tr_last ((bl s).drop k) _ ?_
    rw [← List.getElem?_eq_getElem, bl_ofB, hsz, h2]
theorem low_at (s : ByteArray) (i : Nat) (h : i < s.size) (h2 : i < (ofB (low (bl s))).size) : (ofB (low (bl s)))[i]'h2 = lowB (s[i]'h) := by
  have e1 := bl_get (ofB (low (bl s))) i h2
  rw [← e1, ← bl_get s i h]
  simp only [bl_ofB]
  simp [low]

theorem toList_nil (b : ByteArray) (h : b.size = 0) : b.toList = [] := by rw [ByteArray.toList_eq]; exact List.eq_nil_of_length_eq_zero h
theorem tm_at' (s b : ByteArray) (hb : b = ofB (tm (bl s))) (k : Nat) (hk : k ≤ s.size) (ht : tl (bl s) = tl ((bl s).drop k)) (hx : ∀ h : k < s.size, (s[k]'h) ≠ 32) :
    b.size + k ≤ s.size ∧ s.extract k (k + b.size) = b ∧ (∀ h : 0 < b.size, (b[0]'h) ≠ 32) ∧ (∀ h : b.size - 1 < b.size, (b[b.size - 1]'h) ≠ 32) := by
  subst hb; exact tm_at s k hk ht hx
theorem low_at' (s a : ByteArray) (ha : a = ofB (low (bl s))) (i : Nat) (h : i < s.size) (h2 : i < a.size) : a[i]'h2 = lowB (s[i]'h) := by
  subst ha; exact low_at s i h h2
set_option maxRecDepth 100000 in
set_option maxHeartbeats 1000000 in
theorem schemaBytes_walk (s : ByteArray) (w : World) :
    Calls Tryd.prog 5 #[.string s] w fun e w' => e = .returned (.bool true) ∧ w.grownBy w' none := by
  have HK := fun w => Lib.hid (known_any w)
  by_cases hs : s.size ≤ 300
  · have h1 : ¬ (300 : Int) < (s.size : Int) := by omega
    have hss : s.size ≤ maxLen := by unfold maxLen; omega
    have e1 : upS s 1 2 = ofB (low (bl s)) := by rw [upS_ok s (by decide) (by decide) (by decide)]; simp [upL]
    have e2 : upS s 2 3 = ofB (tm (bl s)) := by rw [upS_ok s (by decide) (by decide) (by decide)]; simp [upL]
    have U1 := fun w => up_any s 1 2 hss w
    have U2 := fun w => up_any s 2 3 hss w
    have hsa : (ofB (low (bl s))).size = s.size := by rw [ofB_size, low_len, bl_len]
    have hsb : (ofB (tm (bl s))).size ≤ s.size := by rw [ofB_size]; have := tm_length (bl s); rw [bl_len] at this; exact this
    rw [e1, chk_ok (by decide) (by decide) (by decide)] at U1
    rw [e2, chk_ok (by decide) (by decide) (by decide)] at U2
    obtain ⟨a, ha⟩ : ∃ a, a = ofB (low (bl s)) := ⟨_, rfl⟩
    obtain ⟨b, hb⟩ : ∃ b, b = ofB (tm (bl s)) := ⟨_, rfl⟩
    rw [← ha] at U1 hsa
    rw [← hb] at U2 hsb
    have TM := fun k h1 h2 h3 => Lib.hid (tm_at' s b hb k h1 h2 h3)
    have LA := fun i h h2 => Lib.hid (low_at' s a ha i h h2)
    have q1 : ((a.size : Int) != (s.size : Int)) = false := by rw [hsa]; simp
    have q2 : ¬ (s.size : Int) < (b.size : Int) := by omega
    have q3 : (a.size : Int) = (s.size : Int) := by omega
    have q4 : decide (s.size < b.size) = false := by rw [decide_eq_false_iff_not]; omega
    have q5 : ¬ s.size < b.size := by omega
    have U1 := fun w => Lib.hid (U1 w)
    have U2 := fun w => Lib.hid (U2 w)
    have HSA := Lib.hid hsa
    clear e1 e2 ha hb hss hsa
    go_enter Tryd.func5, Tryd.ntmps5
    go_wp2_with fail
    refine (HK _).out.mono ?_
    rintro _ w1 ⟨rfl, g1⟩
    go_wp2_with fail
    refine (U1 _).out.mono ?_
    rintro _ w2 ⟨rfl, g2⟩
    go_wp2_with fail
    refine (U2 _).out.mono ?_
    rintro _ w3 ⟨rfl, g3⟩
    have G0 : w.grownBy w3 none := only_step (only_step g1 g2 (fun _ h => by cases h)) g3 (fun _ h => by cases h)
    clear g1 g2 g3
    go_wp2_with fail
    go_loopw [7] (fun si wr => ∃ i : Nat, i ≤ s.size ∧ si = .int .i64 i ∧ w.grownBy wr none) (fun si _ => s.size - (intOf si).toNat)
    case atStart => exact ⟨0, Nat.zero_le _, rfl, G0⟩
    case round =>
      obtain ⟨i, hi, rfl, hG⟩ := hrel
      clear G0
      by_cases hlt : i < s.size
      · have hi0 : (0 : Int) ≤ (i : Int) := by omega
        have hi1 : (i : Int) < (s.size : Int) := by omega
        have hi2 : (i : Int) < (a.size : Int) := by omega
        have hlta : i < a.size := by omega
        have hes : IntKind.i64.wrap ((i : Int) + 1) = (i : Int) + 1 := by rw [IntKind.wrap_i64]; omega
        have hla := LA i hlt hlta
        obtain ⟨x0, hx0⟩ : ∃ x0, s[i]'hlt = x0 := ⟨_, rfl⟩
        obtain ⟨y0, hy0⟩ : ∃ y0, a[i]'hlta = y0 := ⟨_, rfl⟩
        have hla : Hid (y0 = lowB x0) := by have h := hla.out; rw [hx0, hy0] at h; exact h
        have hc := x0.toNat_lt
        by_cases h65 : 65 ≤ x0.toNat
        · have r1 : (65 : Int) ≤ (x0.toNat : Int) := by omega
          by_cases h90 : x0.toNat ≤ 90
          · have r2 : (x0.toNat : Int) ≤ 90 := by omega
            have hw : IntKind.u8.wrap ((x0.toNat : Int) + 32) = (x0.toNat : Int) + 32 := by
              have := IntKind.wrap_u8 ((x0.toNat : Int) + 32)
              rw [this]; omega
            have hy : (y0.toNat : Int) = (x0.toNat : Int) + 32 := by
              rw [hla.out]
              unfold lowB
              rw [if_pos ⟨h65, h90⟩, UInt8.toNat_add]
              simp; omega
            clear hc
            go_wp2_with fail
            go_quiet (fail)
            go_wp2_with fail
            go_roundw
            case rel => first | exact ⟨i + 1, by omega, by go_num, ⟨hG.os, hG.tape, hG.output, hG.size, hG.block⟩⟩ | ((repeat apply Exists.intro); exact ⟨⟨i + 1, by omega, by go_num, ⟨hG.os, hG.tape, hG.output, hG.size, hG.block⟩⟩, rfl⟩)
            case measure => simp [intOf]; omega
          · have r2 : ¬ (x0.toNat : Int) ≤ 90 := by omega
            have hy : y0 = x0 := by rw [hla.out]; unfold lowB; rw [if_neg (by omega)]
            subst hy
            clear hc
            go_wp2_with fail
            go_quiet (fail)
            go_wp2_with fail
            go_roundw
            case rel => first | exact ⟨i + 1, by omega, by go_num, ⟨hG.os, hG.tape, hG.output, hG.size, hG.block⟩⟩ | ((repeat apply Exists.intro); exact ⟨⟨i + 1, by omega, by go_num, ⟨hG.os, hG.tape, hG.output, hG.size, hG.block⟩⟩, rfl⟩)
            case measure => simp [intOf]; omega
        · have r1 : ¬ (65 : Int) ≤ (x0.toNat : Int) := by omega
          have hy : y0 = x0 := by rw [hla.out]; unfold lowB; rw [if_neg (by omega)]
          subst hy
          clear hc
          go_wp2_with fail
          go_quiet (fail)
          go_wp2_with fail
          go_roundw
          case rel => first | exact ⟨i + 1, by omega, by go_num, ⟨hG.os, hG.tape, hG.output, hG.size, hG.block⟩⟩ | ((repeat apply Exists.intro); exact ⟨⟨i + 1, by omega, by go_num, ⟨hG.os, hG.tape, hG.output, hG.size, hG.block⟩⟩, rfl⟩)
          case measure => simp [intOf]; omega
      · have hi1 : ¬ (i : Int) < (s.size : Int) := by omega
        have hG8 := hG
        clear hG
        go_wp2_with fail
        go_loopw [9] (fun sk wx => ∃ k : Nat, k ≤ s.size ∧ sk = .int .i64 k ∧ Hid (tl (bl s) = tl ((bl s).drop k)) ∧ w.grownBy wx none) (fun sk _ => s.size - (intOf sk).toNat)
        case atStart => exact ⟨0, Nat.zero_le _, rfl, rfl, hG8⟩
        case round =>
          clear hG8
          obtain ⟨k, hk, rfl, HT, hG⟩ := hrel
          have fin : ∀ hx : (∀ h : k < s.size, (s[k]'h) ≠ 32), True := fun _ => trivial
          clear fin
          by_cases hkl : k < s.size
          · have hk0 : (0 : Int) ≤ (k : Int) := by omega
            have hk1 : (k : Int) < (s.size : Int) := by omega
            by_cases hb : s[k]'hkl = 32
            · have hes : IntKind.i64.wrap ((k : Int) + 1) = (k : Int) + 1 := by rw [IntKind.wrap_i64]; omega
              have hb2 : (((s[k]'hkl).toNat : Int) == 32) = true := by rw [hb]; rfl
              have HT2 : Hid (tl (bl s) = tl ((bl s).drop (k + 1))) := by
                unfold Hid
                rw [HT.out]
                have hl : k < (bl s).length := by rw [bl_len]; exact hkl
                rw [List.drop_eq_getElem_cons hl, bl_get s k hkl, hb]
                unfold tl
                rw [List.dropWhile_cons_of_pos (p := (· == 32)) rfl]
              clear hb
              go_wp2_with fail
              go_roundw
              case rel => exact ⟨k + 1, by omega, by go_num, HT2, hG⟩
              case measure => simp [intOf]; omega
            · have hb2 : (((s[k]'hkl).toNat : Int) == 32) = false := by rw [is_32]; simpa using hb
              have T := TM k hk HT.out (fun _ => hb)
              have f0 : b.size + k ≤ s.size := T.out.1
              have fe : s.extract k (k + b.size) = b := T.out.2.1
              have fw : IntKind.i64.wrap ((k : Int) + (b.size : Int)) = (k : Int) + (b.size : Int) := by rw [IntKind.wrap_i64]; omega
              have f1 : (k : Int) + (b.size : Int) ≤ (s.size : Int) := by omega
              have f2 : (0 : Int) ≤ (k : Int) := by omega
              have f3 : (k : Int) ≤ (k : Int) + (b.size : Int) := by omega
              have f4 : (0 : Int) ≤ (k : Int) + (b.size : Int) := by omega
              have f5 : ((k : Int) + (b.size : Int)).toNat = k + b.size := by omega
              by_cases hbz : b.size = 0
              · have z1 : ((b.size : Int) == 0) = true := by rw [hbz]; rfl
                have z0 : b.toList = [] := toList_nil b hbz
                go_wp2_with fail
                go_ret
                exact ⟨rfl, hG⟩
              · have z1 : ((b.size : Int) == 0) = false := by rw [beq_eq_false_iff_ne]; omega
                have z2 : 0 < b.size := by omega
                have z3 : b.size - 1 < b.size := by omega
                have y1 : (((b[0]'z2).toNat : Int) == 32) = false := by rw [is_32]; simpa using T.out.2.2.1 z2
                have y2 : (((b[b.size - 1]'z3).toNat : Int) == 32) = false := by rw [is_32]; simpa using T.out.2.2.2 z3
                have y3 : (((b[0]'z2).toNat : Int) != 32) = true := by simp only [bne, y1]; rfl
                have y4 : (((b[b.size - 1]'z3).toNat : Int) != 32) = true := by simp only [bne, y2]; rfl
                have v1 : (0 : Int) < (b.size : Int) := by omega
                have v2 : IntKind.i64.wrap ((b.size : Int) - 1) = (b.size : Int) - 1 := by rw [IntKind.wrap_i64]; omega
                have v3 : (0 : Int) ≤ (b.size : Int) - 1 := by omega
                have v4 : (b.size : Int) - 1 < (b.size : Int) := by omega
                clear T
                go_wp2_with fail
                go_ret
                exact ⟨rfl, hG⟩
          · have hk1 : ¬ (k : Int) < (s.size : Int) := by omega
            have T := TM k hk HT.out (fun h => absurd h hkl)
            have f0 : b.size + k ≤ s.size := T.out.1
            have fe : s.extract k (k + b.size) = b := T.out.2.1
            have fw : IntKind.i64.wrap ((k : Int) + (b.size : Int)) = (k : Int) + (b.size : Int) := by rw [IntKind.wrap_i64]; omega
            have f1 : (k : Int) + (b.size : Int) ≤ (s.size : Int) := by omega
            have f2 : (0 : Int) ≤ (k : Int) := by omega
            have f3 : (k : Int) ≤ (k : Int) + (b.size : Int) := by omega
            have f4 : (0 : Int) ≤ (k : Int) + (b.size : Int) := by omega
            have f5 : ((k : Int) + (b.size : Int)).toNat = k + b.size := by omega
            by_cases hbz : b.size = 0
            · have z1 : ((b.size : Int) == 0) = true := by rw [hbz]; rfl
              have z0 : b.toList = [] := toList_nil b hbz
              go_wp2_with fail
              go_ret
              exact ⟨rfl, hG⟩
            · exfalso; omega
  · have h1 : (300 : Int) < (s.size : Int) := by omega
    go_enter Tryd.func5, Tryd.ntmps5
    go_wp2_with fail
    refine (HK _).out.mono ?_
    rintro _ w1 ⟨rfl, g1⟩
    go_wp2_with fail
    go_ret
    exact ⟨rfl, g1⟩
end Go.Proofs.YtjgbflgeicejeaaDoor
