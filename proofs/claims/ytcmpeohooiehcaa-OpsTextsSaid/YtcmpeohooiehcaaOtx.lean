/- The walk of OpsTexts: it returns true for every input. No condition. -/
import Derived.Test.YtcmpeohooiehcaaOwi
import Derived.Test.YtcmpeohooiehcaaApp
namespace Go.Proofs.Ytcmpeohooiehcaa
open Go.RowKit Go.Deep Go.ChangeShapes

def xs (i m : Nat) : List Int := List.replicate i 120 ++ List.replicate (m - i) 0
theorem xs_len {i m : Nat} (h : i ≤ m) : (xs i m).length = m := by simp [xs]; omega
theorem xs_end (m : Nat) : xs m m = List.replicate m 120 := by simp [xs]
theorem xs_zero (m : Nat) : xs 0 m = List.replicate m 0 := by simp [xs]
theorem xs_at {i m j : Nat} (hj : j < m) : (xs i m)[j]? = some (if j < i then 120 else 0) := by
  unfold xs
  by_cases h : j < i
  · rw [if_pos h, List.getElem?_append_left (by simpa using h)]; simp [h]
  · rw [if_neg h, List.getElem?_append_right (by simpa using h), List.getElem?_replicate, List.length_replicate, if_pos (by omega)]
theorem xs_set {i m : Nat} (h : i < m) : (xs i m).set i 120 = xs (i + 1) m := by
  apply List.ext_getElem?
  intro j
  by_cases hj : j < m
  · rw [List.getElem?_set, xs_len (by omega), xs_at hj, xs_at hj]
    by_cases e : i = j
    · subst e; simp [h]
    · rw [if_neg e]
      by_cases h1 : j < i
      · rw [if_pos h1, if_pos (by omega)]
      · rw [if_neg h1, if_neg (by omega)]
  · rw [List.getElem?_eq_none (by rw [List.length_set, xs_len (by omega)]; omega), List.getElem?_eq_none (by rw [xs_len (by omega)]; omega)]
theorem str_at (l : List Int) (i : Nat) (h : i < (strOfNums l).size) : ((strOfNums l)[i]'h).toNat = (l[i]'(by rw [← strOfNums_size]; exact h)).toNat % 256 := by
  show ((strOfNums l).data[i]'h).toNat = _
  simp [strOfNums]
theorem tok_iff (l : List Int) (hb : ∀ x ∈ l, 0 ≤ x ∧ x ≤ 255) : textOk (strOfNums l) ↔ l.length ≤ 40 ∧ ∀ x ∈ l, 32 ≤ x ∧ x ≠ 127 := by
  have e := strOfNums_size l
  constructor
  · rintro ⟨h1, h2⟩
    refine ⟨by omega, fun x hx => ?_⟩
    obtain ⟨i, hi, rfl⟩ := List.getElem_of_mem hx
    have := h2 i (by omega)
    rw [str_at l i (by rw [strOfNums_size]; exact hi)] at this
    have := hb _ hx
    omega
  · rintro ⟨h1, h2⟩
    refine ⟨by omega, fun i hi => ?_⟩
    have hi' : i < l.length := by omega
    have h3 := h2 _ (List.getElem_mem hi')
    have h4 := hb _ (List.getElem_mem hi')
    rw [str_at l i hi]
    omega
theorem tok_set (m k : Nat) (b : Int) (hk : k < m) (h1 : 0 ≤ b) (h2 : b ≤ 255) : textOk (strOfNums ((List.replicate m 120).set k b)) ↔ m ≤ 40 ∧ 32 ≤ b ∧ b ≠ 127 := by
  have hmem : ∀ x ∈ (List.replicate m (120 : Int)).set k b, x = 120 ∨ x = b := fun x hx => by
    rcases List.mem_or_eq_of_mem_set hx with h | h
    · exact .inl (List.eq_of_mem_replicate h)
    · exact .inr h
  rw [tok_iff _ (fun x hx => by rcases hmem x hx with rfl | rfl <;> omega), List.length_set, List.length_replicate]
  constructor
  · rintro ⟨h3, h4⟩
    exact ⟨h3, h4 b (List.mem_iff_getElem?.2 ⟨k, by rw [List.getElem?_set, if_pos rfl, if_pos (by simpa using hk)]⟩)⟩
  · rintro ⟨h3, h4⟩
    exact ⟨h3, fun x hx => by rcases hmem x hx with rfl | rfl; · omega
                              · exact h4⟩
theorem tok_nil : textOk (strOfNums []) := ⟨by decide, fun i h => absurd h (by rw [strOfNums_size]; simp)⟩
theorem tok_k : textOk { data := #[107] } := ⟨by decide, fun i h => by
  have : i = 0 := by simp [ByteArray.size] at h; omega
  subst this; exact (by decide : 32 ≤ (107 : UInt8).toNat ∧ (107 : UInt8).toNat ≠ 127)⟩
theorem tok_0 : textOk { data := #[] } := ⟨by decide, fun i h => by simp [ByteArray.size] at h⟩
theorem cp_text (t : ByteArray) : checkP 0 1 1 0 1 1 0 0 { data := #[107] } t = if textOk t then 0 else 5 := by
  unfold checkP
  rw [if_neg (by decide), if_neg (by decide), if_neg (by decide), if_neg (by decide), if_neg (by decide), if_neg (by decide), if_neg (by decide), if_neg (fun h => h tok_k)]
  by_cases h : textOk t
  · rw [if_neg (fun h1 => h1 h), if_pos h]; rfl
  · rw [if_pos h, if_neg h]
theorem cp_key (t : ByteArray) : checkP 0 1 1 0 1 1 0 0 t { data := #[] } = if textOk t then (if t.size = 0 then 1 else 0) else 5 := by
  unfold checkP
  rw [if_neg (by decide), if_neg (by decide), if_neg (by decide), if_neg (by decide), if_neg (by decide), if_neg (by decide), if_neg (by decide)]
  by_cases h : textOk t
  · rw [if_neg (fun h1 => h1 h), if_pos h, if_neg (fun h => h tok_0)]; unfold kindP; rw [if_neg (by decide)]
    by_cases h0 : t.size = 0
    · rw [if_pos h0, if_pos h0]
    · rw [if_neg h0, if_neg h0, if_neg (by decide)]
  · rw [if_pos h, if_neg h]

def Row (w : World) (B : Nat) (l : List Int) : Prop := ∀ j (x : Int), l[j]? = some x → w.cell? ⟨B, j, none⟩ = some (.int .u8 x) ∧ w.frozen? ⟨B, j, none⟩ = false
theorem Row.has {w : World} {B : Nat} {l : List Int} (h : Row w B l) (hB : B < w.heap.size) : Has w w.heap.size (some ⟨B, 0, none⟩) (bs l) := by
  refine .inr ⟨B, 0, rfl, hB, fun j u hu => ?_⟩
  simp only [bs, List.getElem?_map, Option.map_eq_some_iff] at hu
  obtain ⟨x, hx, rfl⟩ := hu
  rw [Nat.zero_add]; exact (h j x hx).1
theorem Row.set {w : World} {B i : Nat} {l : List Int} (h : Row w B l) (hi : i < l.length) (b : Int) : Row (w.setCell ⟨B, i, none⟩ (.int .u8 b)) B (l.set i b) := fun j x hx => by
  rw [List.getElem?_set] at hx
  by_cases e : i = j
  · subst e
    rw [if_pos rfl, if_pos hi] at hx
    injection hx with hx
    subst hx
    have h0 := h i l[i] (List.getElem?_eq_getElem hi)
    exact ⟨World.cell?_setCell_same' _ _ _ (by rw [h0.1]; rfl), (World.frozen?_setCell _ _ _ _).trans h0.2⟩
  · rw [if_neg e] at hx
    have h0 := h j x hx
    exact ⟨(World.cell?_setCell_other _ _ _ _ (by simp)).trans h0.1, (World.frozen?_setCell _ _ _ _).trans h0.2⟩
theorem size_set (w : World) (p : Addr) (u : Value) : (w.setCell p u).heap.size = w.heap.size := World.size_setCell w p u
set_option maxRecDepth 100000 in
set_option maxHeartbeats 8000000 in
theorem opsTexts_walk (n b k : Int) (key : Bool) (w : World) (n1 : -9223372036854775808 ≤ n) (n2 : n ≤ 9223372036854775807) (b1 : 0 ≤ b) (b2 : b ≤ 255) (k1 : -9223372036854775808 ≤ k) (k2 : k ≤ 9223372036854775807) :
    Calls Try.prog 7 #[.int .i64 n, .int .u8 b, .int .i64 k, .bool key] w fun e w' => e = .returned (.bool true) ∧ w.grownBy w' none := by
  have hm1 := Int.emod_nonneg n (show (44 : Int) ≠ 0 by omega)
  have hm2 := Int.emod_lt_of_pos n (show (0 : Int) < 44 by omega)
  obtain ⟨m, hm⟩ : ∃ m : Nat, n % 44 = m := ⟨(n % 44).toNat, by omega⟩
  have hm3 : m < 44 := by omega
  have HW : ∀ W, Hid (Calls Try.prog 15 #[.int .i64 n, .int .i64 44] W fun e w' => e = .returned (.int .i64 m) ∧ W = w') := fun W => by rw [← hm]; exact within_any n 44 n1 n2 (by omega) (by omega) W
  clear hm hm1 hm2
  go_enter Try.func7, Try.ntmps7
  go_wp2_with fail
  refine (known_any _).mono ?_
  rintro _ w1 ⟨rfl, g1⟩
  go_wp2_with fail
  refine (HW _).out.mono ?_
  rintro _ w2 ⟨rfl, rfl⟩
  have hmk := run_make_wide (P := Try.prog) w1 35 5 (.int .u8 0) 1 1 Try.underlying35 Try.info_u8 .i64 .i64 m (by omega) (by unfold maxLen; omega)
  obtain ⟨row, hrow⟩ : ∃ row, row = madeCells (Value.int .u8 0).cells (m * 1) := ⟨_, rfl⟩
  have HR : Hid (Row (w1.alloc (.cells row 5)) w1.heap.size (xs 0 m)) := fun j x hx => by
    rw [xs_zero] at hx
    obtain ⟨hj, e⟩ := List.getElem?_eq_some_iff.1 hx
    have hj' : j < m := by simpa using hj
    obtain rfl : x = 0 := by rw [← e]; simp
    have hsz : row.size = m := by rw [hrow, size_madeCells]; simp
    constructor
    · unfold World.cell?; rw [heap_alloc_new]
      show row[j]? = _
      rw [hrow, Nat.mul_one, ← Array.getElem?_toList, show (Value.int .u8 0).cells = #[Value.int .u8 0] from rfl, toList_madeCells_one]
      simp [hj']
    · unfold World.frozen?; rw [heap_alloc_new]; simp
  rw [← hrow] at hmk
  clear hrow
  go_wp2_with fail
  go_loopw [10] (fun si wr => ∃ i : Nat, i ≤ m ∧ si = .int .i64 i ∧ Hid (Row wr w1.heap.size (xs i m)) ∧ w1.heap.size < wr.heap.size ∧ Hid (w1.grownBy wr none)) (fun si _ => m - (intOf si).toNat)
  case atStart => exact ⟨0, Nat.zero_le _, rfl, HR, (by show _ < (w1.heap.push _).size; rw [Array.size_push]; omega), World.grownBy_alloc _ _ none⟩
  case round =>
    clear hmk HR
    obtain ⟨i, hi, rfl, HC, hsz, hG⟩ := hrel
    by_cases hlt : i < m
    · have u1 : (i : Int) < (m : Int) := by omega
      have u0 : (0 : Int) ≤ (i : Int) := by omega
      have hes : IntKind.i64.wrap ((i : Int) + 1) = (i : Int) + 1 := by rw [IntKind.wrap_i64]; omega
      have c0 := HC.out i _ (xs_at hlt)
      rw [if_neg (by omega)] at c0
      have c1 := c0.1
      have c2 := c0.2
      have HN : Hid (Row (wr.setCell ⟨w1.heap.size, i, none⟩ (.int .u8 120)) w1.heap.size (xs (i + 1) m)) := by
        rw [← xs_set hlt]; exact HC.out.set (by rw [xs_len hi]; exact hlt) 120
      clear c0 HC
      go_wp2_with fail
      refine ⟨⟨i + 1, by omega, by go_num, HN, by rw [size_set]; exact hsz, only_set hG.out (.inr (Nat.le_refl _)) _⟩, ?_⟩
      simp [intOf]; omega
    · have u1 : ¬ (i : Int) < (m : Int) := by omega
      obtain rfl : i = m := by omega
      rw [xs_end] at HC
      have hGF : Hid (w.grownBy wr none) := only_step g1 hG.out (fun _ h => by cases h)
      rcases Nat.eq_zero_or_pos i with rfl | hpos
      · have v1 : ¬ (0 : Int) < ((0 : Nat) : Int) := by omega
        have hcv : (convert 35 9 (.slice (some ⟨w1.heap.size, 0, none⟩) 0 0)).run Try.prog wr = .ok (.string (strOfNums [])) wr := conv_string (HC.out.has hsz) 0
        obtain ⟨t, ht⟩ : ∃ t, t = strOfNums [] := ⟨_, rfl⟩
        have HT : Hid (textOk t) := by rw [ht]; exact tok_nil
        have HS : Hid (t.size = 0) := by rw [ht, strOfNums_size]; rfl
        have hcv2 : ∀ o, (convert 35 9 (.slice (some ⟨w1.heap.size, 0, none⟩) 0 0)).run Try.prog (wr.alloc o) = .ok (.string t) (wr.alloc o) := fun o => by rw [ht]; exact conv_string (((HC.out.has hsz).only (World.grownBy_alloc wr o none) (Nat.le_refl _) (fun _ h => by cases h)).more (World.grownBy_alloc wr o none).size) 0
        rw [← ht] at hcv
        clear hG u1 ht HC
        cases key
        · go_wp2_with fail
          refine (check_any _ _ _ _ _ 1 _ _ _ _ _ _ _ (by decide) _).mono ?_
          rintro _ w3 ⟨rfl, g3⟩
          rw [cp_text, if_pos HT.out]
          go_wp2_with fail
          go_ret
          exact ⟨rfl, only_step hGF.out (only_step (World.grownBy_alloc _ _ none) g3 (fun _ h => by cases h)) (fun _ h => by cases h)⟩
        · go_wp2_with fail
          refine (check_any _ _ _ _ _ 1 _ _ _ _ _ _ _ (by decide) _).mono ?_
          rintro _ w3 ⟨rfl, g3⟩
          rw [cp_key, if_pos HT.out, if_pos HS.out]
          go_wp2_with fail
          go_ret
          exact ⟨rfl, only_step hGF.out (only_step (World.grownBy_alloc _ _ none) g3 (fun _ h => by cases h)) (fun _ h => by cases h)⟩
      · have v1 : (0 : Int) < (i : Int) := by omega
        have e1 := Int.emod_nonneg k (show (i : Int) ≠ 0 by omega)
        have e2 := Int.emod_lt_of_pos k (show (0 : Int) < (i : Int) by omega)
        obtain ⟨q, hq⟩ : ∃ q : Nat, k % (i : Int) = q := ⟨(k % (i : Int)).toNat, by omega⟩
        have hqi : q < i := by omega
        have HQ : ∀ W, Hid (Calls Try.prog 15 #[.int .i64 k, .int .i64 i] W fun e w' => e = .returned (.int .i64 q) ∧ W = w') := fun W => by rw [← hq]; exact within_any k i k1 k2 (by omega) (by omega) W
        have HN : Hid (Row (wr.setCell ⟨w1.heap.size, q, none⟩ (.int .u8 b)) w1.heap.size ((List.replicate i 120).set q b)) := HC.out.set (by simpa using hqi) b
        have hsz' : w1.heap.size < (wr.setCell ⟨w1.heap.size, q, none⟩ (.int .u8 b)).heap.size := by rw [size_set]; exact hsz
        have hcv : (convert 35 9 (.slice (some ⟨w1.heap.size, 0, none⟩) i i)).run Try.prog (wr.setCell ⟨w1.heap.size, q, none⟩ (.int .u8 b)) = .ok (.string (strOfNums ((List.replicate i 120).set q b))) (wr.setCell ⟨w1.heap.size, q, none⟩ (.int .u8 b)) := by
          have := conv_string (HN.out.has hsz') i
          rw [List.length_set, List.length_replicate] at this
          exact this
        have hcv2 : ∀ o, (convert 35 9 (.slice (some ⟨w1.heap.size, 0, none⟩) i i)).run Try.prog ((wr.setCell ⟨w1.heap.size, q, none⟩ (.int .u8 b)).alloc o) = .ok (.string (strOfNums ((List.replicate i 120).set q b))) ((wr.setCell ⟨w1.heap.size, q, none⟩ (.int .u8 b)).alloc o) := fun o => by
          have := conv_string (((HN.out.has hsz').only (World.grownBy_alloc _ o none) (Nat.le_refl _) (fun _ h => by cases h)).more (World.grownBy_alloc _ o none).size) i
          rw [List.length_set, List.length_replicate] at this
          exact this
        have hGF' : Hid (w.grownBy (wr.setCell ⟨w1.heap.size, q, none⟩ (.int .u8 b)) none) := only_set hGF.out (.inr g1.size) _
        have hGF := hGF'
        have HS := Lib.hid (show (strOfNums ((List.replicate i 120).set q b)).size ≠ 0 by rw [strOfNums_size, List.length_set, List.length_replicate]; omega)
        have HT := Lib.hid (tok_set i q b hqi b1 b2)
        obtain ⟨cs, hcs⟩ : ∃ cs, cs = HC.out q 120 (by simp [hqi]) := ⟨_, rfl⟩
        have c1 := cs.1
        have c2 := cs.2
        have q0 : (0 : Int) ≤ (q : Int) := by omega
        have q1 : (q : Int) < (i : Int) := by omega
        have i0 : ((i : Int) == 0) = false := by rw [beq_eq_false_iff_ne]; omega
        obtain ⟨t, ht⟩ : ∃ t, t = strOfNums ((List.replicate i 120).set q b) := ⟨_, rfl⟩
        rw [← ht] at hcv hcv2 HS HT
        clear ht hcs cs hq e1 e2 hGF' HN HC hG u1
        by_cases hi40 : i ≤ 40
        · have x1 : (i : Int) ≤ 40 := by omega
          by_cases hb32 : 32 ≤ b
          · by_cases hb7 : b = 127
            · have x2 : (b != 127) = false := by simp [hb7]
              have hT : ¬ textOk t := fun h => (HT.out.1 h).2.2 hb7
              have HT' := Lib.hid hT
              clear hb7
              cases key
              · go_wp2_with fail
                refine (HQ _).out.mono ?_
                rintro _ w4 ⟨rfl, rfl⟩
                go_wp2_with fail
                refine (check_any _ _ _ _ _ 1 _ _ _ _ _ _ _ (by decide) _).mono ?_
                rintro _ w3 ⟨rfl, g3⟩
                rw [cp_text, if_neg hT]
                go_wp2_with fail
                go_ret
                exact ⟨rfl, only_step hGF.out (only_step (World.grownBy_alloc _ _ none) g3 (fun _ h => by cases h)) (fun _ h => by cases h)⟩
              · go_wp2_with fail
                refine (HQ _).out.mono ?_
                rintro _ w4 ⟨rfl, rfl⟩
                go_wp2_with fail
                refine (check_any _ _ _ _ _ 1 _ _ _ _ _ _ _ (by decide) _).mono ?_
                rintro _ w3 ⟨rfl, g3⟩
                rw [cp_key, if_neg hT]
                go_wp2_with fail
                go_ret
                exact ⟨rfl, only_step hGF.out (only_step (World.grownBy_alloc _ _ none) g3 (fun _ h => by cases h)) (fun _ h => by cases h)⟩
            · have x2 : (b != 127) = true := by simp [hb7]
              have hT : textOk t := HT.out.2 ⟨hi40, hb32, hb7⟩
              cases key
              · go_wp2_with fail
                refine (HQ _).out.mono ?_
                rintro _ w4 ⟨rfl, rfl⟩
                go_wp2_with fail
                refine (check_any _ _ _ _ _ 1 _ _ _ _ _ _ _ (by decide) _).mono ?_
                rintro _ w3 ⟨rfl, g3⟩
                rw [cp_text, if_pos hT]
                go_wp2_with fail
                go_ret
                exact ⟨rfl, only_step hGF.out (only_step (World.grownBy_alloc _ _ none) g3 (fun _ h => by cases h)) (fun _ h => by cases h)⟩
              · go_wp2_with fail
                refine (HQ _).out.mono ?_
                rintro _ w4 ⟨rfl, rfl⟩
                go_wp2_with fail
                refine (check_any _ _ _ _ _ 1 _ _ _ _ _ _ _ (by decide) _).mono ?_
                rintro _ w3 ⟨rfl, g3⟩
                rw [cp_key, if_pos hT, if_neg HS.out]
                go_wp2_with fail
                go_ret
                exact ⟨rfl, only_step hGF.out (only_step (World.grownBy_alloc _ _ none) g3 (fun _ h => by cases h)) (fun _ h => by cases h)⟩
          · have hT : ¬ textOk t := fun h => hb32 (HT.out.1 h).2.1
            cases key
            · go_wp2_with fail
              refine (HQ _).out.mono ?_
              rintro _ w4 ⟨rfl, rfl⟩
              go_wp2_with fail
              refine (check_any _ _ _ _ _ 1 _ _ _ _ _ _ _ (by decide) _).mono ?_
              rintro _ w3 ⟨rfl, g3⟩
              rw [cp_text, if_neg hT]
              go_wp2_with fail
              go_ret
              exact ⟨rfl, only_step hGF.out (only_step (World.grownBy_alloc _ _ none) g3 (fun _ h => by cases h)) (fun _ h => by cases h)⟩
            · go_wp2_with fail
              refine (HQ _).out.mono ?_
              rintro _ w4 ⟨rfl, rfl⟩
              go_wp2_with fail
              refine (check_any _ _ _ _ _ 1 _ _ _ _ _ _ _ (by decide) _).mono ?_
              rintro _ w3 ⟨rfl, g3⟩
              rw [cp_key, if_neg hT]
              go_wp2_with fail
              go_ret
              exact ⟨rfl, only_step hGF.out (only_step (World.grownBy_alloc _ _ none) g3 (fun _ h => by cases h)) (fun _ h => by cases h)⟩
        · have x1 : ¬ (i : Int) ≤ 40 := by omega
          have hT : ¬ textOk t := fun h => hi40 (HT.out.1 h).1
          cases key
          · go_wp2_with fail
            refine (HQ _).out.mono ?_
            rintro _ w4 ⟨rfl, rfl⟩
            go_wp2_with fail
            refine (check_any _ _ _ _ _ 1 _ _ _ _ _ _ _ (by decide) _).mono ?_
            rintro _ w3 ⟨rfl, g3⟩
            rw [cp_text, if_neg hT]
            go_wp2_with fail
            go_ret
            exact ⟨rfl, only_step hGF.out (only_step (World.grownBy_alloc _ _ none) g3 (fun _ h => by cases h)) (fun _ h => by cases h)⟩
          · go_wp2_with fail
            refine (HQ _).out.mono ?_
            rintro _ w4 ⟨rfl, rfl⟩
            go_wp2_with fail
            refine (check_any _ _ _ _ _ 1 _ _ _ _ _ _ _ (by decide) _).mono ?_
            rintro _ w3 ⟨rfl, g3⟩
            rw [cp_key, if_neg hT]
            go_wp2_with fail
            go_ret
            exact ⟨rfl, only_step hGF.out (only_step (World.grownBy_alloc _ _ none) g3 (fun _ h => by cases h)) (fun _ h => by cases h)⟩
end Go.Proofs.Ytcmpeohooiehcaa
