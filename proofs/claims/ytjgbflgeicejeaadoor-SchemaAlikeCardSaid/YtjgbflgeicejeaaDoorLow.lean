/- Contract of schema.lower: great letters become small, whatever else the bytes are. No condition beyond the size that a string has. -/
import Derived.Test.YtjgbflgeicejeaaDoorSch
import Derived.Lib.OthersKept
namespace Go.Proofs.YtjgbflgeicejeaaDoor
open Go.RowKit Go.Lib

def lowB (x : UInt8) : UInt8 := if 65 ≤ x.toNat ∧ x.toNat ≤ 90 then x + 32 else x
def low (l : List UInt8) : List UInt8 := l.map lowB
def lowTo (k : Nat) (l : List UInt8) : List UInt8 := (l.take k).map lowB ++ l.drop k
theorem lowTo_len (k : Nat) (l : List UInt8) : (lowTo k l).length = l.length := by simp [lowTo]; omega
theorem lowTo_zero (l : List UInt8) : lowTo 0 l = l := by simp [lowTo]
theorem lowTo_end (k : Nat) (l : List UInt8) (h : ¬ k < l.length) : lowTo k l = low l := by
  unfold lowTo low
  rw [List.take_of_length_le (by omega), List.drop_of_length_le (by omega), List.append_nil]
theorem lowTo_at (k : Nat) (l : List UInt8) (i : Nat) (h : i < l.length) : (lowTo k l)[i]? = some (if i < k then lowB l[i] else l[i]) := by
  unfold lowTo
  by_cases hi : i < k
  · rw [if_pos hi, List.getElem?_append_left (by simp; omega)]
    simp [hi, h]
  · rw [if_neg hi, List.getElem?_append_right (by simp; omega)]
    simp only [List.length_map, List.length_take, List.getElem?_drop]
    rw [Nat.min_eq_left (by omega), show k + (i - k) = i by omega]
    simp [h]
theorem lowTo_set (k : Nat) (l : List UInt8) (h : k < l.length) : (lowTo k l).set k (lowB l[k]) = lowTo (k + 1) l := by
  apply List.ext_getElem?
  intro i
  by_cases hi : i < l.length
  · rw [List.getElem?_set, lowTo_at _ _ _ hi, lowTo_at _ _ _ hi]
    by_cases e : k = i
    · subst e; simp [lowTo_len, h]
    · rw [if_neg e]
      by_cases h1 : i < k
      · rw [if_pos h1, if_pos (by omega)]
      · rw [if_neg h1, if_neg (by omega)]
  · rw [List.getElem?_eq_none (by rw [List.length_set, lowTo_len]; omega), List.getElem?_eq_none (by rw [lowTo_len]; omega)]
theorem lowTo_skip (k n : Nat) (l : List UInt8) (h : ∀ j, j < n → ∀ x, l[k + j]? = some x → lowB x = x) : lowTo (k + n) l = lowTo k l := by
  apply List.ext_getElem?
  intro i
  by_cases hi : i < l.length
  · rw [lowTo_at _ _ _ hi, lowTo_at _ _ _ hi]
    by_cases h1 : i < k
    · rw [if_pos h1, if_pos (by omega)]
    · rw [if_neg h1]
      by_cases h2 : i < k + n
      · rw [if_pos h2]
        have := h (i - k) (by omega) l[i] (by rw [show k + (i - k) = i by omega]; exact List.getElem?_eq_getElem hi)
        rw [this]
      · rw [if_neg h2]
  · rw [List.getElem?_eq_none (by rw [lowTo_len]; omega), List.getElem?_eq_none (by rw [lowTo_len]; omega)]
theorem lowB_high (x : UInt8) (h : 128 ≤ x.toNat) : lowB x = x := by unfold lowB; rw [if_neg (by omega)]

theorem get_near (s : ByteArray) (i : Nat) (h : i < s.size) : s.get! i = s[i] := by
  have := get_at s i h
  simpa using this
theorem cont_high (s : ByteArray) (i : Nat) (h : (decide (i < s.size) && ((s.get! i).toNat / 64 == 2)) = true) : ∀ x, (bl s)[i]? = some x → 128 ≤ x.toNat := fun x hx => by
  simp only [Bool.and_eq_true, decide_eq_true_eq, beq_iff_eq] at h
  rw [get_near s i h.1] at h
  have : (bl s)[i]? = some s[i] := by rw [← bl_get s i h.1]; exact List.getElem?_eq_getElem _
  rw [this] at hx
  injection hx with hx
  rw [← hx]; omega
theorem decode_skip (s : ByteArray) (pos : Nat) (h : pos < s.size) (ha : 128 ≤ (s[pos]'h).toNat) : ∀ j, j < (Utf8.decode s pos).2 → ∀ x, (bl s)[pos + j]? = some x → 128 ≤ x.toNat := by
  have h0 : ∀ x, (bl s)[pos]? = some x → 128 ≤ x.toNat := fun x hx => by
    have : (bl s)[pos]? = some s[pos] := by rw [← bl_get s pos h]; exact List.getElem?_eq_getElem _
    rw [this] at hx
    injection hx with hx
    rw [← hx]; exact ha
  have hn : ¬ (s.get! (pos + 0)).toNat < 128 := by rw [get_at s pos h]; omega
  have one : ∀ (j : Nat), j < 1 → ∀ x, (bl s)[pos + j]? = some x → 128 ≤ x.toNat := fun j hj x hx => by
    rw [show pos + j = pos by omega] at hx; exact h0 x hx
  unfold Utf8.decode
  simp only
  rw [if_neg hn]
  split
  · rename_i h2
    have c1 := cont_high s (pos + 1) (by have := h2; simp only [Bool.and_eq_true] at this ⊢; exact ⟨this.2.1, this.2.2⟩)
    split
    · intro j hj x hx
      have : j = 0 ∨ j = 1 := by simp at hj; omega
      rcases this with rfl | rfl
      · exact h0 x hx
      · exact c1 x hx
    · exact one
  · split
    · rename_i h2
      have c1 := cont_high s (pos + 1) (by have := h2; simp only [Bool.and_eq_true] at this ⊢; exact ⟨this.1.2.1, this.1.2.2⟩)
      have c2 := cont_high s (pos + 2) (by have := h2; simp only [Bool.and_eq_true] at this ⊢; exact ⟨this.2.1, this.2.2⟩)
      split
      · intro j hj x hx
        have : j = 0 ∨ j = 1 ∨ j = 2 := by simp at hj; omega
        rcases this with rfl | rfl | rfl
        · exact h0 x hx
        · exact c1 x hx
        · exact c2 x hx
      · exact one
    · split
      · rename_i h2
        have c1 := cont_high s (pos + 1) (by have := h2; simp only [Bool.and_eq_true] at this ⊢; exact ⟨this.1.1.2.1, this.1.1.2.2⟩)
        have c2 := cont_high s (pos + 2) (by have := h2; simp only [Bool.and_eq_true] at this ⊢; exact ⟨this.1.2.1, this.1.2.2⟩)
        have c3 := cont_high s (pos + 3) (by have := h2; simp only [Bool.and_eq_true] at this ⊢; exact ⟨this.2.1, this.2.2⟩)
        split
        · intro j hj x hx
          have : j = 0 ∨ j = 1 ∨ j = 2 ∨ j = 3 := by simp at hj; omega
          rcases this with rfl | rfl | rfl | rfl
          · exact h0 x hx
          · exact c1 x hx
          · exact c2 x hx
          · exact c3 x hx
        · exact one
      · exact one

theorem alloc_old {w : World} {o : Obj} {b : Nat} (h : b < w.heap.size) : (w.alloc o).heap[b]? = w.heap[b]? := by
  show (w.heap.push o)[b]? = _
  rw [Array.getElem?_push, if_neg (by omega)]
theorem alloc_new {w : World} {o : Obj} : (w.alloc o).heap[w.heap.size]? = some o := by
  show (w.heap.push o)[w.heap.size]? = _
  simp

theorem cell_of {w : World} {B j e : Nat} {arr : Array Value} {m : Nat × Nat} {v : Value} (h : w.heap[B]? = some (.cells arr e m)) (hj : arr[j]? = some v) : w.cell? ⟨B, j, none⟩ = some v := by simp [World.cell?, h, hj]
theorem frozen_of {w : World} {B j e : Nat} {arr : Array Value} {m : Nat × Nat} (h : w.heap[B]? = some (.cells arr e m)) (hj : j < m.1) : w.frozen? ⟨B, j, none⟩ = false := by simp [World.frozen?, h]; omega
theorem only_step {w w1 w2 : World} {r r2 : Option Nat} (h : w.grownBy w1 r) (h2 : w1.grownBy w2 r2) (hr : ∀ k, r2 = some k → r = some k ∨ w.heap.size ≤ k) : w.grownBy w2 r :=
  ⟨h2.os.trans h.os, h2.tape.trans h.tape, h2.output.trans h.output, Nat.le_trans h.size h2.size, fun k hk hne =>
    (h2.block k (Nat.lt_of_lt_of_le hk h.size) (fun e => by
      rcases hr k e.symm with h3 | h3
      · exact hne h3.symm
      · omega)).trans (h.block k hk hne)⟩
theorem only_refl (w : World) (r : Option Nat) : w.grownBy w r := ⟨rfl, rfl, rfl, Nat.le_refl _, fun _ _ _ => rfl⟩
theorem only_set {a w : World} {r : Option Nat} (h : a.grownBy w r) {p : Addr} (hp : r = some p.block ∨ a.heap.size ≤ p.block) (u : Value) : a.grownBy (w.setCell p u) r :=
  ⟨h.os, h.tape, h.output, by simpa [World.setCell] using h.size, fun i hi hne => (Below.heap_setCell w p u i (by
    rintro rfl
    rcases hp with hp | hp
    · exact hne hp.symm
    · omega)).trans (h.block i hi hne)⟩
theorem only_iterAt {a w : World} (h : a.grownBy w none) {k : Nat} (hk : a.heap.size ≤ k) (s : ByteArray) (pos : Nat) : a.grownBy (w.iterAt k s pos) none :=
  ⟨h.os, h.tape, h.output, by rw [iterAt_size]; exact h.size, fun i hi hne => (iterAt_other w k i s pos (by omega)).trans (h.block i hi hne)⟩
theorem iterPos_of {w : World} {k : Nat} {s : ByteArray} {p : Nat} (h : w.heap[k]? = some (.stringIter s p)) : w.iterPos k = p := by simp [World.iterPos, h]
theorem cell_iterAt (w : World) (k : Nat) (s : ByteArray) (pos : Nat) (a : Addr) (h : a.block ≠ k) : (w.iterAt k s pos).cell? a = w.cell? a := World.cell?_of_block (iterAt_other w k a.block s pos h)
theorem frozen_iterAt (w : World) (k : Nat) (s : ByteArray) (pos : Nat) (a : Addr) (h : a.block ≠ k) : (w.iterAt k s pos).frozen? a = w.frozen? a := by
  unfold World.frozen?
  rw [iterAt_other w k a.block s pos h]
theorem decode_w (s : ByteArray) (pos : Nat) : (Utf8.decode s pos).2 ≤ 4 := by
  unfold Utf8.decode
  simp only
  repeat' split
  all_goals simp
theorem only_alloc' {w : World} (o o' : Obj) : w.grownBy ((w.drew.alloc o).alloc o') none :=
  ⟨rfl, rfl, rfl, by simp [World.alloc]; omega, fun i hi _ => (alloc_old (by simp [World.alloc]; omega)).trans (alloc_old (w := w.drew) hi)⟩
set_option maxRecDepth 100000 in
theorem lower_any (s : ByteArray) (hs : s.size ≤ maxLen) (w : World) : Calls Tryd.prog 15 #[.string s] w fun e w' => e = .returned (.string (ofB (low (bl s)))) ∧ w.grownBy w' none := by
  unfold maxLen at hs
  have hcv2 := run_bytes_of_string (P := Tryd.prog) w 9 36 5 s Tryd.underlying9 Tryd.underlying36 Tryd.underlying5
  obtain ⟨cap, hcap⟩ : ∃ cap, grownCap w s.size 0 5 = cap := ⟨_, rfl⟩
  rw [hcap] at hcv2
  obtain ⟨row, hrow⟩ : ∃ row, bytesRow s cap = row := ⟨_, rfl⟩
  rw [hrow] at hcv2
  have hr0 : Hid (∀ j (x : UInt8), (bl s)[j]? = some x → row[j]? = some (Value.int .u8 x.toNat)) := fun j x hx => by
    rw [← hrow]
    unfold bytesRow
    have hj : j < s.size := by rw [← bl_len]; exact (List.getElem?_eq_some_iff.1 hx).1
    rw [Array.getElem?_append_left (by simp; exact hj)]
    simp only [Array.getElem?_map]
    have : s.data[j]? = some x := by rw [← Array.getElem?_toList]; exact hx
    rw [this]; rfl
  clear hcap hrow
  have hlen := Lib.hid (bl_len s)
  go_enter Tryd.func15, Tryd.ntmps15
  go_wp2_with fail
  go_loopw [] (fun wr => ∃ pos : Nat, wr.heap[w.heap.size + 1]? = some (.stringIter s pos) ∧ Hid (∀ j (x : UInt8), (lowTo pos (bl s))[j]? = some x → wr.cell? ⟨w.heap.size, j, none⟩ = some (.int .u8 x.toNat) ∧ wr.frozen? ⟨w.heap.size, j, none⟩ = false) ∧ pos ≤ s.size + 3 ∧ w.grownBy wr none)
    (fun wr => s.size + 3 - wr.iterPos (w.heap.size + 1))
  case atStart =>
    have hsz : (w.drew.alloc (.cells row 5 (row.size, row.size + 1))).heap.size = w.heap.size + 1 := by simp [World.alloc]
    refine ⟨0, ?_, fun j x hx => ?_, by omega, only_alloc' _ _⟩
    · have h := alloc_new (w := w.drew.alloc (.cells row 5 (row.size, row.size + 1))) (o := .stringIter s 0)
      rw [hsz] at h
      exact h
    · rw [lowTo_zero] at hx
      have h1 := hr0.out j x hx
      have hb : ((w.drew.alloc (.cells row 5 (row.size, row.size + 1))).iter s 0).heap[w.heap.size]? = some (.cells row 5 (row.size, row.size + 1)) := by
        have h2 : (w.drew.alloc (.cells row 5 (row.size, row.size + 1))).heap[w.heap.size]? = some (.cells row 5 (row.size, row.size + 1)) := alloc_new (w := w.drew)
        exact (alloc_old (by rw [hsz]; omega)).trans h2
      have hj : j < row.size := (Array.getElem?_eq_some_iff.1 h1).1
      constructor
      · exact cell_of hb h1
      · exact frozen_of hb hj
  case round =>
    obtain ⟨pos, hk, HC, hp3, hG⟩ := hrel
    have hBk : w.heap.size < w.heap.size + 1 := by omega
    by_cases hlt : pos < s.size
    · have hnx := fun ty => run_next_any_at (P := Tryd.prog) wr (w.heap.size + 1) s pos ty hk hlt
      by_cases hhi : 128 ≤ (s[pos]'hlt).toNat
      · have hd := decode_high s pos hlt hhi
        have hsk := decode_skip s pos hlt hhi
        obtain ⟨r, n, hrn⟩ : ∃ r n, Utf8.decode s pos = (r, n) := ⟨_, _, rfl⟩
        rw [hrn] at hnx hd hsk
        have hr1 : ¬ (r : Int) ≤ 90 := by have := hd.1; simp only at this; omega
        have hr2 : (65 : Int) ≤ (r : Int) := by have := hd.1; simp only at this; omega
        have hn4 : n ≤ 4 := by have := decode_w s pos; rw [hrn] at this; exact this
        have hn1 : 1 ≤ n := hd.2
        have HL : Hid (lowTo (pos + n) (bl s) = lowTo pos (bl s)) := lowTo_skip pos n (bl s) (fun j hj x hx => lowB_high x (hsk j hj x hx))
        have hip := iterPos_of hk
        go_wp2_with fail
        go_roundw
        case rel =>
          refine ⟨pos + n, iterAt_heap wr _ s pos _ hk, fun j x hx => ?_, by omega, only_iterAt hG (by omega) s _⟩
          rw [HL.out] at hx
          have h := HC.out j x hx
          exact ⟨(cell_iterAt _ _ _ _ _ (by simp)).trans h.1, (frozen_iterAt _ _ _ _ _ (by simp)).trans h.2⟩
        case measure =>
          rw [iterPos_of (iterAt_heap wr _ s pos (pos + n) hk), hip]; omega
      · have hd := decode_ascii s pos hlt (by omega)
        have hl0 : (bl s)[pos]? = some (s[pos]'hlt) := by rw [← bl_get s pos hlt]; exact List.getElem?_eq_getElem _
        have hle0 : (bl s)[pos]'(by rw [bl_len]; exact hlt) = s[pos]'hlt := bl_get s pos hlt
        obtain ⟨x0, hx0⟩ : ∃ x0, x0 = s[pos]'hlt := ⟨_, rfl⟩
        rw [← hx0] at hd hl0 hle0 hhi
        obtain ⟨c, hc⟩ : ∃ c : Nat, c = x0.toNat := ⟨_, rfl⟩
        rw [hd, ← hc] at hnx
        have hlp : pos < (bl s).length := by rw [bl_len]; exact hlt
        have hle : (bl s)[pos]'hlp = x0 := hle0
        have hip := iterPos_of hk
        have hk1 := iterAt_heap wr _ s pos (pos + 1) hk
        have hcell : (wr.iterAt (w.heap.size + 1) s (pos + 1)).cell? ⟨w.heap.size, pos, none⟩ = some (.int .u8 c) := by
          have h := (HC.out pos x0 (by rw [lowTo_at _ _ _ hlp, if_neg (by omega), hle])).1
          rw [hc]
          exact (cell_iterAt _ _ _ _ _ (by simp)).trans h
        have hfro : (wr.iterAt (w.heap.size + 1) s (pos + 1)).frozen? ⟨w.heap.size, pos, none⟩ = false := by
          have h := (HC.out pos x0 (by rw [lowTo_at _ _ _ hlp, if_neg (by omega), hle])).2
          exact (frozen_iterAt _ _ _ _ _ (by simp)).trans h
        have hb0 : (0 : Int) ≤ (pos : Int) := by omega
        have hb1 : (pos : Int) < (s.size : Int) := by omega
        have HSet := Lib.hid (lowTo_set pos (bl s) hlp)
        have hG1 : w.grownBy (wr.iterAt (w.heap.size + 1) s (pos + 1)) none := only_iterAt hG (by omega) s _
        have hmeas : s.size + 3 - (pos + 1) < s.size + 3 - pos := by omega
        by_cases hgr : 65 ≤ c ∧ c ≤ 90
        · have hr1 : (65 : Int) ≤ (c : Int) := by omega
          have hr2 : (c : Int) ≤ 90 := by omega
          have hww : IntKind.u8.wrap ((c : Int) + 32) = (c : Int) + 32 := by
            have := IntKind.wrap_u8 ((c : Int) + 32)
            rw [this]; omega
          have hlow : ((lowB x0).toNat : Int) = (c : Int) + 32 := by
            unfold lowB
            rw [if_pos (by rw [← hc]; exact hgr), UInt8.toNat_add, ← hc]
            simp; omega
          have HLow := Lib.hid hlow
          have HC1 := Lib.hid hc
          clear hlow hc hd hx0 hle0
          go_wp2_with fail
          go_roundw
          case rel =>
            refine ⟨pos + 1, ?_, fun j x hx => ?_, by omega, only_set hG1 (.inr (Nat.le_refl _)) _⟩
            · rw [Below.heap_setCell _ _ _ _ (by simp)]; exact hk1
            · rw [← HSet.out, List.getElem?_set, hle] at hx
              by_cases hjp : pos = j
              · subst hjp
                rw [if_pos rfl, if_pos (by rw [lowTo_len]; exact hlp)] at hx
                injection hx with hx
                subst hx
                exact ⟨by rw [World.cell?_setCell_same' _ _ _ (by rw [hcell]; rfl), HLow.out], (World.frozen?_setCell _ _ _ _).trans hfro⟩
              · rw [if_neg hjp] at hx
                have h := HC.out j x hx
                exact ⟨(World.cell?_setCell_other _ _ _ _ (by simp)).trans ((cell_iterAt _ _ _ _ _ (by simp)).trans h.1), (World.frozen?_setCell _ _ _ _).trans ((frozen_iterAt _ _ _ _ _ (by simp)).trans h.2)⟩
          case measure =>
            have h2 := (Below.heap_setCell (wr.iterAt (w.heap.size + 1) s (pos + 1)) ⟨w.heap.size, pos, none⟩ (.int .u8 ((c : Int) + 32)) (w.heap.size + 1) (by simp)).trans hk1
            rw [iterPos_of h2, hip]; exact hmeas
        · have HL : Hid (lowTo (pos + 1) (bl s) = lowTo pos (bl s)) := lowTo_skip pos 1 (bl s) (fun j hj x hx => by
            rw [show pos + j = pos by omega, hl0] at hx
            injection hx with hx
            subst hx
            unfold lowB
            rw [if_neg (by rw [← hc]; exact hgr)])
          clear hc hd hx0 hle0
          have fin : (wr.iterAt (w.heap.size + 1) s (pos + 1)).heap[w.heap.size + 1]? = some (.stringIter s (pos + 1)) ∧ Hid (∀ j (x : UInt8), (lowTo (pos + 1) (bl s))[j]? = some x → (wr.iterAt (w.heap.size + 1) s (pos + 1)).cell? ⟨w.heap.size, j, none⟩ = some (.int .u8 x.toNat) ∧ (wr.iterAt (w.heap.size + 1) s (pos + 1)).frozen? ⟨w.heap.size, j, none⟩ = false) := by
            refine ⟨hk1, fun j x hx => ?_⟩
            rw [HL.out] at hx
            have h := HC.out j x hx
            exact ⟨(cell_iterAt _ _ _ _ _ (by simp)).trans h.1, (frozen_iterAt _ _ _ _ _ (by simp)).trans h.2⟩
          have FIN := Lib.hid fin
          clear fin
          by_cases h65 : 65 ≤ c
          · have hr1 : (65 : Int) ≤ (c : Int) := by omega
            have hr2 : ¬ (c : Int) ≤ 90 := by omega
            go_wp2_with fail
            go_roundw
            case rel => exact ⟨pos + 1, FIN.out.1, FIN.out.2, by omega, hG1⟩
            case measure => rw [iterPos_of hk1, hip]; exact hmeas
          · have hr1 : ¬ (65 : Int) ≤ (c : Int) := by omega
            go_wp2_with fail
            go_roundw
            case rel => exact ⟨pos + 1, FIN.out.1, FIN.out.2, by omega, hG1⟩
            case measure => rw [iterPos_of hk1, hip]; exact hmeas
    · have hnx := fun ty => run_next_end_at (P := Tryd.prog) wr (w.heap.size + 1) s pos ty hk hlt
      have hcv : (convert 36 9 (.slice (some ⟨w.heap.size, 0, none⟩) s.size cap)).run Tryd.prog wr = .ok (.string (ofB (low (bl s)))) wr := by
        have h := run_convert_bytes_back (P := Tryd.prog) wr 36 9 5 ⟨w.heap.size, 0, none⟩ cap (low (bl s)) Tryd.underlying36 Tryd.underlying5 Tryd.underlying9 (fun j hj => by
          have h := (HC.out j (low (bl s))[j] (by rw [lowTo_end _ _ (by rw [bl_len]; exact hlt)]; exact List.getElem?_eq_getElem hj)).1
          rw [Addr.add_lit]; simpa using h)
        have hll : (low (bl s)).length = s.size := by simp [low, bl_len]
        rw [hll] at h
        exact h
      go_wp2_with fail
      go_ret
      exact ⟨rfl, hG⟩
theorem low_len (l : List UInt8) : (low l).length = l.length := by simp [low]
end Go.Proofs.YtjgbflgeicejeaaDoor
