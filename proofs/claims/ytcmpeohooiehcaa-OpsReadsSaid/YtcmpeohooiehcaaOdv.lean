/- Rows of dots: views, slicing, append; the reference's Less. No condition of the program's own. -/
import Derived.Test.YtcmpeohooiehcaaOgs
import Derived.Test.YtcmpeohooiehcaaApp
import Derived.Deep.Fields
namespace Go.Proofs.Ytcmpeohooiehcaa
open Go.RowKit Go.Deep Go.ChangeShapes
theorem less_is (x y : Int × Int × Int) (r : Bool) (hr : r = true ↔ dless x y) (w : World) :
    Calls Try.prog 22 #[.agg #[.int .i64 x.1, .int .i64 x.2.1, .int .i64 x.2.2], .agg #[.int .i64 y.1, .int .i64 y.2.1, .int .i64 y.2.2]] w fun e w' => e = .returned (.bool r) ∧ w.grownBy w' none := by
  obtain ⟨x1, x2, x3⟩ := x
  obtain ⟨y1, y2, y3⟩ := y
  show Calls Try.prog _ #[.agg #[.int .i64 x1, .int .i64 x2, .int .i64 x3], .agg #[.int .i64 y1, .int .i64 y2, .int .i64 y3]] w _
  have hd : r = true ↔ (x1 < y1 ∨ x1 = y1 ∧ (x2 < y2 ∨ x2 = y2 ∧ x3 < y3)) := hr
  clear hr
  by_cases e1 : x1 = y1
  · have n1 : (x1 != y1) = false := by simp [e1]
    by_cases e2 : x2 = y2
    · have n2 : (x2 != y2) = false := by simp [e2]
      obtain rfl : r = decide (x3 < y3) := by
        rw [Bool.eq_iff_iff, hd, decide_eq_true_eq]; omega
      clear hd
      go_enter Try.func22, Try.ntmps22
      go_wp2_with fail
      go_ret
      exact ⟨rfl, only_alloc (World.grownBy_alloc w _ none) _⟩
    · have n2 : (x2 != y2) = true := by simp [e2]
      obtain rfl : r = decide (x2 < y2) := by
        rw [Bool.eq_iff_iff, hd, decide_eq_true_eq]; omega
      clear hd
      go_enter Try.func22, Try.ntmps22
      go_wp2_with fail
      go_ret
      exact ⟨rfl, only_alloc (World.grownBy_alloc w _ none) _⟩
  · have n1 : (x1 != y1) = true := by simp [e1]
    obtain rfl : r = decide (x1 < y1) := by
      rw [Bool.eq_iff_iff, hd, decide_eq_true_eq]; omega
    clear hd
    go_enter Try.func22, Try.ntmps22
    go_wp2_with fail
    go_ret
    exact ⟨rfl, only_alloc (World.grownBy_alloc w _ none) _⟩

theorem own_slice_w {w : World} {base e s n : Nat} {v : Value} {xs : List Value} (h : w.ownsRow base e s v n xs) : ∃ A c, v = .slice A n c := by
  rcases h.2 with ⟨hv, h0⟩ | ⟨g, cap, _, hv, _⟩
  · exact ⟨none, 0, by rw [hv, h0]⟩
  · exact ⟨_, cap, hv⟩
theorem own_form_w {w : World} {base e s n c : Nat} {A : Option Addr} {xs : List Value} (h : w.ownsRow base e s (.slice A n c) n xs) (hn : 0 < n) : ∃ g, A = some ⟨g, 0, none⟩ ∧ base ≤ g ∧ g < w.heap.size ∧ n ≤ c ∧ ∀ j u, xs[j]? = some u → w.cell? ⟨g, j, none⟩ = some u := by
  have hc := fun g => h.cells (g := g)
  rcases h.2 with ⟨_, h0⟩ | ⟨g, cap, cur, hv, hb, hg, h1, h2, _⟩
  · omega
  · injection hv with e1 e2 e3
    refine ⟨g, e1, hb, (Array.getElem?_eq_some_iff.1 hg).1, by omega, fun j u hu => ?_⟩
    have := hc g (by rw [e1]; rfl) j u hu
    rw [Addr.add_lit, Nat.zero_add] at this
    exact this

theorem Has.own_w {w : World} {base e s n c : Nat} {A : Option Addr} {xs : List Value} (h : w.ownsRow base e s (.slice A n c) n xs) : Has w w.heap.size A xs := by
  by_cases h0 : 0 < n
  · obtain ⟨g, e, _, hg, _, hc⟩ := own_form_w h h0
    exact .inr ⟨g, 0, e, hg, fun j u hu => by rw [Nat.zero_add]; exact hc j u hu⟩
  · refine .inl (List.eq_nil_of_length_eq_zero ?_)
    rw [h.1, show n = 0 by omega, Nat.zero_mul]
theorem own_less {w : World} {base base' e s n : Nat} {v : Value} {xs : List Value} (h : w.ownsRow base e s v n xs) (hb : base' ≤ base) : w.ownsRow base' e s v n xs := by
  rcases h.2 with hv | ⟨g, cap, cur, hv, hg, h2⟩
  · exact ⟨h.1, .inl hv⟩
  · exact ⟨h.1, .inr ⟨g, cap, cur, hv, by omega, h2⟩⟩

theorem Has.kept {w w' : World} {lim : Nat} {A : Option Addr} {xs : List Value} (h : Has w lim A xs) (hg : w.grownBy w' none) (hl : lim ≤ w.heap.size) : Has w' lim A xs :=
  h.only hg hl (fun _ e => by cases e)
theorem Has.up {w w' : World} {A : Option Addr} {xs : List Value} (h : Has w w.heap.size A xs) (hg : w.grownBy w' none) : Has w' w'.heap.size A xs :=
  (h.kept hg (Nat.le_refl _)).more hg.size

/-- append onto a row of entries of the call's own. -/
theorem app_e {w : World} {ops : Array Oper} {rest : List Oper} {o : Oper} {a : Act} {Q : Exit → Act → World → Prop} (hgd : o.guard = none) (s x : Operand) (tx : TypeId)
    (ho : o.op = .call { callee := .builtin .append, args := #[s, x], argTypes := #[24, tx] })
    (base : Nat) (v : Value) (n : Nat) (xs : List Value) (hs : a.eval s = v) (hown : w.ownsRow base 23 3 v n xs) (u : Value) (m : Nat) (news : List Value) (hu : a.eval x = u) (hsrc : Src Try.prog 3 tx u m news w)
    (hlen : n + m ≤ 2199023255552) (hbase : base ≤ w.heap.size)
    (h : ∀ v' w', GrewW w w' base 23 3 v v' (n + m) (xs ++ news) → wpList Try.prog ops Q rest (a.put o.dst v') w') : wpList Try.prog ops Q (o :: rest) a w := by
  obtain ⟨i, hi, hzz⟩ := Option.map_eq_some_iff.1 Try.info_dot
  simp only [Prod.mk.injEq] at hzz
  obtain ⟨hz, hsz, hb⟩ := hzz
  exact wpList_append_wide w hgd s x 24 tx ho base 23 i _ 24 3 Try.underlying24 hi hz hsz hb rfl v n xs hs hown u m news hu hsrc (by unfold maxLen; omega) (by omega) hbase h

/-- A slice of entries that reads l. -/
structure Vw (w : World) (lim : Nat) (A : Option Addr) (c : Nat) (l : List Dt) : Prop where
  has : Has w lim A (dc l)
  cap : l.length ≤ c
  nil : A = none → c = 0
theorem Vw.keep {w w' : World} {lim : Nat} {A : Option Addr} {c : Nat} {l : List Dt} (h : Vw w lim A c l) (hg : w.grownBy w' none) (hl : lim ≤ w.heap.size) : Vw w' lim A c l := ⟨h.has.kept hg hl, h.cap, h.nil⟩
theorem Vw.up {w w' : World} {A : Option Addr} {c : Nat} {l : List Dt} (h : Vw w w.heap.size A c l) (hg : w.grownBy w' none) : Vw w' w'.heap.size A c l := ⟨h.has.up hg, h.cap, h.nil⟩
theorem Vw.more {w : World} {lim lim' : Nat} {A : Option Addr} {c : Nat} {l : List Dt} (h : Vw w lim A c l) (hl : lim ≤ lim') : Vw w lim' A c l := ⟨h.has.more hl, h.cap, h.nil⟩
theorem Vw.own {w : World} {base n c : Nat} {A : Option Addr} {l : List Dt} (h : w.ownsRow base 23 3 (.slice A n c) n (dc l)) : Vw w w.heap.size A c l ∧ n = l.length := by
  have hn : n = l.length := by have := h.1; rw [dc_len] at this; omega
  refine ⟨⟨Has.own_w h, ?_, ?_⟩, hn⟩
  · rcases h.2 with ⟨hv, h0⟩ | ⟨g, cap, cur, hv, _, _, h1, _⟩
    · omega
    · injection hv with _ _ e; omega
  · rintro rfl
    rcases h.2 with ⟨hv, h0⟩ | ⟨g, cap, cur, hv, _, _, h1, _⟩
    · injection hv
    · injection hv with e; cases e
theorem dc_take (l : List Dt) (k : Nat) : dc (l.take k) = (dc l).take (k * 3) := by
  have h := congrArg dc (List.take_append_drop k l)
  rw [dc_append] at h
  by_cases hk : k ≤ l.length
  · rw [← h, List.take_left' (by rw [dc_len, List.length_take]; omega)]
  · rw [List.take_of_length_le (by omega), List.take_of_length_le (by rw [dc_len]; omega)]
theorem dc_drop (l : List Dt) (k : Nat) : dc (l.drop k) = (dc l).drop (k * 3) := by
  have h := congrArg dc (List.take_append_drop k l)
  rw [dc_append] at h
  by_cases hk : k ≤ l.length
  · rw [← h, List.drop_left' (by rw [dc_len, List.length_take]; omega)]
  · rw [List.drop_eq_nil_of_le (by omega), List.drop_eq_nil_of_le (by rw [dc_len]; omega)]; rfl
theorem Has.front {w : World} {lim : Nat} {A : Option Addr} {xs : List Value} (h : Has w lim A xs) (k : Nat) : Has w lim A (xs.take k) := by
  rcases h with rfl | ⟨b, off, hA, hb, hc⟩
  · exact .inl (by simp)
  · refine .inr ⟨b, off, hA, hb, fun j u hu => hc j u ?_⟩
    rw [List.getElem?_take] at hu
    split at hu
    · exact hu
    · cases hu
theorem Vw.src {w : World} {lim : Nat} {A : Option Addr} {c : Nat} {l : List Dt} (h : Vw w lim A c l) (k c' : Nat) (hk : k ≤ l.length) : Src Try.prog 3 24 (.slice A k c') k (dc (l.take k)) w := by
  have hl : (dc (l.take k)).length = k * 3 := by rw [dc_len, List.length_take]; omega
  rcases h.has.front (k * 3) with h0 | ⟨b, off, rfl, _, hc⟩
  · rw [← dc_take] at h0
    rw [h0] at hl ⊢
    have : k = 0 := by simp at hl; omega
    subst this
    cases A with
    | none => exact Src.ofNil w Try.underlying24 c'
    | some a => exact Src.ofSlice w Try.underlying24 a 0 c' [] (by simp) (fun j u hu => by simp at hu) (fun _ h => by cases h)
  · rw [← dc_take] at hc
    exact Src.ofSlice w Try.underlying24 _ k c' _ hl (fun j u hu => by rw [Addr.add_lit]; exact hc j u hu) (dc_one _)

set_option maxRecDepth 100000 in
theorem slice_lo {w : World} {lim : Nat} {A : Option Addr} {c : Nat} {l : List Dt} (h : Vw w lim A c l) (k : Nat) (hk : k ≤ l.length) :
    ∃ A', (∀ W, (Instr.sliceAt 24 (.slice A l.length c) (some (.int .i64 (k : Int))) none none).run Try.prog W = .ok (.slice A' (l.length - k) (c - k)) W) ∧ Vw w lim A' (c - k) (l.drop k) := by
  have hu : Try.prog.underlying 24 = some (.slice (Try.prog.elem 24)) := Try.underlying24
  have hcap := h.cap
  refine ⟨if c = k then A else A.map (·.add (k * 3)), fun W => ?_, ?_, ?_, ?_⟩
  · rw [run_sliceAt_slice (h := hu), run_slice_l (ht := hu) (h0 := by omega) (h1 := by omega)]
    rw [show Try.prog.elem 24 = 23 by rfl, Try.sizeOf23]
    simp [Result.andThen, sliced]
  · rw [dc_drop]
    by_cases hck : c = k
    · rw [List.drop_eq_nil_of_le (by rw [dc_len]; omega)]; exact Has.nil
    · rw [if_neg hck]
      rcases h.has with h0 | ⟨b, off, rfl, hb, hc⟩
      · rw [h0]; exact .inl (by simp)
      · refine .inr ⟨b, off + k * 3, by simp [Addr.add_lit], hb, fun j u hu => ?_⟩
        rw [List.getElem?_drop] at hu
        rw [Nat.add_assoc]; exact hc _ u hu
  · rw [List.length_drop]; omega
  · intro hn
    by_cases hck : c = k
    · omega
    · rw [if_neg hck] at hn
      cases A with
      | none => have := h.nil rfl; omega
      | some a => cases hn
set_option maxRecDepth 100000 in
theorem slice_hi {w : World} {lim : Nat} {A : Option Addr} {c : Nat} {l : List Dt} (h : Vw w lim A c l) (k : Nat) (hk : k ≤ l.length) :
    ∀ W, (Instr.sliceAt 24 (.slice A l.length c) none (some (.int .i64 (k : Int))) none).run Try.prog W = .ok (.slice A k c) W := fun W => by
  have hu : Try.prog.underlying 24 = some (.slice (Try.prog.elem 24)) := Try.underlying24
  have hcap := h.cap
  rw [run_sliceAt_slice (h := hu), run_slice_h (ht := hu) (h0 := by omega) (h2 := by omega)]
  rw [show Try.prog.elem 24 = 23 by rfl, Try.sizeOf23]
  cases A with
  | none => simp [Result.andThen, sliced]
  | some a =>
    have : a.add 0 = a := by cases a; rfl
    simp [Result.andThen, sliced, this]
theorem Src.all {w : World} {lim : Nat} {A : Option Addr} {c : Nat} {l : List Dt} (h : Vw w lim A c l) (n : Nat) (hn : n = l.length) : Src Try.prog 3 24 (.slice A n c) n (dc l) w := by
  subst hn
  have := h.src l.length c (Nat.le_refl _)
  rw [List.take_length] at this
  exact this

theorem src_dot (w : World) (x : Dt) : Src Try.prog 3 24 (.slice (some ⟨w.heap.size, 0, none⟩) 1 1) 1 (dc [x]) (w.alloc (.cells #[.int .i64 x.1, .int .i64 x.2.1, .int .i64 x.2.2] 23)) :=
  Src.ofSlice _ Try.underlying24 _ 1 1 _ rfl (fun j u hu => by
    rw [Addr.add_lit, Nat.zero_add]; exact cell_new _ _ _ j u (by rw [← hu, ← Array.getElem?_toList]; rfl)) (dc_one _)
end Go.Proofs.Ytcmpeohooiehcaa
