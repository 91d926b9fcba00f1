/- Slices of ranges as lists; append, slicing; the box of a range. No condition of the program's own. -/
import Derived.Test.YtnljccmchmclnaaRwi
import Derived.Test.YtnljccmchmclnaaRp
import Derived.Test.YtnljccmchmclnaaGr
import Derived.Deep.RegionHeld3
import Derived.BigQuiet
import Derived.StillTailTactics
namespace Go.Proofs.Ytnljccmchmclnaa
open Go.RowKit Go.Deep

theorem cell_new (w : World) (arr : Array Value) (T : TypeId) (j : Nat) (v : Value) (h : arr[j]? = some v) : (w.alloc (.cells arr T)).cell? ⟨w.heap.size, j, none⟩ = some v := by
  unfold World.cell?; rw [heap_alloc_new]; exact h
theorem cell_newd (w : World) (arr : Array Value) (T : TypeId) (j : Nat) (v : Value) (h : arr[j]? = some v) : (w.alloc (.cells arr T)).drew.cell? ⟨w.heap.size, j, none⟩ = some v := cell_new w arr T j v h
theorem own_slice_w {w : World} {base e s n : Nat} {v : Value} {xs : List Value} (h : w.ownsRow base e s v n xs) : ∃ A c, v = .slice A n c := by
  rcases h.2 with ⟨hv, h0⟩ | ⟨g, cap, _, hv, _⟩
  · exact ⟨none, 0, by rw [hv, h0]⟩
  · exact ⟨_, cap, hv⟩
theorem own_form_w {w : World} {base e s n c : Nat} {A : Option Addr} {xs : List Value} (h : w.ownsRow base e s (.slice A n c) n xs) (hn : 0 < n) : ∃ g, A = some ⟨g, 0, none⟩ ∧ base ≤ g ∧ g < w.heap.size ∧ n ≤ c ∧ ∀ j u, xs[j]? = some u → w.cell? ⟨g, j, none⟩ = some u := by
  have hc := fun g => h.cells (g := g)
  rcases h.2 with ⟨_, h0⟩ | ⟨g, cap, cur, hv, hb, hg, h1, h2, _⟩
  · omega
  · injection hv with e1 e2 e3
    refine ⟨g, e1, hb, (Array.getElem?_eq_some_iff.1 hg).1, by omega, fun j u hu => ?_⟩
    have := hc g (by rw [e1]; rfl) j u hu
    rw [Addr.add_lit, Nat.zero_add] at this
    exact this
theorem cut_later {G T : Prop} (main : (Unit → T) → G) (pf : T) : G := main fun _ => pf
theorem tdiv_in (n m : Int) (hm : 0 < m) (h1 : -9223372036854775808 ≤ n) (h2 : n ≤ 9223372036854775807) : -9223372036854775808 ≤ n.tdiv m ∧ n.tdiv m ≤ 9223372036854775807 := by
  have := Int.natAbs_tdiv_le_natAbs n m
  by_cases h0 : 0 ≤ n
  · have := Int.tdiv_nonneg h0 (Int.le_of_lt hm); omega
  · have h3 : n.tdiv m = -((-n).tdiv m) := by rw [Int.neg_tdiv, Int.neg_neg]
    have := Int.tdiv_nonneg (show 0 ≤ -n by omega) (Int.le_of_lt hm)
    omega
theorem own_ne {w : World} {B e s n : Nat} {v : Value} {xs : List Value} (h : w.ownsRow (B + 1) e s v n xs) : v.ownBlock ≠ some B := by
  rcases h.2 with ⟨hv, _⟩ | ⟨g, cap, cur, hv, hg, h2⟩
  · rw [hv]; simp [Value.ownBlock]
  · rw [hv]; simp [Value.ownBlock]; omega
theorem own_ge {w : World} {B e s n : Nat} {v : Value} {xs : List Value} (h : w.ownsRow B e s v n xs) : ∀ k, v.ownBlock = some k → B ≤ k := fun k hk => by
  rcases h.2 with ⟨hv, _⟩ | ⟨g, cap, cur, hv, hg, h2⟩
  · rw [hv] at hk; simp [Value.ownBlock] at hk
  · rw [hv] at hk; simp [Value.ownBlock] at hk; omega
theorem Has.own_w {w : World} {base e s n c : Nat} {A : Option Addr} {xs : List Value} (h : w.ownsRow base e s (.slice A n c) n xs) : Has w w.heap.size A xs := by
  by_cases h0 : 0 < n
  · obtain ⟨g, e, _, hg, _, hc⟩ := own_form_w h h0
    exact .inr ⟨g, 0, e, hg, fun j u hu => by rw [Nat.zero_add]; exact hc j u hu⟩
  · refine .inl (List.eq_nil_of_length_eq_zero ?_)
    rw [h.1, show n = 0 by omega, Nat.zero_mul]
theorem Has.kept {w w' : World} {lim : Nat} {A : Option Addr} {xs : List Value} (h : Has w lim A xs) (hg : w.grownBy w' none) (hl : lim ≤ w.heap.size) : Has w' lim A xs :=
  h.only hg hl (fun _ e => by cases e)
theorem Has.up {w w' : World} {A : Option Addr} {xs : List Value} (h : Has w w.heap.size A xs) (hg : w.grownBy w' none) : Has w' w'.heap.size A xs :=
  (h.kept hg (Nat.le_refl _)).more hg.size
theorem Has.rng {w : World} {lim : Nat} {A : Option Addr} {l : List E2} (h : Has w lim A (pc l)) {i : Nat} {x : E2} (hx : l[i]? = some x) :
    ∃ b off, A = some ⟨b, off, none⟩ ∧ b < lim ∧ w.cell? ⟨b, off + i * 2, none⟩ = some (.int .i64 x.1) ∧ w.cell? ⟨b, off + i * 2 + 1, none⟩ = some (.int .i64 x.2) := by
  have h2 := pc_at l i x hx
  rcases h with h0 | ⟨b, off, hA, hb, hc⟩
  · rw [h0] at h2; simp at h2
  · exact ⟨b, off, hA, hb, by rw [Nat.mul_comm]; exact hc _ _ h2.1, by rw [Nat.mul_comm, Nat.add_assoc]; exact hc _ _ h2.2⟩
theorem cell_of_heap {w : World} {b : Nat} {arr : Array Value} {T : TypeId} {fr : Nat × Nat} (h : w.heap[b]? = some (.cells arr T fr)) (j : Nat) (v : Value) (hj : arr[j]? = some v) : w.cell? ⟨b, j, none⟩ = some v := by
  unfold World.cell?; rw [h]; exact hj
theorem set_only {a w : World} {B : Nat} (h : a.grownBy w (some B)) (j : Nat) (u : Value) : a.grownBy (w.setCell ⟨B, j, none⟩ u) (some B) := only_set h (.inl rfl) u
theorem set_heap {w : World} {B : Nat} {arr : Array Value} {T : TypeId} (h : w.heap[B]? = some (.cells arr T (0, 0))) (j : Nat) (u : Value) : (w.setCell ⟨B, j, none⟩ u).heap[B]? = some (.cells (arr.setIfInBounds j u) T (0, 0)) := by
  simp [World.setCell, Array.getElem?_modify, h]
/-- The box of a range. -/
def Bx (w : World) (B : Nat) (f t : Int) : Prop := w.heap[B]? = some (.cells #[.int .i64 f, .int .i64 t] 24 (0, 0))
theorem Bx.cells {w : World} {B : Nat} {f t : Int} (h : Bx w B f t) : w.cell? ⟨B, 0, none⟩ = some (.int .i64 f) ∧ w.cell? ⟨B, 1, none⟩ = some (.int .i64 t) := ⟨cell_of_heap h 0 _ rfl, cell_of_heap h 1 _ rfl⟩
theorem Bx.thaw {w : World} {B : Nat} {f t : Int} (h : Bx w B f t) (j : Nat) : w.frozen? ⟨B, j, none⟩ = false := by unfold World.frozen?; rw [show w.heap[(⟨B, j, none⟩ : Addr).block]? = _ from h]; simp
theorem Bx.lt {w : World} {B : Nat} {f t : Int} (h : Bx w B f t) : B < w.heap.size := (Array.getElem?_eq_some_iff.1 h).1
theorem Bx.keep {w w' : World} {B : Nat} {f t : Int} (h : Bx w B f t) (g : w.grownBy w' none) : Bx w' B f t := (g.block B h.lt (by simp)).trans h
theorem Bx.new (w : World) (f t : Int) : Bx (w.alloc (.cells #[.int .i64 f, .int .i64 t] 24)) w.heap.size f t := heap_alloc_new w _
theorem Bx.set {w : World} {B : Nat} {f t : Int} (h : Bx w B f t) (f' t' : Int) : Bx ((w.setCell ⟨B, 0, none⟩ (.int .i64 f')).setCell ⟨B, 1, none⟩ (.int .i64 t')) B f' t' := set_heap (set_heap h 0 _) 1 _
/-- append onto a row of entries of the call's own. -/
theorem app_r {w : World} {ops : Array Oper} {rest : List Oper} {o : Oper} {a : Act} {Q : Exit → Act → World → Prop} (hgd : o.guard = none) (s x : Operand) (tx : TypeId)
    (ho : o.op = .call { callee := .builtin .append, args := #[s, x], argTypes := #[26, tx] })
    (base : Nat) (v : Value) (n : Nat) (xs : List Value) (hs : a.eval s = v) (hown : w.ownsRow base 24 2 v n xs) (u : Value) (m : Nat) (news : List Value) (hu : a.eval x = u) (hsrc : Src Try.prog 2 tx u m news w)
    (hlen : n + m ≤ 2199023255552) (hbase : base ≤ w.heap.size)
    (h : ∀ v' w', GrewW w w' base 24 2 v v' (n + m) (xs ++ news) → wpList Try.prog ops Q rest (a.put o.dst v') w') : wpList Try.prog ops Q (o :: rest) a w := by
  obtain ⟨i, hi, hzz⟩ := Option.map_eq_some_iff.1 Try.info_range
  simp only [Prod.mk.injEq] at hzz
  obtain ⟨hz, hsz, hb⟩ := hzz
  exact wpList_append_wide w hgd s x 26 tx ho base 24 i _ 16 2 Try.underlying26 hi hz hsz hb rfl v n xs hs hown u m news hu hsrc (by unfold maxLen; omega) (by omega) hbase h

/-- A slice of entries that reads l. -/
structure Vw (w : World) (lim : Nat) (A : Option Addr) (c : Nat) (l : List E2) : Prop where
  has : Has w lim A (pc l)
  cap : l.length ≤ c
  nil : A = none → c = 0
theorem Vw.keep {w w' : World} {lim : Nat} {A : Option Addr} {c : Nat} {l : List E2} (h : Vw w lim A c l) (hg : w.grownBy w' none) (hl : lim ≤ w.heap.size) : Vw w' lim A c l := ⟨h.has.kept hg hl, h.cap, h.nil⟩
theorem Vw.up {w w' : World} {A : Option Addr} {c : Nat} {l : List E2} (h : Vw w w.heap.size A c l) (hg : w.grownBy w' none) : Vw w' w'.heap.size A c l := ⟨h.has.up hg, h.cap, h.nil⟩
theorem Vw.more {w : World} {lim lim' : Nat} {A : Option Addr} {c : Nat} {l : List E2} (h : Vw w lim A c l) (hl : lim ≤ lim') : Vw w lim' A c l := ⟨h.has.more hl, h.cap, h.nil⟩
theorem Vw.own {w : World} {base n c : Nat} {A : Option Addr} {l : List E2} (h : w.ownsRow base 24 2 (.slice A n c) n (pc l)) : Vw w w.heap.size A c l ∧ n = l.length := by
  have hn : n = l.length := by have := h.1; rw [pc_len] at this; omega
  refine ⟨⟨Has.own_w h, ?_, ?_⟩, hn⟩
  · rcases h.2 with ⟨hv, h0⟩ | ⟨g, cap, cur, hv, _, _, h1, _⟩
    · omega
    · injection hv with _ _ e; omega
  · rintro rfl
    rcases h.2 with ⟨hv, h0⟩ | ⟨g, cap, cur, hv, _, _, h1, _⟩
    · injection hv
    · injection hv with e; cases e
theorem pc_take (l : List E2) (k : Nat) : pc (l.take k) = (pc l).take (k * 2) := by
  have h := congrArg pc (List.take_append_drop k l)
  rw [pc_append] at h
  by_cases hk : k ≤ l.length
  · rw [← h, List.take_left' (by rw [pc_len, List.length_take]; omega)]
  · rw [List.take_of_length_le (by omega), List.take_of_length_le (by rw [pc_len]; omega)]
theorem pc_drop (l : List E2) (k : Nat) : pc (l.drop k) = (pc l).drop (k * 2) := by
  have h := congrArg pc (List.take_append_drop k l)
  rw [pc_append] at h
  by_cases hk : k ≤ l.length
  · rw [← h, List.drop_left' (by rw [pc_len, List.length_take]; omega)]
  · rw [List.drop_eq_nil_of_le (by omega), List.drop_eq_nil_of_le (by rw [pc_len]; omega)]; rfl
theorem Has.front {w : World} {lim : Nat} {A : Option Addr} {xs : List Value} (h : Has w lim A xs) (k : Nat) : Has w lim A (xs.take k) := by
  rcases h with rfl | ⟨b, off, hA, hb, hc⟩
  · exact .inl (by simp)
  · refine .inr ⟨b, off, hA, hb, fun j u hu => hc j u ?_⟩
    rw [List.getElem?_take] at hu
    split at hu
    · exact hu
    · cases hu
theorem Vw.src {w : World} {lim : Nat} {A : Option Addr} {c : Nat} {l : List E2} (h : Vw w lim A c l) (k c' : Nat) (hk : k ≤ l.length) : Src Try.prog 2 26 (.slice A k c') k (pc (l.take k)) w := by
  have hl : (pc (l.take k)).length = k * 2 := by rw [pc_len, List.length_take]; omega
  rcases h.has.front (k * 2) with h0 | ⟨b, off, rfl, _, hc⟩
  · rw [← pc_take] at h0
    rw [h0] at hl ⊢
    have : k = 0 := by simp at hl; omega
    subst this
    cases A with
    | none => exact Src.ofNil w Try.underlying26 c'
    | some a => exact Src.ofSlice w Try.underlying26 a 0 c' [] (by simp) (fun j u hu => by simp at hu) (fun _ h => by cases h)
  · rw [← pc_take] at hc
    exact Src.ofSlice w Try.underlying26 _ k c' _ hl (fun j u hu => by rw [Addr.add_lit]; exact hc j u hu) (pc_one _)

theorem slice_lo {w : World} {lim : Nat} {A : Option Addr} {c : Nat} {l : List E2} (h : Vw w lim A c l) (k : Nat) (hk : k ≤ l.length) :
    ∃ A', (∀ W, (Instr.sliceAt 26 (.slice A l.length c) (some (.int .i64 (k : Int))) none none).run Try.prog W = .ok (.slice A' (l.length - k) (c - k)) W) ∧ Vw w lim A' (c - k) (l.drop k) := by
  have hu : Try.prog.underlying 26 = some (.slice (Try.prog.elem 26)) := Try.underlying26
  have hcap := h.cap
  refine ⟨if c = k then A else A.map (·.add (k * 2)), fun W => ?_, ?_, ?_, ?_⟩
  · rw [run_sliceAt_slice (h := hu), run_slice_l (ht := hu) (h0 := by omega) (h1 := by omega)]
    rw [show Try.prog.elem 26 = 24 by rfl, Try.sizeOf24]
    simp [Result.andThen, sliced]
  · rw [pc_drop]
    by_cases hck : c = k
    · rw [List.drop_eq_nil_of_le (by rw [pc_len]; omega)]; exact Has.nil
    · rw [if_neg hck]
      rcases h.has with h0 | ⟨b, off, rfl, hb, hc⟩
      · rw [h0]; exact .inl (by simp)
      · refine .inr ⟨b, off + k * 2, by simp [Addr.add_lit], hb, fun j u hu => ?_⟩
        rw [List.getElem?_drop] at hu
        rw [Nat.add_assoc]; exact hc _ u hu
  · rw [List.length_drop]; omega
  · intro hn
    by_cases hck : c = k
    · omega
    · rw [if_neg hck] at hn
      cases A with
      | none => have := h.nil rfl; omega
      | some a => cases hn
theorem slice_hi {w : World} {lim : Nat} {A : Option Addr} {c : Nat} {l : List E2} (h : Vw w lim A c l) (k : Nat) (hk : k ≤ l.length) :
    ∀ W, (Instr.sliceAt 26 (.slice A l.length c) none (some (.int .i64 (k : Int))) none).run Try.prog W = .ok (.slice A k c) W := fun W => by
  have hu : Try.prog.underlying 26 = some (.slice (Try.prog.elem 26)) := Try.underlying26
  have hcap := h.cap
  rw [run_sliceAt_slice (h := hu), run_slice_h (ht := hu) (h0 := by omega) (h2 := by omega)]
  rw [show Try.prog.elem 26 = 24 by rfl, Try.sizeOf24]
  cases A with
  | none => simp [Result.andThen, sliced]
  | some a =>
    have : a.add 0 = a := by cases a; rfl
    simp [Result.andThen, sliced, this]
theorem Src.all {w : World} {lim : Nat} {A : Option Addr} {c : Nat} {l : List E2} (h : Vw w lim A c l) (n : Nat) (hn : n = l.length) : Src Try.prog 2 26 (.slice A n c) n (pc l) w := by
  subst hn
  have := h.src l.length c (Nat.le_refl _)
  rw [List.take_length] at this
  exact this

theorem src_one (w : World) (x : E2) : Src Try.prog 2 26 (.slice (some ⟨w.heap.size, 0, none⟩) 1 1) 1 (pc [x]) (w.alloc (.cells #[.int .i64 x.1, .int .i64 x.2] 24)) :=
  Src.ofSlice _ Try.underlying26 _ 1 1 _ rfl (fun j u hu => by
    rw [Addr.add_lit, Nat.zero_add]; exact cell_new _ _ _ j u (by rw [← hu, ← Array.getElem?_toList]; rfl)) (pc_one _)
/-- What has been appended to a row in a fresh block: the rest stays. -/
structure Tl (w0 : World) (base : Nat) (v : Value) (n : Nat) (l : List E2) (w : World) : Prop where
  own : w.ownsRow base 24 2 v n (pc l)
  only : w0.grownBy w none
  far : ∀ k, v.ownBlock = some k → w0.heap.size ≤ k
theorem Tl.of {w0 w1 w2 : World} {base n m : Nat} {v v2 : Value} {l l2 : List E2} (h : Tl w0 base v n l w1) (g : GrewW w1 w2 base 24 2 v v2 m (pc l2)) : Tl w0 base v2 m l2 w2 := by
  refine ⟨g.own, only_step h.only g.only (fun k hk => .inr (h.far k hk)), fun k hk => ?_⟩
  rcases g.at_ with e | ⟨b, e, hb⟩
  · exact h.far k (e ▸ hk)
  · rw [e] at hk; cases hk; exact Nat.le_trans h.only.size hb
theorem Tl.keep {w0 w1 w2 : World} {base n : Nat} {v : Value} {l : List E2} (h : Tl w0 base v n l w1) (g : w1.grownBy w2 none) : Tl w0 base v n l w2 :=
  ⟨h.own.kept g (by cases v.ownBlock <;> simp), only_step h.only g (fun _ h => by cases h), h.far⟩
section
variable {P : Program} (w : World)
/-- append onto a slice that has no room: it moves. -/
theorem run_append_moves (base : Nat) (t tx ty e : TypeId) (i : TypeInfo) (z : Value) (bytes s : Nat) (ht : P.underlying t = some (.slice e)) (hi : P.info? e = some i) (hz : i.zero = some z)
    (hsize : i.size = s) (hby : i.bytes = bytes) (hzs : z.cells.size = s)
    (A : Option Addr) (n : Nat) (xs : List Value) (hx : Src P s t (.slice A n n) n xs w) (x : Value) (m : Nat) (news : List Value) (hm : 0 < m) (hs : Src P s tx x m news w)
    (h63 : n + m ≤ maxLen) (hbytes : (n + m) * bytes ≤ 140737488355328) (hbase : base ≤ w.heap.size) :
    ∃ v' w', (Builtin.append_ #[t, tx] ty #[.slice A n n, x]).run P w = .ok v' w' ∧ w'.ownsRow base e s v' (n + m) (xs ++ news) ∧ w.grownBy w' none ∧ ∀ k, v'.ownBlock = some k → w.heap.size ≤ k := by
  subst hby
  have hsmall : n + m ≤ 9223372036854775807 := by simpa only [maxLen] using h63
  have hxl : xs.length = n * s := hx.newsLen
  have hnl : news.length = m * s := hs.newsLen
  have hal : (xs ++ news).length = (n + m) * s := by rw [List.length_append, hxl, hnl, Nat.add_mul]
  have hge := grownCap_ge w (n + m) n e
  have hcm : grownCap w (n + m) n e ≤ maxLen := grownCap_le_maxLen w _ n e h63
  have hr := run_append_grow_src w t tx ty e i z ht hi hz A n n xs (by rw [hsize]; exact hx.cellsD) x m news (by rw [hsize]; exact hs) (by omega) (by omega)
    (growslice_fits (by omega) hbytes)
  refine ⟨_, _, hr, ⟨hal, .inr ⟨w.heap.size, _, _, rfl, hbase, heap_alloc_new w.drew _, hge, hcm, ?_, ?_⟩⟩, ⟨rfl, rfl, rfl, by simp, fun k hk _ => Below.heap_alloc w.drew _ k hk⟩, fun k hk => ?_⟩
  · simp only [Array.size_append, List.size_toArray, size_zeroCells, hzs, hal]
    rw [← Nat.add_mul]
    congr 1
    omega
  · simp only [Array.toList_append]
    rw [← hal]
    exact List.take_left
  · simp only [Value.ownBlock] at hk
    injection hk with hk
    omega
end
/-- append at a step of a region that draws its order: onto a row of the call's own; onto a slice without room. -/
theorem step_app_r {w : World} {ops : Array Oper} {o : Oper} {a : Act} {K : Act → World → Prop} {Q : Exit → Act → World → Prop} {E : Prop} (hgd : o.guard = none) (s x : Operand) (tx : TypeId)
    (ho : o.op = .call { callee := .builtin .append, args := #[s, x], argTypes := #[26, tx] })
    (base : Nat) (v : Value) (n : Nat) (xs : List Value) (hs : a.eval s = v) (hown : w.ownsRow base 24 2 v n xs) (u : Value) (m : Nat) (news : List Value) (hu : a.eval x = u) (hsrc : Src Try.prog 2 tx u m news w)
    (hlen : n + m ≤ 2199023255552) (hbase : base ≤ w.heap.size)
    (h : ∀ v' w', GrewW w w' base 24 2 v v' (n + m) (xs ++ news) → K (a.put o.dst v') w') : if Region.wanted o (yielded ops a.tmps) = true then Oper.wp Try.prog o a w K Q else E := by
  have hw : Region.wanted o (yielded ops a.tmps) = true := by simp [Region.wanted, hgd]
  rw [if_pos hw]
  obtain ⟨i, hi, hzz⟩ := Option.map_eq_some_iff.1 Try.info_range
  simp only [Prod.mk.injEq] at hzz
  obtain ⟨hz, hsz, hb⟩ := hzz
  obtain ⟨v', w', hrun, hgr⟩ := run_append_wide (P := Try.prog) w base 26 tx o.type 24 i _ 16 2 Try.underlying26 hi hz hsz hb rfl v n xs hown u m news hsrc (by unfold maxLen; omega) (by omega) hbase
  unfold Oper.wp execOp
  simp only [ho, resolve, invoke, builtin, Sem.run_bind, Sem.run_pure, Result.andThen_ok, List.map_toArray, List.map_cons, List.map_nil, hs, hu, hrun]
  exact h v' w' hgr
theorem step_app_moves {w : World} {ops : Array Oper} {o : Oper} {a : Act} {K : Act → World → Prop} {Q : Exit → Act → World → Prop} {E : Prop} (hgd : o.guard = none) (s x : Operand) (tx : TypeId)
    (ho : o.op = .call { callee := .builtin .append, args := #[s, x], argTypes := #[26, tx] })
    (base : Nat) (A : Option Addr) (n : Nat) (xs : List Value) (hs : a.eval s = .slice A n n) (hx : Src Try.prog 2 26 (.slice A n n) n xs w) (u : Value) (m : Nat) (news : List Value) (hm : 0 < m) (hu : a.eval x = u) (hsrc : Src Try.prog 2 tx u m news w)
    (hlen : n + m ≤ 2199023255552) (hbase : base ≤ w.heap.size)
    (h : ∀ v' w', (w'.ownsRow base 24 2 v' (n + m) (xs ++ news) ∧ w.grownBy w' none ∧ ∀ k, v'.ownBlock = some k → w.heap.size ≤ k) → K (a.put o.dst v') w') : if Region.wanted o (yielded ops a.tmps) = true then Oper.wp Try.prog o a w K Q else E := by
  have hw : Region.wanted o (yielded ops a.tmps) = true := by simp [Region.wanted, hgd]
  rw [if_pos hw]
  obtain ⟨i, hi, hzz⟩ := Option.map_eq_some_iff.1 Try.info_range
  simp only [Prod.mk.injEq] at hzz
  obtain ⟨hz, hsz, hb⟩ := hzz
  obtain ⟨v', w', hrun, hgr⟩ := run_append_moves (P := Try.prog) w base 26 tx o.type 24 i _ 16 2 Try.underlying26 hi hz hsz hb rfl A n xs hx u m news hm hsrc (by unfold maxLen; omega) (by omega) hbase
  unfold Oper.wp execOp
  simp only [ho, resolve, invoke, builtin, Sem.run_bind, Sem.run_pure, Result.andThen_ok, List.map_toArray, List.map_cons, List.map_nil, hs, hu, hrun]
  exact h v' w' hgr
theorem slice_cut {w : World} {lim : Nat} {A : Option Addr} {c : Nat} {l : List E2} (h : Vw w lim A c l) (k : Nat) (hk : k ≤ l.length) :
    ∀ W, (Instr.sliceAt 26 (.slice A l.length c) none (some (.int .i64 (k : Int))) (some (.int .i64 (k : Int)))).run Try.prog W = .ok (.slice A k k) W := fun W => by
  have hu : Try.prog.underlying 26 = some (.slice (Try.prog.elem 26)) := Try.underlying26
  have hcap := h.cap
  rw [run_sliceAt_slice (h := hu), run_slice_hm (ht := hu) (h0 := by omega) (h2 := Int.le_refl _) (h3 := by omega)]
  rw [show Try.prog.elem 26 = 24 by rfl, Try.sizeOf24]
  cases A with
  | none => simp [Result.andThen, sliced]
  | some a =>
    have : a.add 0 = a := by cases a; rfl
    simp [Result.andThen, sliced, this]
end Go.Proofs.Ytnljccmchmclnaa
