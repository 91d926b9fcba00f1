/- The reference's timers: rows of its items, append, slicing. No condition of the program's own. -/
import Derived.Test.YtgfpogmipennaaaOn
namespace Go.Proofs.Ytgfpogmipennaaa
open Go.RowKit Go.Deep
theorem Try.info_ritem : (Try.prog.info? 61).map (fun i => (i.zero, i.size, i.bytes)) = some (some (.agg #[.int .i64 0, .int .i64 0]), 2, 16) := by kernel_rfl
theorem pc_drop (l : List It) (k : Nat) : pc (l.drop k) = (pc l).drop (k * 2) := by
  have h := congrArg pc (List.take_append_drop k l)
  rw [pc_append] at h
  by_cases hk : k ≤ l.length
  · rw [← h, List.drop_left' (by rw [pc_len, List.length_take]; omega)]
  · rw [List.drop_eq_nil_of_le (by omega), List.drop_eq_nil_of_le (by rw [pc_len]; omega)]; rfl
theorem Has.kept {w w' : World} {lim : Nat} {A : Option Addr} {xs : List Value} (h : Has w lim A xs) (hg : w.grownBy w' none) (hl : lim ≤ w.heap.size) : Has w' lim A xs :=
  h.only hg hl (fun _ e => by cases e)
theorem Has.rng {w : World} {lim : Nat} {A : Option Addr} {l : List It} (h : Has w lim A (pc l)) {i : Nat} {x : It} (hx : l[i]? = some x) :
    ∃ b off, A = some ⟨b, off, none⟩ ∧ b < lim ∧ w.cell? ⟨b, off + i * 2, none⟩ = some (.int .i64 x.1) ∧ w.cell? ⟨b, off + i * 2 + 1, none⟩ = some (.int .i64 x.2) := by
  have h2 := pc_at l i x hx
  rcases h with h0 | ⟨b, off, hA, hb, hc⟩
  · rw [h0] at h2; simp at h2
  · exact ⟨b, off, hA, hb, by rw [Nat.mul_comm]; exact hc _ _ h2.1, by rw [Nat.mul_comm, Nat.add_assoc]; exact hc _ _ h2.2⟩
theorem Has.front {w : World} {lim : Nat} {A : Option Addr} {xs : List Value} (h : Has w lim A xs) (k : Nat) : Has w lim A (xs.take k) := by
  rcases h with rfl | ⟨b, off, hA, hb, hc⟩
  · exact .inl (by simp)
  · refine .inr ⟨b, off, hA, hb, fun j u hu => hc j u ?_⟩
    rw [List.getElem?_take] at hu
    split at hu
    · exact hu
    · cases hu
/-- append onto a row of the call's own. -/
theorem app_rit {w : World} {ops : Array Oper} {rest : List Oper} {o : Oper} {a : Act} {Q : Exit → Act → World → Prop} (hgd : o.guard = none) (s x : Operand) (tx : TypeId)
    (ho : o.op = .call { callee := .builtin .append, args := #[s, x], argTypes := #[37, tx] })
    (base : Nat) (v : Value) (n : Nat) (xs : List Value) (hs : a.eval s = v) (hown : w.ownsRow base 61 2 v n xs) (u : Value) (m : Nat) (news : List Value) (hu : a.eval x = u) (hsrc : Src Try.prog 2 tx u m news w)
    (hlen : n + m ≤ 2199023255552) (hbase : base ≤ w.heap.size)
    (h : ∀ v' w', GrewW w w' base 61 2 v v' (n + m) (xs ++ news) → wpList Try.prog ops Q rest (a.put o.dst v') w') : wpList Try.prog ops Q (o :: rest) a w := by
  obtain ⟨i, hi, hzz⟩ := Option.map_eq_some_iff.1 Try.info_ritem
  simp only [Prod.mk.injEq] at hzz
  obtain ⟨hz, hsz, hb⟩ := hzz
  exact wpList_append_wide w hgd s x 37 tx ho base 61 i _ 16 2 Try.underlying37 hi hz hsz hb rfl v n xs hs hown u m news hu hsrc (by unfold maxLen; omega) (by omega) hbase h
theorem Has.own_w {w : World} {base e s n c : Nat} {A : Option Addr} {xs : List Value} (h : w.ownsRow base e s (.slice A n c) n xs) : Has w w.heap.size A xs ∧ (∀ b off sp, A = some ⟨b, off, sp⟩ → base ≤ b) ∧ n ≤ c := by
  have hc := fun g => h.cells (g := g)
  rcases h.2 with ⟨hv, h0⟩ | ⟨g, cap, cur, hv, hb, hg, h1, h2, _⟩
  · injection hv with e1 e2 e3
    refine ⟨.inl (List.eq_nil_of_length_eq_zero (by rw [h.1, h0, Nat.zero_mul])), (fun b off sp e => by rw [e1] at e; cases e), by omega⟩
  · injection hv with e1 e2 e3
    refine ⟨.inr ⟨g, 0, e1, (Array.getElem?_eq_some_iff.1 hg).1, fun j u hu => ?_⟩, (fun b off sp e => by rw [e1] at e; cases e; exact hb), by omega⟩
    have := hc g (by rw [e1]; rfl) j u hu
    rw [Addr.add_lit] at this
    exact this
/-- A slice of the reference's items that reads l. -/
structure Vw (w : World) (lim : Nat) (A : Option Addr) (c : Nat) (l : List It) : Prop where
  has : Has w lim A (pc l)
  cap : l.length ≤ c
  nil : A = none → c = 0
theorem Vw.keep {w w' : World} {lim : Nat} {A : Option Addr} {c : Nat} {l : List It} (h : Vw w lim A c l) (hg : w.grownBy w' none) (hl : lim ≤ w.heap.size) : Vw w' lim A c l := ⟨h.has.kept hg hl, h.cap, h.nil⟩
theorem Vw.up {w w' : World} {A : Option Addr} {c : Nat} {l : List It} (h : Vw w w.heap.size A c l) (hg : w.grownBy w' none) : Vw w' w'.heap.size A c l := ⟨(h.has.kept hg (Nat.le_refl _)).more hg.size, h.cap, h.nil⟩
theorem Vw.own {w : World} {base n c : Nat} {A : Option Addr} {l : List It} (h : w.ownsRow base 61 2 (.slice A n c) n (pc l)) : Vw w w.heap.size A c l ∧ n = l.length := by
  have hn : n = l.length := by have := h.1; rw [pc_len] at this; omega
  refine ⟨⟨(Has.own_w h).1, by have := (Has.own_w h).2.2; omega, ?_⟩, hn⟩
  rintro rfl
  rcases h.2 with ⟨hv, h0⟩ | ⟨g, cap, cur, hv, _, _, h1, _⟩
  · injection hv
  · injection hv with e; cases e
theorem Vw.src {w : World} {lim : Nat} {A : Option Addr} {c : Nat} {l : List It} (h : Vw w lim A c l) (k c' : Nat) (hk : k ≤ l.length) : Src Try.prog 2 37 (.slice A k c') k (pc (l.take k)) w := by
  have hl : (pc (l.take k)).length = k * 2 := by rw [pc_len, List.length_take]; omega
  rcases h.has.front (k * 2) with h0 | ⟨b, off, rfl, _, hc⟩
  · rw [← pc_take] at h0
    rw [h0] at hl ⊢
    have : k = 0 := by simp at hl; omega
    subst this
    cases A with
    | none => exact Src.ofNil w Try.underlying37 c'
    | some a => exact Src.ofSlice w Try.underlying37 a 0 c' [] (by simp) (fun j u hu => by simp at hu) (fun _ h => by cases h)
  · rw [← pc_take] at hc
    exact Src.ofSlice w Try.underlying37 _ k c' _ hl (fun j u hu => by rw [Addr.add_lit]; exact hc j u hu) (pc_one _)
theorem slice_lo {w : World} {lim : Nat} {A : Option Addr} {c : Nat} {l : List It} (h : Vw w lim A c l) (k : Nat) (hk : k ≤ l.length) :
    ∃ A', (∀ W, (Instr.sliceAt 37 (.slice A l.length c) (some (.int .i64 (k : Int))) none none).run Try.prog W = .ok (.slice A' (l.length - k) (c - k)) W) ∧ Vw w lim A' (c - k) (l.drop k) ∧ (∀ b off sp, A' = some ⟨b, off, sp⟩ → ∃ off' sp', A = some ⟨b, off', sp'⟩) := by
  have hu : Try.prog.underlying 37 = some (.slice (Try.prog.elem 37)) := Try.underlying37
  have hcap := h.cap
  refine ⟨if c = k then A else A.map (·.add (k * 2)), fun W => ?_, ⟨?_, ?_, ?_⟩, ?_⟩
  · rw [run_sliceAt_slice (h := hu), run_slice_l (ht := hu) (h0 := by omega) (h1 := by omega)]
    rw [show Try.prog.elem 37 = 61 by rfl, Try.sizeOf61]
    simp [Result.andThen, sliced]
  · rw [pc_drop]
    by_cases hck : c = k
    · rw [List.drop_eq_nil_of_le (by rw [pc_len]; omega)]; exact Has.nil
    · rw [if_neg hck]
      rcases h.has with h0 | ⟨b, off, rfl, hb, hc⟩
      · rw [h0]; exact .inl (by simp)
      · refine .inr ⟨b, off + k * 2, by simp [Addr.add_lit], hb, fun j u hu => ?_⟩
        rw [List.getElem?_drop] at hu
        rw [Nat.add_assoc]; exact hc _ u hu
  · rw [List.length_drop]; omega
  · intro hn
    by_cases hck : c = k
    · omega
    · rw [if_neg hck] at hn
      cases A with
      | none => have := h.nil rfl; omega
      | some a => cases hn
  · intro b off sp e
    split at e
    · exact ⟨off, sp, e⟩
    · cases A with
      | none => cases e
      | some a =>
        obtain ⟨b', off', sp'⟩ := a
        refine ⟨off', sp', ?_⟩
        simp only [Option.map_some, Addr.add, Option.some.injEq] at e
        split at e
        · injection e with e1; rw [e1]
        · injection e with e1; rw [e1]
theorem slice_hi {w : World} {lim : Nat} {A : Option Addr} {c : Nat} {l : List It} (h : Vw w lim A c l) (k : Nat) (hk : k ≤ l.length) :
    ∀ W, (Instr.sliceAt 37 (.slice A l.length c) none (some (.int .i64 (k : Int))) none).run Try.prog W = .ok (.slice A k c) W := fun W => by
  have hu : Try.prog.underlying 37 = some (.slice (Try.prog.elem 37)) := Try.underlying37
  have hcap := h.cap
  rw [run_sliceAt_slice (h := hu), run_slice_h (ht := hu) (h0 := by omega) (h2 := by omega)]
  rw [show Try.prog.elem 37 = 61 by rfl, Try.sizeOf61]
  cases A with
  | none => simp [Result.andThen, sliced]
  | some a =>
    have : a.add 0 = a := by cases a; rfl
    simp [Result.andThen, sliced, this]
theorem src_rit (w : World) (x : It) (T : TypeId) : Src Try.prog 2 37 (.slice (some ⟨w.heap.size, 0, none⟩) 1 1) 1 (pc [x]) (w.alloc (.cells #[.int .i64 x.1, .int .i64 x.2] T)) :=
  Src.ofSlice _ Try.underlying37 _ 1 1 _ rfl (fun j u hu => by
    rw [Addr.add_lit, Nat.zero_add]; exact cell_new _ _ _ j u (by rw [← hu, ← Array.getElem?_toList]; rfl)) (pc_one _)
/-- The reference's block: it holds S. -/
structure RS (w : World) (Bx : Nat) (A : Option Addr) (c : Nat) (S : List It) : Prop where
  blk : w.heap[Bx]? = some (.cells #[.slice A S.length c] 39 (0, 0))
  vw : Vw w w.heap.size A c S
  al : ∀ b off sp, A = some ⟨b, off, sp⟩ → b < w.heap.size
theorem RS.cell {w : World} {Bx : Nat} {A : Option Addr} {c : Nat} {S : List It} (h : RS w Bx A c S) : w.cell? ⟨Bx, 0, none⟩ = some (.slice A S.length c) := cell_of_heap h.blk 0 _ rfl
theorem RS.thaw {w : World} {Bx : Nat} {A : Option Addr} {c : Nat} {S : List It} (h : RS w Bx A c S) : w.frozen? ⟨Bx, 0, none⟩ = false := thaw_of_heap h.blk 0
theorem RS.lt {w : World} {Bx : Nat} {A : Option Addr} {c : Nat} {S : List It} (h : RS w Bx A c S) : Bx < w.heap.size := (Array.getElem?_eq_some_iff.1 h.blk).1
theorem RS.keep {w w' : World} {Bx : Nat} {A : Option Addr} {c : Nat} {S : List It} (h : RS w Bx A c S) (g : w.grownBy w' none) : RS w' Bx A c S := ⟨(g.block Bx h.lt (by simp)).trans h.blk, h.vw.up g, fun b off sp e => Nat.lt_of_lt_of_le (h.al b off sp e) g.size⟩
/-- What an operation of the reference leaves: only its block, and new ones, have turned; its row lies in the elder one's block, or in a new one. -/
structure RG (w w' : World) (Bx : Nat) (A : Option Addr) (S' : List It) (A' : Option Addr) (c' : Nat) : Prop where
  rs : RS w' Bx A' c' S'
  only : w.grownBy w' (some Bx)
  blk : ∀ b off sp, A' = some ⟨b, off, sp⟩ → (∃ off' sp', A = some ⟨b, off', sp'⟩) ∨ w.heap.size ≤ b
end Go.Proofs.Ytgfpogmipennaaa
