/- A node of package replica as data: its value, its draft in memory, what is protected while a draft is at work. No condition. -/
import Derived.Test.YtjhnipnocjoelaaWide
import Derived.Test.YtjhnipnocjoelaaLt
import Derived.LoopTactic
import Derived.Deep.CutBlock
import Derived.Deep.DeepCutAuto
import Derived.BigQuiet
import Derived.Deep.QuietTactic
import Derived.StillTailTactics
import Derived.Laws.Rows
import Derived.Laws.CopyRow
namespace Go.Proofs.Ytjhnipnocjoelaa
open Go.RowKit Go.Deep
def es (l : List (Int × ByteArray)) : List Value := l.flatMap fun p => [.int .i64 p.1, .string p.2]
theorem es_len (l : List (Int × ByteArray)) : (es l).length = l.length * 2 := by
  induction l with
  | nil => rfl
  | cons p r ih => show (_ :: _ :: es r).length = _; simp only [List.length_cons, ih]; omega
theorem es_app (l m : List (Int × ByteArray)) : es (l ++ m) = es l ++ es m := by simp [es]
theorem es_at (l : List (Int × ByteArray)) : ∀ (i : Nat) (x : Int × ByteArray), l[i]? = some x → (es l)[i * 2]? = some (.int .i64 x.1) ∧ (es l)[i * 2 + 1]? = some (.string x.2) := by
  induction l with
  | nil => intro i x h; simp at h
  | cons p r ih =>
    intro i x h
    have e : es (p :: r) = .int .i64 p.1 :: .string p.2 :: es r := rfl
    cases i with
    | zero => simp at h; subst h; exact ⟨rfl, rfl⟩
    | succ k =>
      have := ih k x (by simpa using h)
      rw [e, show (k + 1) * 2 = k * 2 + 1 + 1 by omega]
      simpa using this
theorem es_drop (l : List (Int × ByteArray)) (k : Nat) : es (l.drop k) = (es l).drop (k * 2) := by
  induction l generalizing k with
  | nil => simp [es]
  | cons p r ih =>
    cases k with
    | zero => simp
    | succ k => rw [List.drop_succ_cons, ih, show (k + 1) * 2 = k * 2 + 1 + 1 by omega]; rfl
theorem es_take (l : List (Int × ByteArray)) (k : Nat) : es (l.take k) = (es l).take (k * 2) := by
  induction l generalizing k with
  | nil => simp [es]
  | cons p r ih =>
    cases k with
    | zero => simp [es]
    | succ k => rw [List.take_succ_cons, show (k + 1) * 2 = k * 2 + 1 + 1 by omega]; show _ :: _ :: es _ = _; rw [ih]; rfl
theorem es_one (l : List (Int × ByteArray)) : ∀ u ∈ es l, u.oneCell' = true := fun u hu => by
  obtain ⟨p, _, h⟩ := List.mem_flatMap.1 hu
  simp only [List.mem_cons, List.not_mem_nil, or_false] at h
  rcases h with rfl | rfl <;> rfl
/-- A node. -/
structure Nd where
  id : Int
  term : Int
  vote : Int
  base : Int
  bt : Int
  snap : ByteArray
  log : List (Int × ByteArray)
  role : Int
  cm : Int
  wait : Int
  v0 : Bool
  v1 : Bool
  v2 : Bool
  x0 : Int
  x1 : Int
  x2 : Int
  y0 : Int
  y1 : Int
  y2 : Int
def Nd.val (n : Nd) (L : Value) : Value := .agg #[.int .i64 n.id, .int .i64 n.term, .int .i64 n.vote, .int .i64 n.base, .int .i64 n.bt, .string n.snap, L, .int .i64 n.role, .int .i64 n.cm, .int .i64 n.wait, .bool n.v0, .bool n.v1, .bool n.v2, .int .i64 n.x0, .int .i64 n.x1, .int .i64 n.x2, .int .i64 n.y0, .int .i64 n.y1, .int .i64 n.y2]
def Nd.cells (n : Nd) (L : Value) : Array Value := #[.int .i64 n.id, .int .i64 n.term, .int .i64 n.vote, .int .i64 n.base, .int .i64 n.bt, .string n.snap, L, .int .i64 n.role, .int .i64 n.cm, .int .i64 n.wait, .bool n.v0, .bool n.v1, .bool n.v2, .int .i64 n.x0, .int .i64 n.x1, .int .i64 n.x2, .int .i64 n.y0, .int .i64 n.y1, .int .i64 n.y2]
/-- A message; its entries as a slice value. -/
structure Mg where
  kind : Int
  fr : Int
  dst : Int
  term : Int
  index : Int
  lt : Int
  cm : Int
  yes : Bool
  ent : Value
  snap : ByteArray
def Mg.val (m : Mg) : Value := .agg #[.int .i64 m.kind, .int .i64 m.fr, .int .i64 m.dst, .int .i64 m.term, .int .i64 m.index, .int .i64 m.lt, .int .i64 m.cm, .bool m.yes, m.ent, .string m.snap]
def Mg.cs (m : Mg) : List Value := [.int .i64 m.kind, .int .i64 m.fr, .int .i64 m.dst, .int .i64 m.term, .int .i64 m.index, .int .i64 m.lt, .int .i64 m.cm, .bool m.yes, m.ent, .string m.snap]
def ms (l : List Mg) : List Value := l.flatMap Mg.cs
theorem ms_len (l : List Mg) : (ms l).length = l.length * 10 := by
  induction l with
  | nil => rfl
  | cons p r ih => show (p.cs ++ ms r).length = _; rw [List.length_append, ih]; show 10 + _ = _; simp only [List.length_cons]; omega
theorem ms_app (l m : List Mg) : ms (l ++ m) = ms l ++ ms m := by simp [ms]
/-- What is the same in two worlds. -/
structure Kept (P : Nat → Prop) (w w' : World) : Prop where
  os : w'.os = w.os
  tape : w'.tape = w.tape
  output : w'.output = w.output
  size : w.heap.size ≤ w'.heap.size
  blk : ∀ k, P k → w'.heap[k]? = w.heap[k]?
theorem Kept.refl (P : Nat → Prop) (w : World) : Kept P w w := ⟨rfl, rfl, rfl, Nat.le_refl _, fun _ _ => rfl⟩
theorem Kept.trans {P : Nat → Prop} {w w1 w2 : World} (h : Kept P w w1) (k : Kept P w1 w2) : Kept P w w2 :=
  ⟨k.os.trans h.os, k.tape.trans h.tape, k.output.trans h.output, Nat.le_trans h.size k.size, fun j hj => (k.blk j hj).trans (h.blk j hj)⟩
theorem Kept.less {P Q : Nat → Prop} {w w' : World} (h : Kept P w w') (hq : ∀ k, Q k → P k) : Kept Q w w' := ⟨h.os, h.tape, h.output, h.size, fun k hk => h.blk k (hq k hk)⟩
theorem Kept.of {P : Nat → Prop} {w w' : World} {r : Option Nat} (g : w.grownBy w' r) (hp : ∀ k, P k → k < w.heap.size ∧ r ≠ some k) : Kept P w w' :=
  ⟨g.os, g.tape, g.output, g.size, fun k hk => g.block k (hp k hk).1 (fun e => (hp k hk).2 e.symm)⟩
theorem own_ty {w : World} {B e s n k : Nat} {v : Value} {xs : List Value} (h : w.ownsRow B e s v n xs) (hk : v.ownBlock = some k) : ∃ cur, w.heap[k]? = some (.cells cur e (0, 0)) := by
  rcases h.2 with ⟨hv, _⟩ | ⟨g, cap, cur, hv, _, hg, _⟩
  · rw [hv] at hk; cases hk
  · rw [hv] at hk; cases hk; exact ⟨cur, hg⟩
theorem own_blk {w w' : World} {B e s n : Nat} {v : Value} {xs : List Value} (h : w.ownsRow B e s v n xs) (hk : ∀ k, v.ownBlock = some k → w'.heap[k]? = w.heap[k]?) : w'.ownsRow B e s v n xs := by
  rcases h.2 with ⟨hv, h0⟩ | ⟨g, cap, cur, hv, hb, hg, h2⟩
  · exact ⟨h.1, .inl ⟨hv, h0⟩⟩
  · exact ⟨h.1, .inr ⟨g, cap, cur, hv, hb, (hk g (by rw [hv]; rfl)).trans hg, h2⟩⟩
theorem own_less {w : World} {B B' e s n : Nat} {v : Value} {xs : List Value} (h : w.ownsRow B e s v n xs) (hb : B' ≤ B) : w.ownsRow B' e s v n xs := by
  rcases h.2 with h0 | ⟨g, cap, cur, hv, hg, h2⟩
  · exact ⟨h.1, .inl h0⟩
  · exact ⟨h.1, .inr ⟨g, cap, cur, hv, by omega, h2⟩⟩
theorem own_slice_w {w : World} {base e s n : Nat} {v : Value} {xs : List Value} (h : w.ownsRow base e s v n xs) : ∃ A c, v = .slice A n c := by
  rcases h.2 with ⟨hv, h0⟩ | ⟨g, cap, _, hv, _⟩
  · exact ⟨none, 0, by rw [hv, h0]⟩
  · exact ⟨_, cap, hv⟩
theorem Has.own_w {w : World} {base e s n c : Nat} {A : Option Addr} {xs : List Value} (h : w.ownsRow base e s (.slice A n c) n xs) : Has w w.heap.size A xs := by
  rcases h.2 with ⟨hv, hn⟩ | ⟨g, cap, cur, hv, _, hh, _⟩
  · exact .inl (List.eq_nil_of_length_eq_zero (by rw [h.1, hn]; simp))
  · right
    have hA : A = some ⟨g, 0, none⟩ := by injection hv
    subst hA
    refine ⟨g, 0, rfl, (Array.getElem?_eq_some_iff.1 hh).1, fun j u hu => ?_⟩
    have := h.cells (g := g) rfl j u hu
    rw [Addr.add_lit] at this
    exact this
theorem Has.kept {w w' : World} {lim : Nat} {A : Option Addr} {xs : List Value} (h : Has w lim A xs) (hg : w.grownBy w' none) (hl : lim ≤ w.heap.size) : Has w' lim A xs :=
  h.keep fun p hp => World.cell?_of_block (hg.block p.block (by omega) (by simp))
theorem Has.up {w w' : World} {A : Option Addr} {xs : List Value} (h : Has w w.heap.size A xs) (hg : w.grownBy w' none) : Has w' w'.heap.size A xs :=
  (h.kept hg (Nat.le_refl _)).more hg.size
def draftT : Nat := 87
/-- A draft at block g: the node n with its log at L, what it has sent at M; the blocks of P are none of its own. -/
structure DrV (w : World) (P : Nat → Prop) (g : Nat) (n : Nd) (L : Value) (S : List Mg) (M : Value) : Prop where
  at_ : w.heap[g]? = some (.cells (n.cells L |>.push M) 87 (0, 0))
  log : w.ownsRow 0 49 2 L n.log.length (es n.log)
  sent : w.ownsRow 0 25 10 M S.length (ms S)
  out : ∀ k, P k → k < w.heap.size ∧ k ≠ g ∧ L.ownBlock ≠ some k ∧ M.ownBlock ≠ some k
def Dr (w : World) (P : Nat → Prop) (g : Nat) (n : Nd) (S : List Mg) : Prop := ∃ L M : Value, DrV w P g n L S M
section
variable {w w' : World} {P : Nat → Prop} {g : Nat} {n : Nd} {L M : Value} {S : List Mg}
theorem DrV.lt (h : DrV w P g n L S M) : g < w.heap.size := (Array.getElem?_eq_some_iff.1 h.at_).1
theorem DrV.logg (h : DrV w P g n L S M) : L.ownBlock ≠ some g := fun e => by
  obtain ⟨cur, hc⟩ := own_ty h.log e
  rw [h.at_] at hc; cases hc
theorem DrV.sentg (h : DrV w P g n L S M) : M.ownBlock ≠ some g := fun e => by
  obtain ⟨cur, hc⟩ := own_ty h.sent e
  rw [h.at_] at hc; cases hc
theorem DrV.two (h : DrV w P g n L S M) (k : Nat) (hl : L.ownBlock = some k) : M.ownBlock ≠ some k := fun e => by
  obtain ⟨cur, hc⟩ := own_ty h.log hl
  obtain ⟨cur2, hc2⟩ := own_ty h.sent e
  rw [hc] at hc2; cases hc2
theorem DrV.cell (h : DrV w P g n L S M) (k : Nat) (u : Value) (hu : (n.cells L |>.push M)[k]? = some u) : w.cell? ⟨g, k, none⟩ = some u := by
  simp [World.cell?, h.at_, hu]
theorem DrV.fr (h : DrV w P g n L S M) (k : Nat) : w.frozen? ⟨g, k, none⟩ = false := by simp [World.frozen?, h.at_]
theorem DrV.all (h : DrV w P g n L S M) : w.cell? ⟨g, 0, none⟩ = some (.int .i64 n.id) ∧ w.cell? ⟨g, 1, none⟩ = some (.int .i64 n.term) ∧ w.cell? ⟨g, 2, none⟩ = some (.int .i64 n.vote) ∧ w.cell? ⟨g, 3, none⟩ = some (.int .i64 n.base) ∧ w.cell? ⟨g, 4, none⟩ = some (.int .i64 n.bt) ∧
    w.cell? ⟨g, 5, none⟩ = some (.string n.snap) ∧ w.cell? ⟨g, 6, none⟩ = some L ∧ w.cell? ⟨g, 7, none⟩ = some (.int .i64 n.role) ∧ w.cell? ⟨g, 8, none⟩ = some (.int .i64 n.cm) ∧ w.cell? ⟨g, 9, none⟩ = some (.int .i64 n.wait) ∧ w.cell? ⟨g, 10, none⟩ = some (.bool n.v0) ∧ w.cell? ⟨g, 11, none⟩ = some (.bool n.v1) ∧ w.cell? ⟨g, 12, none⟩ = some (.bool n.v2) ∧
    w.cell? ⟨g, 13, none⟩ = some (.int .i64 n.x0) ∧ w.cell? ⟨g, 14, none⟩ = some (.int .i64 n.x1) ∧ w.cell? ⟨g, 15, none⟩ = some (.int .i64 n.x2) ∧ w.cell? ⟨g, 16, none⟩ = some (.int .i64 n.y0) ∧ w.cell? ⟨g, 17, none⟩ = some (.int .i64 n.y1) ∧ w.cell? ⟨g, 18, none⟩ = some (.int .i64 n.y2) ∧ w.cell? ⟨g, 19, none⟩ = some M := by
  have h := h.at_
  simp [World.cell?, h, Nd.cells]
/-- One of its cells is set. -/
theorem DrV.set (h : DrV w P g n L S M) (k : Nat) (u : Value) (n' : Nd) (hc : (n.cells L |>.push M).setIfInBounds k u = (n'.cells L |>.push M)) (hl : n'.log = n.log) : DrV (w.setCell ⟨g, k, none⟩ u) P g n' L S M ∧ Kept P w (w.setCell ⟨g, k, none⟩ u) := by
  have hg : w.grownBy (w.setCell ⟨g, k, none⟩ u) (some g) := only_set (only_refl w (some g)) (.inl rfl) u
  refine ⟨⟨?_, ?_, ?_, fun j hj => ?_⟩, Kept.of hg (fun j hj => ⟨(h.out j hj).1, fun e => (h.out j hj).2.1 (by injection e with e; exact e.symm)⟩)⟩
  · have : (w.setCell ⟨g, k, none⟩ u).heap[g]? = some (.cells ((n.cells L |>.push M).setIfInBounds k u) 87 (0, 0)) := by simp [World.setCell, Array.getElem?_modify, h.at_]
    rw [this, hc]
  · rw [hl]
    exact own_blk h.log (fun j hj => hg.block j (h.log.lt j hj).2 (fun e => by injection e with e; exact h.logg (e ▸ hj)))
  · exact own_blk h.sent (fun j hj => hg.block j (h.sent.lt j hj).2 (fun e => by injection e with e; exact h.sentg (e ▸ hj)))
  · have h4 := h.out j hj
    exact ⟨by simpa using h4.1, h4.2⟩
/-- New blocks alone. -/
theorem DrV.grow (h : DrV w P g n L S M) (hg : w.grownBy w' none) : DrV w' P g n L S M :=
  ⟨(hg.block g h.lt (by simp)).trans h.at_, own_blk h.log (fun j hj => hg.block j (h.log.lt j hj).2 (by simp)), own_blk h.sent (fun j hj => hg.block j (h.sent.lt j hj).2 (by simp)), fun k hk => ⟨by have := (h.out k hk).1; have := hg.size; omega, (h.out k hk).2⟩⟩
theorem DrV.kept (h : DrV w P g n L S M) (hg : w.grownBy w' none) : Kept P w w' := Kept.of hg (fun k hk => ⟨(h.out k hk).1, by simp⟩)
/-- A new block is protected, too. -/
theorem DrV.add (h : DrV w P g n L S M) (hg : w.grownBy w' none) (b : Nat) (h1 : w.heap.size ≤ b) (h2 : b < w'.heap.size) : DrV w' (fun k => P k ∨ k = b) g n L S M := by
  have h' := h.grow hg
  refine ⟨h'.at_, h'.log, h'.sent, fun k hk => ?_⟩
  rcases hk with hk | rfl
  · exact h'.out k hk
  · refine ⟨h2, fun e => ?_, fun e => ?_, fun e => ?_⟩
    · have := h.lt; omega
    · have := (h.log.lt k e).2; omega
    · have := (h.sent.lt k e).2; omega
theorem DrV.less {Q : Nat → Prop} (h : DrV w P g n L S M) (hq : ∀ k, Q k → P k) : DrV w Q g n L S M := ⟨h.at_, h.log, h.sent, fun k hk => h.out k (hq k hk)⟩
/-- A protected block turned. -/
theorem DrV.off (h : DrV w P g n L S M) {b : Nat} (hb : P b) (hg : w.grownBy w' (some b)) : DrV w' P g n L S M := by
  have h4 := h.out b hb
  refine ⟨(hg.block g h.lt (fun e => by injection e with e; exact h4.2.1 e.symm)).trans h.at_, own_blk h.log (fun j hj => hg.block j (h.log.lt j hj).2 (fun e => by injection e with e; exact h4.2.2.1 (e ▸ hj))), own_blk h.sent (fun j hj => hg.block j (h.sent.lt j hj).2 (fun e => by injection e with e; exact h4.2.2.2 (e ▸ hj))), fun k hk => ⟨by have := (h.out k hk).1; have := hg.size; omega, (h.out k hk).2⟩⟩
/-- What it has sent has grown. -/
theorem DrV.more (h : DrV w P g n L S M) {M' : Value} {S' : List Mg} (hg : GrewW w w' 0 25 10 M M' S'.length (ms S')) : DrV (w'.setCell ⟨g, 19, none⟩ M') P g n L S' M' ∧ Kept P w (w'.setCell ⟨g, 19, none⟩ M') := by
  have e1 : w'.heap[g]? = w.heap[g]? := hg.only.block g h.lt (fun e => h.sentg e.symm)
  have hs : w'.grownBy (w'.setCell ⟨g, 19, none⟩ M') (some g) := only_set (only_refl w' (some g)) (.inl rfl) M'
  have hgl : g < w'.heap.size := by have := h.lt; have := hg.only.size; omega
  have hM : M'.ownBlock ≠ some g := fun e => by
    obtain ⟨cur, hc⟩ := own_ty hg.own e
    rw [e1, h.at_] at hc; cases hc
  refine ⟨⟨?_, ?_, ?_, fun k hk => ?_⟩, ?_⟩
  · have : (w'.setCell ⟨g, 19, none⟩ M').heap[g]? = some (.cells ((n.cells L |>.push M).setIfInBounds 19 M') 87 (0, 0)) := by simp [World.setCell, Array.getElem?_modify, e1, h.at_]
    rw [this]; rfl
  · exact own_blk h.log (fun j hj => (hs.block j (by have := (h.log.lt j hj).2; have := hg.only.size; omega) (fun e => by injection e with e; exact h.logg (e ▸ hj))).trans (hg.only.block j (h.log.lt j hj).2 (fun e => h.two j hj e.symm)))
  · exact own_blk hg.own (fun j hj => hs.block j (hg.own.lt j hj).2 (fun e => by injection e with e; exact hM (e ▸ hj)))
  · have h4 := h.out k hk
    refine ⟨by have := hg.only.size; have := hs.size; omega, h4.2.1, h4.2.2.1, fun e => ?_⟩
    rcases hg.at_ with h5 | ⟨q, h5, h6⟩
    · exact h4.2.2.2 (h5 ▸ e)
    · rw [h5] at e; cases e; omega
  · refine (Kept.of hg.only (fun k hk => ⟨(h.out k hk).1, (h.out k hk).2.2.2⟩)).trans ?_
    exact Kept.of hs (fun k hk => ⟨by have := (h.out k hk).1; have := hg.only.size; omega, fun e => by injection e with e; exact (h.out k hk).2.1 e.symm⟩)
/-- Its log has grown. -/
theorem DrV.logs (h : DrV w P g n L S M) {L' : Value} {l : List (Int × ByteArray)} (hg : GrewW w w' 0 49 2 L L' l.length (es l)) : DrV (w'.setCell ⟨g, 6, none⟩ L') P g { n with log := l } L' S M ∧ Kept P w (w'.setCell ⟨g, 6, none⟩ L') := by
  have e1 : w'.heap[g]? = w.heap[g]? := hg.only.block g h.lt (fun e => h.logg e.symm)
  have hs : w'.grownBy (w'.setCell ⟨g, 6, none⟩ L') (some g) := only_set (only_refl w' (some g)) (.inl rfl) L'
  have hgl : g < w'.heap.size := by have := h.lt; have := hg.only.size; omega
  have hM : L'.ownBlock ≠ some g := fun e => by
    obtain ⟨cur, hc⟩ := own_ty hg.own e
    rw [e1, h.at_] at hc; cases hc
  refine ⟨⟨?_, ?_, ?_, fun k hk => ?_⟩, ?_⟩
  · have : (w'.setCell ⟨g, 6, none⟩ L').heap[g]? = some (.cells ((n.cells L |>.push M).setIfInBounds 6 L') 87 (0, 0)) := by simp [World.setCell, Array.getElem?_modify, e1, h.at_]
    rw [this]; rfl
  · exact own_blk hg.own (fun j hj => hs.block j (hg.own.lt j hj).2 (fun e => by injection e with e; exact hM (e ▸ hj)))
  · exact own_blk h.sent (fun j hj => (hs.block j (by have := (h.sent.lt j hj).2; have := hg.only.size; omega) (fun e => by injection e with e; exact h.sentg (e ▸ hj))).trans (hg.only.block j (h.sent.lt j hj).2 (fun e => h.two j e.symm hj)))
  · have h4 := h.out k hk
    refine ⟨by have := hg.only.size; have := hs.size; omega, h4.2.1, fun e => ?_, h4.2.2.2⟩
    rcases hg.at_ with h5 | ⟨q, h5, h6⟩
    · exact h4.2.2.1 (h5 ▸ e)
    · rw [h5] at e; cases e; omega
  · refine (Kept.of hg.only (fun k hk => ⟨(h.out k hk).1, (h.out k hk).2.2.1⟩)).trans ?_
    exact Kept.of hs (fun k hk => ⟨by have := (h.out k hk).1; have := hg.only.size; omega, fun e => by injection e with e; exact (h.out k hk).2.1 e.symm⟩)
/-- Another log is laid in its place. -/
theorem DrV.log_new (h : DrV w P g n L S M) {L' : Value} {l : List (Int × ByteArray)} {base : Nat} (hg : w.grownBy w' none) (ho : w'.ownsRow base 49 2 L' l.length (es l)) (hb : w.heap.size ≤ base) : DrV (w'.setCell ⟨g, 6, none⟩ L') P g { n with log := l } L' S M ∧ Kept P w (w'.setCell ⟨g, 6, none⟩ L') := by
  have h' := h.grow hg
  have hs : w'.grownBy (w'.setCell ⟨g, 6, none⟩ L') (some g) := only_set (only_refl w' (some g)) (.inl rfl) L'
  have hM : L'.ownBlock ≠ some g := fun e => by have := (ho.lt g e).1; have := h.lt; omega
  refine ⟨⟨?_, ?_, ?_, fun k hk => ?_⟩, ?_⟩
  · have : (w'.setCell ⟨g, 6, none⟩ L').heap[g]? = some (.cells ((n.cells L |>.push M).setIfInBounds 6 L') 87 (0, 0)) := by simp [World.setCell, Array.getElem?_modify, h'.at_]
    rw [this]; rfl
  · exact own_less (own_blk ho (fun j hj => hs.block j (ho.lt j hj).2 (fun e => by injection e with e; exact hM (e ▸ hj)))) (Nat.zero_le _)
  · exact own_blk h'.sent (fun j hj => hs.block j (h'.sent.lt j hj).2 (fun e => by injection e with e; exact h'.sentg (e ▸ hj)))
  · have h4 := h'.out k hk
    refine ⟨by simpa using h4.1, h4.2.1, fun e => ?_, h4.2.2.2⟩
    have := (ho.lt k e).1; have := (h.out k hk).1; omega
  · exact (h.kept hg).trans (Kept.of hs (fun k hk => ⟨(h'.out k hk).1, fun e => by injection e with e; exact (h'.out k hk).2.1 e.symm⟩))
end
/-- A struct of many cells, read whole. -/
theorem load_agg {w : World} {ty : TypeId} {g o : Nat} {cs : Array Value} {d : TypeDesc} (hc : ∀ j v, cs[j]? = some v → w.cell? ⟨g, o + j, none⟩ = some v)
    (hu : Try.prog.underlying ty = some d) (hd : (match d with | .struct _ | .array _ _ => true | _ => false) = true) (hi : (Try.prog.info? ty).map (·.size) = some cs.size) :
    (Instr.loadAt ty (.pointer (some ⟨g, o, none⟩))).run Try.prog w = .ok (.agg cs) w := by
  have hl : (loadCells ⟨g, o, none⟩ cs.toList.length).run Try.prog w = .ok cs.toList.toArray w :=
    run_loadCells_list (P := Try.prog) w ⟨g, o, none⟩ cs.toList (fun j v hv => by
      rw [Addr.add_lit]
      exact hc j v (by simpa using hv))
  cases hq : Try.prog.info? ty with
  | none => simp [hq] at hi
  | some i =>
    have hs : i.size = cs.size := by simpa [hq] using hi
    have hagg : (isAgg ty).run Try.prog w = .ok true w := by
      unfold isAgg
      rw [Sem.run_bind, run_underlying hu w]
      cases d <;> simp_all
    simp only [Array.length_toList, Array.toArray_toList] at hl
    simp [Instr.loadAt, Instr.sureAddr, loadVar, Sem.run_bind, hagg, sizeOf, typeInfo, hq, hs, hl]
/-- A struct of many cells, written whole. -/
theorem store_agg {w : World} {ty t : TypeId} {g : Nat} {cs cur : Array Value} (hg : w.heap[g]? = some (.cells cur t (0, 0))) (hz : cur.size = cs.size) (hi : (Try.prog.info? ty).map (·.size) = some cs.size) (h1 : ∀ v ∈ cs.toList, v.oneCell' = true) :
    (Instr.storeAt ty (.pointer (some ⟨g, 0, none⟩)) (.agg cs)).run Try.prog w = .ok () (w.setRow g cs) := by
  have hst := run_storeCells_at Try.prog g 0 t cs.toList 0 cur w hg (by simp [hz]) h1
  have he : (cur.toList.take (0 + 0) ++ cs.toList ++ cur.toList.drop (0 + 0 + cs.toList.length)).toArray = cs := by
    rw [List.drop_eq_nil_of_le (by simp [hz])]
    simp
  rw [he] at hst
  cases hq : Try.prog.info? ty with
  | none => simp [hq] at hi
  | some i =>
    have hs : i.size = cs.size := by simpa [hq] using hi
    simp [Instr.storeAt, Instr.sureAddr, storeVar, Sem.run_bind, sizeOf, typeInfo, hq, hs, Value.cells, hst]
section
variable {P : Program} {ops : Array Oper} {rest : List Oper} {o : Oper} {a : Act} {Q : Exit → Act → World → Prop} {w : World}
theorem wpList_load_at (hgd : o.guard = none) (ty : TypeId) (x : Operand) (ho : o.op = .load ty x) (p v : Value) (hr : (Instr.loadAt ty p).run P w = .ok v w) (hx : a.eval x = p) (h : wpList P ops Q rest (a.put o.dst v) w) : wpList P ops Q (o :: rest) a w :=
  wpList_plain hgd fun _ hK => by
    unfold Oper.wp execOp
    simp only [ho, hx, Sem.run_bind, hr, Result.andThen_ok, Sem.run_pure]
    exact hK _ _ h
theorem wpList_store_at (hgd : o.guard = none) (ty : TypeId) (x y : Operand) (ho : o.op = .store ty x y) (p v : Value) (w' : World) (hr : (Instr.storeAt ty p v).run P w = .ok () w') (hx : a.eval x = p) (hy : a.eval y = v) (h : wpList P ops Q rest (a.put o.dst undef) w') : wpList P ops Q (o :: rest) a w :=
  wpList_plain hgd fun _ hK => by
    unfold Oper.wp execOp
    simp only [ho, hx, hy, Sem.run_bind, hr, Result.andThen_ok, Sem.run_pure]
    exact hK _ _ h
theorem wpList_build1 (hgd : o.guard = none) (t : TypeId) (i : Nat) (x : Operand) (ho : o.op = .build t #[(i, x)]) (u v : Value) (hr : (Instr.build t #[(i, u)]).run P w = .ok v w) (hx : a.eval x = u) (h : wpList P ops Q rest (a.put o.dst v) w) : wpList P ops Q (o :: rest) a w :=
  wpList_plain hgd fun _ hK => by
    unfold Oper.wp execOp
    simp only [ho, List.map_toArray, List.map_cons, List.map_nil, hx, Sem.run_bind, hr, Result.andThen_ok, Sem.run_pure]
    exact hK _ _ h
theorem exec_load_at (ty : TypeId) (x : Operand) (ho : o.op = .load ty x) (p v : Value) (hr : (Instr.loadAt ty p).run P w = .ok v w) (hx : a.eval x = p) : (execOp a.eval o).run P w = .ok (.value v) w := by
  unfold execOp
  simp only [ho, hx, Sem.run_bind, hr, Result.andThen_ok, Sem.run_pure]
end
theorem DrV.node {w : World} {P : Nat → Prop} {g : Nat} {n : Nd} {L M : Value} {S : List Mg} (h : DrV w P g n L S M) : (Instr.loadAt 37 (.pointer (some ⟨g, 0, none⟩))).run Try.prog w = .ok (n.val L) w :=
  load_agg (cs := n.cells L) (fun j v hv => by
    rw [Nat.zero_add]
    have hj : j < 19 := (Array.getElem?_eq_some_iff.1 hv).1
    exact h.cell j v (by rw [Array.getElem?_push_lt (by exact hj)]; rw [← hv]; exact (Array.getElem?_eq_getElem hj).symm)) Try.underlying37 rfl (by kernel_rfl)
theorem build_draft (n : Nd) (L : Value) (W : World) : (Instr.build 87 #[(0, n.val L)]).run Try.prog W = .ok (.agg #[.int .i64 n.id, .int .i64 n.term, .int .i64 n.vote, .int .i64 n.base, .int .i64 n.bt, .string n.snap, L, .int .i64 n.role, .int .i64 n.cm, .int .i64 n.wait, .bool n.v0, .bool n.v1, .bool n.v2, .int .i64 n.x0, .int .i64 n.x1, .int .i64 n.x2, .int .i64 n.y0, .int .i64 n.y1, .int .i64 n.y2, .slice none 0 0]) W := run_build W _ _ _ (by kernel_rfl)
end Go.Proofs.Ytjhnipnocjoelaa
