/- A round of DiskPlays: both disks, the call that came in, the row of its own; what each step leaves. No condition. -/
import Derived.Test.YtmjfemnjkgfgfaaBn
import Derived.Test.YtmjfemnjkgfgfaaCal
import Derived.Test.YtmjfemnjkgfgfaaDkn
import Derived.Test.YtmjfemnjkgfgfaaLt
namespace Go.Proofs.Ytmjfemnjkgfgfaa
open Go.RowKit Go.Deep
/-- The blocks of the law's own that no call of a disk turns. -/
def Mb (cb : Nat) (v : Value) (k : Nat) : Prop := k = cb ∨ v.ownBlock = some k
/-- Within a round: both disks, the call's block, the row. -/
structure Rd (w0 W : World) (p q cb : Nat) (v : Value) (c : CallV) (l : List Int) (d e : DS) : Prop where
  bt : Bt W w0.heap.size p q (Mb cb v) d e
  blw : Below w0.heap.size w0 W
  cal : W.heap[cb]? = some (.cells #[.int .i64 c.k, .int .i64 c.n, .slice c.A c.b.length c.c] 33 (0, 0))
  row : W.ownsRow w0.heap.size 5 1 v l.length (bs l)
section
variable {w0 W : World} {p q cb : Nat} {v : Value} {c : CallV} {l : List Int} {d e : DS}
theorem Rd.size (h : Rd w0 W p q cb v c l d e) : w0.heap.size ≤ W.heap.size := h.blw.size
theorem Rd.cells (h : Rd w0 W p q cb v c l d e) : W.cell? ⟨cb, 0, none⟩ = some (.int .i64 c.k) ∧ W.cell? ⟨cb, 1, none⟩ = some (.int .i64 c.n) ∧ W.cell? ⟨cb, 2, none⟩ = some (.slice c.A c.b.length c.c) := by
  have h := h.cal
  simp [World.cell?, h]
theorem Rd.step (h : Rd w0 W p q cb v c l d e) {W' : World} {d' e' : DS} (hB : Bt W' w0.heap.size p q (Mb cb v) d' e') (hb : Below w0.heap.size W W') (hm : ∀ k, Mb cb v k → W'.heap[k]? = W.heap[k]?) : Rd w0 W' p q cb v c l d' e' :=
  ⟨hB, h.blw.trans hb, (hm cb (.inl rfl)).trans h.cal, own_blk h.row (fun k hk => hm k (.inr hk))⟩
theorem Rd.off (h : Rd w0 W p q cb v c l d e) {W' : World} (g : W.grownBy W' none) : Rd w0 W' p q cb v c l d e :=
  ⟨h.bt.off g, h.blw.trans (bel g (fun k hk => by cases hk) h.blw.size), (g.block cb (Array.getElem?_eq_some_iff.1 h.cal).1 (by simp)).trans h.cal, own_blk h.row (fun k hk => g.block k (h.row.lt k hk).2 (by simp))⟩
theorem Rd.drew (h : Rd w0 W p q cb v c l d e) : Rd w0 W.drew p q cb v c l d e := h.off (only_drew (only_refl W none))
theorem Bt.mp (h : Bt W w0.heap.size p q (Mb cb v) d e) {k : Nat} (hk : Mb cb v k) : k < W.heap.size ∧ k ≠ p ∧ k ≠ q := by
  obtain ⟨P, R, _, _, _, _, _, _, _, _, _, h8⟩ := h
  exact ⟨(h8 k hk).1, (h8 k hk).2.2.2.1, (h8 k hk).2.2.2.2⟩
theorem Rd.arg (h : Rd w0 W p q cb v c l d e) (hc : CallOk w0 c) : Has W W.heap.size c.A (bs c.b) := (hc.has.below h.blw).more h.size
theorem Rd.argq (h : Rd w0 W p q cb v c l d e) (hc : CallOk w0 c) : ∀ W', W.grownBy W' (some q) → Has W' W'.heap.size c.A (bs c.b) := fun W' hg => by
  have hq := h.bt.lt.2.2.1
  have h2 := h.blw.trans (bel hg (fun k hk => by cases hk; exact hq) h.size)
  exact (hc.has.below h2).more h2.size
theorem Rd.mine {A : Option Addr} {cm : Nat} (h : Rd w0 W p q cb (.slice A l.length cm) c l d e) : Has W W.heap.size A (bs l) := Has.own h.row
theorem Rd.minep {A : Option Addr} {cm : Nat} (h : Rd w0 W p q cb (.slice A l.length cm) c l d e) : ∀ W', W.grownBy W' (some p) → Has W' W'.heap.size A (bs l) := fun W' hg =>
  Has.own (own_blk h.row (fun k hk => hg.block k (h.bt.mp (.inr hk)).1 (fun e => by injection e with e; exact (h.bt.mp (.inr hk)).2.1 e)))
/-- The first: a call's block, then the row, are laid. -/
theorem Rd.new {w1 w2 : World} (hB : Bt W w0.heap.size p q (fun _ => False) d e) (hb : Below w0.heap.size w0 W) (h1 : w1 = W.alloc (.cells #[.int .i64 c.k, .int .i64 c.n, .slice c.A c.b.length c.c] 33))
    (hr : w2.ownsRow w1.heap.size 5 1 v l.length (bs l)) (hg : w1.grownBy w2 none) : Rd w0 w2 p q W.heap.size v c l d e := by
  subst h1
  have g1 := World.grownBy_alloc W (.cells #[.int .i64 c.k, .int .i64 c.n, .slice c.A c.b.length c.c] 33) none
  have hB1 := hB.add g1 W.heap.size (Nat.le_refl _) (by simp)
  have hz := g1.size
  have hW := hb.size
  refine ⟨?_, (hb.trans (bel g1 (fun k hk => by cases hk) hW)).trans (bel hg (fun k hk => by cases hk) (by omega)), (hg.block _ (by simp) (by simp)).trans (heap_alloc_new W _), own_mono hr (by omega)⟩
  rcases own_at hr with h0 | ⟨k, hk, hkb⟩
  · exact (hB1.off hg).less (fun k hk => by
      rcases hk with rfl | hk
      · exact .inr rfl
      · rw [h0] at hk; cases hk)
  · exact (hB1.add hg k hkb (hr.lt k hk).2).less (fun j hj => by
      rcases hj with rfl | hj
      · exact .inl (.inr rfl)
      · rw [hk] at hj; cases hj; exact .inr rfl)
/-- The row is overwritten: nothing else turns. -/
structure Rw (w0 W : World) (p q : Nat) (v : Value) (l : List Int) (d e : DS) : Prop where
  bt : Bt W w0.heap.size p q (fun k => v.ownBlock = some k) d e
  blw : Below w0.heap.size w0 W
  row : W.ownsRow w0.heap.size 5 1 v l.length (bs l)
theorem Rd.rw_ (h : Rd w0 W p q cb v c l d e) : Rw w0 W p q v l d e := ⟨h.bt.less (fun _ hk => .inr hk), h.blw, h.row⟩
theorem Rw.write {g n cm : Nat} (h : Rw w0 W p q (.slice (some ⟨g, 0, none⟩) n cm) l d e) (hn : l.length = n) (k : Nat) (y : Int) : Rw w0 (W.setCell ⟨g, k, none⟩ (.int .u8 y)) p q (.slice (some ⟨g, 0, none⟩) n cm) (l.set k y) d e := by
  subst hn
  have hs := (h.row.stored k (.int .u8 y)).1
  rw [show (bs l).set k (.int .u8 y) = bs (l.set k y) by simp [bs, List.map_set]] at hs
  have hg : W.grownBy (W.setCell ⟨g, k, none⟩ (.int .u8 y)) (some g) := only_set (only_refl W (some g)) (.inl rfl) _
  have hl := (h.row.lt g rfl).1
  refine ⟨h.bt.turn rfl hg, h.blw.trans (bel hg (fun k hk => by cases hk; exact hl) h.blw.size), ?_⟩
  rw [List.length_set]
  exact hs
theorem Rw.cell {g n cm : Nat} (h : Rw w0 W p q (.slice (some ⟨g, 0, none⟩) n cm) l d e) (hn : l.length = n) (k : Nat) (hk : k < n) : ∃ u, W.cell? ⟨g, k, none⟩ = some (.int .u8 u) ∧ W.frozen? ⟨g, k, none⟩ = false :=
  by
  subst hn
  exact ⟨l[k], by rw [h.row.cellAt k (by omega)]; simp [bs, hk], h.row.frozenAt k⟩
theorem Rw.form {n : Nat} (h : Rw w0 W p q v l d e) (hn : l.length = n) (h0 : 0 < n) : ∃ g cap, v = .slice (some ⟨g, 0, none⟩) n cap := by
  subst hn
  obtain ⟨g, cap, hv, _⟩ := own_form h.row h0
  exact ⟨g, cap, hv⟩
/-- What a question of both disks reads. -/
theorem Bt.reads {M : Nat → Prop} (h : Bt W w0.heap.size p q M d d) : ∃ A1 c1 A3 c3, ∀ V, W.grownBy V none → Dk V 0 p d ∧ V.cell? ⟨q, 1, none⟩ = some (.slice A1 d.L.length c1) ∧ V.cell? ⟨q, 3, none⟩ = some (.slice A3 d.S.length c3) ∧ V.cell? ⟨q, 6, none⟩ = some (.bool d.dd) ∧ V.cell? ⟨q, 7, none⟩ = some (.int .i64 d.op) ∧
    (convert 31 9 (.slice A1 d.L.length c1)).run Try.prog V = .ok (.string (strOfNums d.L)) V ∧ (convert 31 9 (.slice A3 d.S.length c3)).run Try.prog V = .ok (.string (strOfNums d.S)) V := by
  obtain ⟨P, R, hD, ⟨ev, vL, vS, hV, _⟩, _⟩ := h
  obtain ⟨A1, c1, e1, hc1, _⟩ := hV.2.1
  obtain ⟨A3, c3, e3, hc3, _⟩ := hV.2.2
  subst e1 e3
  refine ⟨A1, c1, A3, c3, fun V hg => ?_⟩
  have hV' : RkV V R q d ev (.slice A1 d.L.length c1) (.slice A3 d.S.length c3) := ⟨(hg.block q hV.lt (by simp)).trans hV.1, hV.2.1.keep hg.size (fun k h1 _ _ => hg.block k h1 (by simp)), hV.2.2.keep hg.size (fun k h1 _ _ => hg.block k h1 (by simp))⟩
  obtain ⟨_, k1, _, k3, _, _, k6, k7⟩ := hV'.cells
  exact ⟨(hD.below hg).dk, k1, k3, k6, k7, conv_string hV'.2.1.has.1 c1, conv_string hV'.2.2.has.1 c3⟩
end
theorem more3 {t t2 t3 : Nat} {S S' S2 S2' S3 S3' : World → Prop} (h : ∀ w, S' w → S w) (h2 : ∀ w, S2' w → S2 w) (h3 : ∀ w, S3' w → S3 w) (l : Array Bool) (w : World) (hh : Holds [(t, S'), (t2, S2'), (t3, S3')] l w) : Holds [(t, S), (t2, S2), (t3, S3)] l w :=
  holds3 (fun e => h w (hh _ (.head _) e)) (fun e => h2 w (hh _ (.tail _ (.head _)) e)) (fun e => h3 w (hh _ (.tail _ (.tail _ (.head _))) e))
end Go.Proofs.Ytmjfemnjkgfgfaa
