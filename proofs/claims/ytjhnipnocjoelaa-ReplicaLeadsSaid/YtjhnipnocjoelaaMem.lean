/- Words for memory that the walks of this seat share: cells that a slice value reads ('Has'), a row of the call's own that has grown ('Grew'), and 'append' onto such a row from whatever source. No condition of the program's own. -/
import Derived.Test.YtjhnipnocjoelaaRows
import Derived.WalkKit
import Derived.WalkLawsBesides
import Derived.WalkSpells
import Derived.Outline
import Derived.Lib.Hide
import Derived.Deep.AppendSrc
import Derived.Deep.Upon
import Derived.Deep.Draws
import Derived.Laws.OwnMore
namespace Go.Proofs.Ytjhnipnocjoelaa
open Go.RowKit

theorem only_refl (w : World) (r : Option Nat) : w.grownBy w r := ⟨rfl, rfl, rfl, Nat.le_refl _, fun _ _ _ => rfl⟩
theorem only_step {w w1 w2 : World} {r r2 : Option Nat} (h : w.grownBy w1 r) (h2 : w1.grownBy w2 r2) (hr : ∀ k, r2 = some k → r = some k ∨ w.heap.size ≤ k) : w.grownBy w2 r :=
  ⟨h2.os.trans h.os, h2.tape.trans h.tape, h2.output.trans h.output, Nat.le_trans h.size h2.size, fun k hk hne =>
    (h2.block k (Nat.lt_of_lt_of_le hk h.size) (fun e => by
      rcases hr k e.symm with h3 | h3
      · exact hne h3.symm
      · omega)).trans (h.block k hk hne)⟩
theorem only_none {w w1 : World} (h : w.grownBy w1 none) (r : Option Nat) : w.grownBy w1 r :=
  ⟨h.os, h.tape, h.output, h.size, fun k hk _ => h.block k hk (by simp)⟩
theorem only_below {w w' : World} (h : w.grownBy w' none) : Below w.heap.size w w' :=
  ⟨h.os, h.tape, h.output, h.size, fun k hk => h.block k hk (by simp)⟩
theorem below_only {w w' : World} (h : Below w.heap.size w w') : w.grownBy w' none :=
  ⟨h.os, h.tape, h.output, h.size, fun k hk _ => h.block k hk⟩
theorem only_drew {a w : World} {r : Option Nat} (h : a.grownBy w r) : a.grownBy w.drew r := ⟨h.os, h.tape, h.output, h.size, h.block⟩
theorem only_drewN {a w : World} {r : Option Nat} (h : a.grownBy w r) (n : Nat) : a.grownBy (w.drewN n) r := ⟨h.os, h.tape, h.output, h.size, h.block⟩
theorem only_alloc {a w : World} {r : Option Nat} (h : a.grownBy w r) (o : Obj) : a.grownBy (w.alloc o) r :=
  only_step h (World.grownBy_alloc w o none) (fun _ e => by cases e)
theorem only_set {a w : World} {r : Option Nat} (h : a.grownBy w r) {p : Addr} (hp : r = some p.block ∨ a.heap.size ≤ p.block) (u : Value) : a.grownBy (w.setCell p u) r :=
  ⟨h.os, h.tape, h.output, by simpa [World.setCell] using h.size, fun i hi hne => (Below.heap_setCell w p u i (by
    rintro rfl
    rcases hp with hp | hp
    · exact hne hp.symm
    · omega)).trans (h.block i hi hne)⟩

/-- The slice address A reads the cells xs, which lie below block 'lim'. -/
def Has (w : World) (lim : Nat) (A : Option Addr) (xs : List Value) : Prop :=
  xs = [] ∨ ∃ b off, A = some ⟨b, off, none⟩ ∧ b < lim ∧ ∀ j u, xs[j]? = some u → w.cell? ⟨b, off + j, none⟩ = some u

section
variable {w w' : World} {lim : Nat} {A : Option Addr} {xs : List Value}
theorem Has.nil : Has w lim A [] := .inl rfl
theorem Has.keep (h : Has w lim A xs) (hk : ∀ p : Addr, p.block < lim → w'.cell? p = w.cell? p) : Has w' lim A xs := by
  rcases h with h | ⟨b, off, hA, hb, hc⟩
  · exact .inl h
  · exact .inr ⟨b, off, hA, hb, fun j u hu => (hk _ hb).trans (hc j u hu)⟩
theorem Has.more {lim' : Nat} (h : Has w lim A xs) (hl : lim ≤ lim') : Has w lim' A xs := by
  rcases h with h | ⟨b, off, hA, hb, hc⟩
  · exact .inl h
  · exact .inr ⟨b, off, hA, by omega, hc⟩
theorem Has.below (h : Has w lim A xs) (hb : Below lim w w') : Has w' lim A xs := h.keep fun _ hp => hb.cell hp
theorem Has.only {r : Option Nat} (h : Has w lim A xs) (hg : w.grownBy w' r) (hl : lim ≤ w.heap.size) (hr : ∀ k, r = some k → lim ≤ k) : Has w' lim A xs :=
  h.keep fun p hp => World.cell?_of_block (hg.block p.block (by omega) (fun e => by have := hr _ e.symm; omega))
theorem Has.own {base e n c : Nat} (h : w.ownsRow base e 1 (.slice A n c) n xs) : Has w w.heap.size A xs := by
  rcases h.2 with ⟨hv, hn⟩ | ⟨g, cap, cur, hv, _, hh, _⟩
  · exact .inl (List.eq_nil_of_length_eq_zero (by rw [h.1, hn]))
  · right
    have hA : A = some ⟨g, 0, none⟩ := by injection hv
    subst hA
    have hlt : g < w.heap.size := by
      rcases Nat.lt_or_ge g w.heap.size with h1 | h1
      · exact h1
      · rw [Array.getElem?_eq_none h1] at hh; cases hh
    refine ⟨g, 0, rfl, hlt, fun j u hu => ?_⟩
    have := h.cells (g := g) rfl j u hu
    rw [Addr.add_lit] at this
    exact this
theorem Has.src {P : Program} {tx e' : TypeId} (hk : P.underlying tx = some (.slice e')) (h : Has w lim A xs) (c : Nat) (h1 : ∀ u ∈ xs, u.oneCell' = true) : Src P 1 tx (.slice A xs.length c) xs.length xs w := by
  rcases h with rfl | ⟨b, off, rfl, hb, hc⟩
  · cases A with
    | none => exact Src.ofNil w hk c
    | some a => exact Src.ofSlice w hk a 0 c [] (by simp) (fun j u hu => by simp at hu) h1
  · exact Src.ofSlice w hk ⟨b, off, none⟩ _ c xs (by simp) (fun j u hu => by rw [Addr.add_lit]; exact hc j u hu) h1
end

theorem heap_setCells (g : Nat) (e : TypeId) (m : Nat × Nat) : ∀ (vs : List Value) (o : Nat) (w : World) (cur : Array Value), w.heap[g]? = some (.cells cur e m) → o + vs.length ≤ cur.size →
    (w.setCells g o vs).heap[g]? = some (.cells (cur.toList.take o ++ vs ++ cur.toList.drop (o + vs.length)).toArray e m)
  | [], o, w, cur, h, _ => by simp [World.setCells, h]
  | v :: r, o, w, cur, h, hl => by
    have h1 : (w.setCell ⟨g, o, none⟩ v).heap[g]? = some (.cells (cur.setIfInBounds o v) e m) := by simp [World.setCell, Array.getElem?_modify, h]
    have ho : o < cur.size := by simp at hl; omega
    rw [World.setCells, heap_setCells g e m r (o + 1) _ _ h1 (by simp at hl ⊢; omega)]
    congr 3
    apply List.ext_getElem?
    intro j
    simp only [Array.toList_setIfInBounds, List.length_cons, List.take_set, List.drop_set, List.getElem?_append, List.length_append, List.length_set, List.length_take, Array.length_toList, List.getElem?_take, List.getElem?_drop, List.getElem?_set, List.getElem?_cons]
    by_cases h1 : j < o
    · have e1 : j < min (o + 1) cur.size := by omega
      have e2 : j < min o cur.size := by omega
      have e3 : j < o + 1 := by omega
      have e4 : j < min (o + 1) cur.size + r.length := by omega
      have e5 : j < min o cur.size + (r.length + 1) := by omega
      have e6 : ¬ o = j := by omega
      simp [e1, e2, e3, e4, e5, e6, h1]
    · by_cases h2 : j = o
      · subst h2
        have e1 : j < min (j + 1) cur.size := by omega
        have e2 : ¬ j < min j cur.size := by omega
        have e4 : j < min (j + 1) cur.size + r.length := by omega
        have e5 : j < min j cur.size + (r.length + 1) := by omega
        have e7 : j - min j cur.size = 0 := by omega
        simp [e1, e2, e4, e5, e7]
      · have e1 : ¬ j < min (o + 1) cur.size := by omega
        have e2 : ¬ j < min o cur.size := by omega
        have e7 : ¬ j - min o cur.size = 0 := by omega
        have e8 : j - min (o + 1) cur.size = j - min o cur.size - 1 := by omega
        by_cases h3 : j < min (o + 1) cur.size + r.length
        · have e5 : j < min o cur.size + (r.length + 1) := by omega
          simp [e1, e2, h3, e5, e7, e8]
        · have e5 : ¬ j < min o cur.size + (r.length + 1) := by omega
          have e10 : o + 1 + r.length + (j - (min (o + 1) cur.size + r.length)) = o + (r.length + 1) + (j - (min o cur.size + (r.length + 1))) := by omega
          have e12 : o < o + 1 + r.length := by omega
          simp [h3, e5, e12, e10]

/-- What a row of the call's own has become: v is now v', and holds xs; only its block, and new ones, have turned. -/
structure Grew (w w' : World) (base e : Nat) (v v' : Value) (xs : List Value) : Prop where
  own : w'.ownsRow base e 1 v' xs.length xs
  only : w.grownBy w' v.ownBlock
  at_ : v'.ownBlock = v.ownBlock ∨ ∃ g, v'.ownBlock = some g ∧ w.heap.size ≤ g

theorem Grew.trans {w w1 w2 : World} {base e : Nat} {v v1 v2 : Value} {xs ys : List Value} (h : Grew w w1 base e v v1 xs) (k : Grew w1 w2 base e v1 v2 ys) : Grew w w2 base e v v2 ys := by
  refine ⟨k.own, only_step h.only k.only (fun q hq => ?_), ?_⟩
  · rcases h.at_ with h1 | ⟨g, h1, h2⟩
    · exact .inl (h1 ▸ hq)
    · rw [h1] at hq; cases hq; exact .inr h2
  · rcases k.at_ with h1 | ⟨g, h1, h2⟩
    · rw [h1]; exact h.at_
    · exact .inr ⟨g, h1, Nat.le_trans h.only.size h2⟩
theorem Grew.none {w w1 : World} {base e : Nat} {v v1 : Value} {xs : List Value} (h : Grew w w1 base e v v1 xs) (hv : v.ownBlock = none) : w.grownBy w1 none := by
  have := h.only; rw [hv] at this; exact this

section
variable {P : Program} (w : World)
theorem run_append_src (base : Nat) (t tx ty e : TypeId) (i : TypeInfo) (z : Value) (bytes : Nat) (ht : P.underlying t = some (.slice e)) (hi : P.info? e = some i) (hz : i.zero = some z)
    (hsize : i.size = 1) (hby : i.bytes = bytes) (hzs : z.cells.size = 1)
    (v : Value) (xs : List Value) (hown : w.ownsRow base e 1 v xs.length xs) (x : Value) (news : List Value) (hs : Src P 1 tx x news.length news w)
    (h63 : xs.length + news.length ≤ maxLen) (hbytes : (xs.length + news.length) * bytes ≤ 140737488355328) (hbase : base ≤ w.heap.size) :
    ∃ v' w', (Builtin.append_ #[t, tx] ty #[v, x]).run P w = .ok v' w' ∧ Grew w w' base e v v' (xs ++ news) := by
  subst hby
  have hsmall : xs.length + news.length ≤ 9223372036854775807 := by simpa only [maxLen] using h63
  have grown : ∀ old : Nat, old < xs.length + news.length → ∀ (r : Option Nat),
      (w.drew.alloc (.cells ((xs ++ news).toArray ++ Builtin.zeroCells z.cells (grownCap w (xs.length + news.length) old e - (xs.length + news.length))) e)).ownsRow base e 1
        (.slice (some ⟨w.heap.size, 0, none⟩) (xs.length + news.length) (grownCap w (xs.length + news.length) old e)) (xs ++ news).length (xs ++ news) ∧
      w.grownBy (w.drew.alloc (.cells ((xs ++ news).toArray ++ Builtin.zeroCells z.cells (grownCap w (xs.length + news.length) old e - (xs.length + news.length))) e)) r := by
    intro old ho r
    have hge := grownCap_ge w (xs.length + news.length) old e
    have hcm : grownCap w (xs.length + news.length) old e ≤ maxLen := grownCap_le_maxLen w _ old e h63
    refine ⟨⟨by simp, .inr ⟨w.heap.size, _, _, by rw [List.length_append], hbase, heap_alloc_new w.drew _, by rw [List.length_append]; exact hge, hcm, ?_, ?_⟩⟩, ⟨rfl, rfl, rfl, by simp, fun k hk _ => Below.heap_alloc w.drew _ k hk⟩⟩
    · simp only [Array.size_append, List.size_toArray, size_zeroCells, hzs, List.length_append]
      omega
    · simp only [Array.toList_append, List.length_append]
      rw [Nat.mul_one, ← List.length_append]
      exact List.take_left
  rcases hown.2 with ⟨rfl, hn⟩ | ⟨g, cap, cur, rfl, hbg, hg, hnc, hcm, hcs, htake⟩
  · have hx : xs = [] := List.eq_nil_of_length_eq_zero hn
    subst hx
    by_cases hm : news.length = 0
    · have hn : news = [] := List.eq_nil_of_length_eq_zero hm
      subst hn
      have hs' : Src P i.size tx x 0 [] w := by rw [hsize]; exact hs
      exact ⟨.slice none 0 0, w, run_append_nothing w t tx ty e i ht hi none 0 0 (Nat.le_refl _) x hs', ⟨by simpa using World.ownsRow_nil w base e 1, only_refl _ _, .inl rfl⟩⟩
    · have hr := run_append_grow_src w t tx ty e i z ht hi hz none 0 0 [] (by simp [Builtin.firstCells]) x news.length news (by rw [hsize]; exact hs) (by omega) (by omega)
        (growslice_fits (by omega) (by simpa using hbytes))
      have hgr := grown 0 (by simp; omega) none
      simp only [List.length_nil, Nat.zero_add, List.nil_append] at hr hgr ⊢
      exact ⟨_, _, hr, hgr.1, hgr.2, .inr ⟨_, rfl, Nat.le_refl _⟩⟩
  · by_cases hroom : xs.length + news.length ≤ cap
    · have hcur : xs.length + news.length ≤ cur.size := by omega
      have hr := run_append_room_src w t tx ty e i ht hi g 0 xs.length cap x news.length news (by rw [hsize]; exact hs) hroom
        (fun j hj => by
          rw [hsize]
          simp [World.cell?, hg]
          omega)
        (fun j hj => by simp [World.frozen?, hg])
      rw [hsize] at hr
      simp only [Nat.mul_one, Nat.zero_add] at hr
      have hh := heap_setCells g e (0, 0) news xs.length w cur hg hcur
      refine ⟨_, _, hr, ⟨?_, ⟨World.os_setCells .., ?_, World.output_setCells .., ?_, fun k hk hne => World.heap_setCells_other w g _ _ hk (fun e => hne (by simp [Value.ownBlock, e]))⟩, .inl rfl⟩⟩
      · refine ⟨by simp, .inr ⟨g, cap, _, by rw [List.length_append], hbg, hh, by rw [List.length_append]; exact hroom, hcm, ?_, ?_⟩⟩
        · simp only [List.size_toArray, List.length_append, List.length_take, List.length_drop, Array.length_toList]
          omega
        · rw [Nat.mul_one] at htake
          rw [htake, Nat.mul_one]
          exact List.take_left
      · clear hr hh
        have : ∀ (vs : List Value) (o : Nat) (w : World), (w.setCells g o vs).tape = w.tape := by
          intro vs
          induction vs with
          | nil => intro o w; rfl
          | cons v r ih => intro o w; rw [World.setCells, ih]; rfl
        exact this _ _ _
      · clear hr hh
        have : ∀ (vs : List Value) (o : Nat) (w : World), (w.setCells g o vs).heap.size = w.heap.size := by
          intro vs
          induction vs with
          | nil => intro o w; rfl
          | cons v r ih => intro o w; rw [World.setCells, ih]; simp [World.setCell]
        exact Nat.le_of_eq (this _ _ _).symm
    · have holds : ∀ j u, xs[j]? = some u → w.drew.cell? ((⟨g, 0, none⟩ : Addr).add j) = some u := by simpa using hown.cells (g := g) rfl
      have hr := run_append_grow_src w t tx ty e i z ht hi hz (some ⟨g, 0, none⟩) xs.length cap xs (by rw [hsize]; exact run_firstCells_some w.drew 1 xs.length _ xs.length cap xs (by simp) holds) x news.length news (by rw [hsize]; exact hs) (by omega) (by omega)
        (growslice_fits (by omega) hbytes)
      have hgr := grown cap (by omega) (Value.ownBlock (.slice (some ⟨g, 0, none⟩) xs.length cap))
      exact ⟨_, _, hr, hgr.1, hgr.2, .inr ⟨_, rfl, Nat.le_refl _⟩⟩

theorem wpList_append_row {ops : Array Oper} {rest : List Oper} {o : Oper} {a : Act} {Q : Exit → Act → World → Prop} (hgd : o.guard = none) (s x : Operand) (t tx : TypeId)
    (ho : o.op = .call { callee := .builtin .append, args := #[s, x], argTypes := #[t, tx] })
    (base : Nat) (e : TypeId) (i : TypeInfo) (z : Value) (bytes : Nat) (ht : P.underlying t = some (.slice e)) (hi : P.info? e = some i) (hz : i.zero = some z)
    (hsize : i.size = 1) (hby : i.bytes = bytes) (hzs : z.cells.size = 1)
    (v : Value) (xs : List Value) (hs : a.eval s = v) (hown : w.ownsRow base e 1 v xs.length xs) (u : Value) (news : List Value) (hu : a.eval x = u) (hsrc : Src P 1 tx u news.length news w)
    (h63 : xs.length + news.length ≤ maxLen) (hbytes : (xs.length + news.length) * bytes ≤ 140737488355328) (hbase : base ≤ w.heap.size)
    (h : ∀ v' w', Grew w w' base e v v' (xs ++ news) → wpList P ops Q rest (a.put o.dst v') w') : wpList P ops Q (o :: rest) a w :=
  wpList_plain hgd fun _ hK => by
    obtain ⟨v', w', hrun, hgr⟩ := run_append_src (P := P) w base t tx o.type e i z bytes ht hi hz hsize hby hzs v xs hown u news hsrc h63 hbytes hbase
    unfold Oper.wp execOp
    simp only [ho, resolve, invoke, builtin, Sem.run_bind, Sem.run_pure, Result.andThen_ok, List.map_toArray, List.map_cons, List.map_nil, hs, hu, hrun]
    exact hK _ _ (h v' w' hgr)
end
end Go.Proofs.Ytjhnipnocjoelaa
