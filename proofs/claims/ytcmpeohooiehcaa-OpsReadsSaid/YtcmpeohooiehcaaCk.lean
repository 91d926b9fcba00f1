/- 'append' onto a row of the call's own, with one word more than XMem has: the row that was appended to is still there. -/
import Derived.Test.YtcmpeohooiehcaaCi
namespace Go.Proofs.Ytcmpeohooiehcaa
open Go.RowKit

/-- A row of the call's own whose elder, v, stands in its beginning: what keeps the younger keeps the elder. -/
theorem keep_step {w1 w2 : World} {base e : Nat} {v v1 : Value} {xs ys : List Value} (hv : w1.ownsRow base e 1 v xs.length xs) (hv1 : w1.ownsRow base e 1 v1 ys.length ys) (hle : xs.length ≤ ys.length)
    (hg : w1.grownBy w2 v1.ownBlock) (hk : w2.ownsRow base e 1 v1 ys.length ys) : w2.ownsRow base e 1 v xs.length xs := by
  rcases hv.2 with ⟨rfl, hn⟩ | ⟨g, cap, cur, rfl, hbg, hh, hnc, hcm, hcs, htake⟩
  · have : xs = [] := List.eq_nil_of_length_eq_zero hn
    subst this
    exact World.ownsRow_nil _ _ _ _
  · by_cases hb : v1.ownBlock = some g
    · rcases hv1.2 with ⟨rfl, hn⟩ | ⟨g1, cap1, cur1, rfl, hbg1, hh1, hnc1, hcm1, hcs1, htake1⟩
      · cases hb
      · have : g1 = g := by simpa [Value.ownBlock] using hb
        subst this
        rw [hh] at hh1
        cases hh1
        rcases hk.2 with ⟨h, hn⟩ | ⟨g2, cap2, cur2, h, hbg2, hh2, hnc2, hcm2, hcs2, htake2⟩
        · cases h
        · injection h with h h' h''
          injection h with h
          injection h with h
          subst h h''
          refine ⟨by simp, .inr ⟨g1, cap, cur2, rfl, hbg, hh2, hnc, hcm, by omega, ?_⟩⟩
          have e1 := congrArg (List.take xs.length) htake1
          have e2 := congrArg (List.take xs.length) htake2
          rw [List.take_take, Nat.mul_one, Nat.min_eq_left hle] at e1 e2
          rw [Nat.mul_one] at htake ⊢
          rw [e2, ← e1, htake]
    · exact hv.kept hg (.inr (fun e => hb e.symm))
section
variable {P : Program} (w : World)
theorem run_append_keep (base : Nat) (t tx ty e : TypeId) (i : TypeInfo) (z : Value) (bytes : Nat) (ht : P.underlying t = some (.slice e)) (hi : P.info? e = some i) (hz : i.zero = some z)
    (hsize : i.size = 1) (hby : i.bytes = bytes) (hzs : z.cells.size = 1)
    (v : Value) (xs : List Value) (hown : w.ownsRow base e 1 v xs.length xs) (x : Value) (news : List Value) (hs : Src P 1 tx x news.length news w)
    (h63 : xs.length + news.length ≤ maxLen) (hbytes : (xs.length + news.length) * bytes ≤ 140737488355328) (hbase : base ≤ w.heap.size) :
    ∃ v' w', (Builtin.append_ #[t, tx] ty #[v, x]).run P w = .ok v' w' ∧ Grew w w' base e v v' (xs ++ news) ∧ w'.ownsRow base e 1 v xs.length xs := by
  subst hby
  have hsmall : xs.length + news.length ≤ 9223372036854775807 := by simpa only [maxLen] using h63
  have grown : ∀ old : Nat, old < xs.length + news.length → ∀ (r : Option Nat),
      (w.drew.alloc (.cells ((xs ++ news).toArray ++ Builtin.zeroCells z.cells (grownCap w (xs.length + news.length) old e - (xs.length + news.length))) e)).ownsRow base e 1
        (.slice (some ⟨w.heap.size, 0, none⟩) (xs.length + news.length) (grownCap w (xs.length + news.length) old e)) (xs ++ news).length (xs ++ news) ∧
      w.grownBy (w.drew.alloc (.cells ((xs ++ news).toArray ++ Builtin.zeroCells z.cells (grownCap w (xs.length + news.length) old e - (xs.length + news.length))) e)) r := by
    intro old ho r
    have hge := grownCap_ge w (xs.length + news.length) old e
    have hcm : grownCap w (xs.length + news.length) old e ≤ maxLen := grownCap_le_maxLen w _ old e h63
    refine ⟨⟨by simp, .inr ⟨w.heap.size, _, _, by rw [List.length_append], hbase, heap_alloc_new w.drew _, by rw [List.length_append]; exact hge, hcm, ?_, ?_⟩⟩, ⟨rfl, rfl, rfl, by simp, fun k hk _ => Below.heap_alloc w.drew _ k hk⟩⟩
    · simp only [Array.size_append, List.size_toArray, size_zeroCells, hzs, List.length_append]
      omega
    · simp only [Array.toList_append, List.length_append]
      rw [Nat.mul_one, ← List.length_append]
      exact List.take_left
  rcases hown.2 with ⟨rfl, hn⟩ | ⟨g, cap, cur, rfl, hbg, hg, hnc, hcm, hcs, htake⟩
  · have hx : xs = [] := List.eq_nil_of_length_eq_zero hn
    subst hx
    by_cases hm : news.length = 0
    · have hn : news = [] := List.eq_nil_of_length_eq_zero hm
      subst hn
      have hs' : Src P i.size tx x 0 [] w := by rw [hsize]; exact hs
      exact ⟨.slice none 0 0, w, run_append_nothing w t tx ty e i ht hi none 0 0 (Nat.le_refl _) x hs', ⟨by simpa using World.ownsRow_nil w base e 1, only_refl _ _, .inl rfl⟩, World.ownsRow_nil _ _ _ _⟩
    · have hr := run_append_grow_src w t tx ty e i z ht hi hz none 0 0 [] (by simp [Builtin.firstCells]) x news.length news (by rw [hsize]; exact hs) (by omega) (by omega)
        (growslice_fits (by omega) (by simpa using hbytes))
      have hgr := grown 0 (by simp; omega) none
      simp only [List.length_nil, Nat.zero_add, List.nil_append] at hr hgr ⊢
      exact ⟨_, _, hr, ⟨hgr.1, hgr.2, .inr ⟨_, rfl, Nat.le_refl _⟩⟩, World.ownsRow_nil _ _ _ _⟩
  · by_cases hroom : xs.length + news.length ≤ cap
    · have hcur : xs.length + news.length ≤ cur.size := by omega
      have hr := run_append_room_src w t tx ty e i ht hi g 0 xs.length cap x news.length news (by rw [hsize]; exact hs) hroom
        (fun j hj => by
          rw [hsize]
          simp [World.cell?, hg]
          omega)
        (fun j hj => by simp [World.frozen?, hg])
      rw [hsize] at hr
      simp only [Nat.mul_one, Nat.zero_add] at hr
      have hh := heap_setCells g e (0, 0) news xs.length w cur hg hcur
      refine ⟨_, _, hr, ⟨?_, ⟨World.os_setCells .., ?_, World.output_setCells .., ?_, fun k hk hne => World.heap_setCells_other w g _ _ hk (fun e => hne (by simp [Value.ownBlock, e]))⟩, .inl rfl⟩, ?keep⟩
      · refine ⟨by simp, .inr ⟨g, cap, _, by rw [List.length_append], hbg, hh, by rw [List.length_append]; exact hroom, hcm, ?_, ?_⟩⟩
        · simp only [List.size_toArray, List.length_append, List.length_take, List.length_drop, Array.length_toList]
          omega
        · rw [Nat.mul_one] at htake
          rw [htake, Nat.mul_one]
          exact List.take_left
      · clear hr hh
        have : ∀ (vs : List Value) (o : Nat) (w : World), (w.setCells g o vs).tape = w.tape := by
          intro vs
          induction vs with
          | nil => intro o w; rfl
          | cons v r ih => intro o w; rw [World.setCells, ih]; rfl
        exact this _ _ _
      · clear hr hh
        have : ∀ (vs : List Value) (o : Nat) (w : World), (w.setCells g o vs).heap.size = w.heap.size := by
          intro vs
          induction vs with
          | nil => intro o w; rfl
          | cons v r ih => intro o w; rw [World.setCells, ih]; simp [World.setCell]
        exact Nat.le_of_eq (this _ _ _).symm
      · refine ⟨by simp, .inr ⟨g, cap, _, rfl, hbg, hh, hnc, hcm, ?_, ?_⟩⟩
        · simp only [List.size_toArray, List.length_append, List.length_take, List.length_drop, Array.length_toList]
          omega
        · rw [Nat.mul_one] at htake
          rw [htake, Nat.mul_one, List.append_assoc]
          exact List.take_left
    · have holds : ∀ j u, xs[j]? = some u → w.drew.cell? ((⟨g, 0, none⟩ : Addr).add j) = some u := by simpa using hown.cells (g := g) rfl
      have hr := run_append_grow_src w t tx ty e i z ht hi hz (some ⟨g, 0, none⟩) xs.length cap xs (by rw [hsize]; exact run_firstCells_some w.drew 1 xs.length _ xs.length cap xs (by simp) holds) x news.length news (by rw [hsize]; exact hs) (by omega) (by omega)
        (growslice_fits (by omega) hbytes)
      have hgr := grown cap (by omega) (Value.ownBlock (.slice (some ⟨g, 0, none⟩) xs.length cap))
      exact ⟨_, _, hr, ⟨hgr.1, hgr.2, .inr ⟨_, rfl, Nat.le_refl _⟩⟩, hown.kept (grown cap (by omega) none).2 (.inr (by simp [Value.ownBlock]))⟩

theorem wpList_append_keep {ops : Array Oper} {rest : List Oper} {o : Oper} {a : Act} {Q : Exit → Act → World → Prop} (hgd : o.guard = none) (s x : Operand) (t tx : TypeId)
    (ho : o.op = .call { callee := .builtin .append, args := #[s, x], argTypes := #[t, tx] })
    (base : Nat) (e : TypeId) (i : TypeInfo) (z : Value) (bytes : Nat) (ht : P.underlying t = some (.slice e)) (hi : P.info? e = some i) (hz : i.zero = some z)
    (hsize : i.size = 1) (hby : i.bytes = bytes) (hzs : z.cells.size = 1)
    (v : Value) (xs : List Value) (hs : a.eval s = v) (hown : w.ownsRow base e 1 v xs.length xs) (u : Value) (news : List Value) (hu : a.eval x = u) (hsrc : Src P 1 tx u news.length news w)
    (h63 : xs.length + news.length ≤ maxLen) (hbytes : (xs.length + news.length) * bytes ≤ 140737488355328) (hbase : base ≤ w.heap.size)
    (h : ∀ v' w', Grew w w' base e v v' (xs ++ news) → w'.ownsRow base e 1 v xs.length xs → wpList P ops Q rest (a.put o.dst v') w') : wpList P ops Q (o :: rest) a w :=
  wpList_plain hgd fun _ hK => by
    obtain ⟨v', w', hrun, hgr, hkp⟩ := run_append_keep (P := P) w base t tx o.type e i z bytes ht hi hz hsize hby hzs v xs hown u news hsrc h63 hbytes hbase
    unfold Oper.wp execOp
    simp only [ho, resolve, invoke, builtin, Sem.run_bind, Sem.run_pure, Result.andThen_ok, List.map_toArray, List.map_cons, List.map_nil, hs, hu, hrun]
    exact hK _ _ (h v' w' hgr hkp)
end

/-- A call has handed back a row of the call's own that holds xs ++ news, grown out of v0, which held xs; what v0 names still holds it. -/
def Out2 (w : World) (base : Nat) (v0 : Value) (xs news : List Value) (e : Ending) (w' : World) : Prop := ∃ v, e = .returned v ∧ Grew w w' base 5 v0 v (xs ++ news) ∧ w'.ownsRow base 5 1 v0 xs.length xs
/-- append onto a []byte of the call's own. -/
theorem app_keep {w : World} {ops : Array Oper} {rest : List Oper} {o : Oper} {a : Act} {Q : Exit → Act → World → Prop} (hgd : o.guard = none) (s x : Operand) (tx : TypeId)
    (ho : o.op = .call { callee := .builtin .append, args := #[s, x], argTypes := #[35, tx] })
    (base : Nat) (v : Value) (xs : List Value) (hs : a.eval s = v) (hown : w.ownsRow base 5 1 v xs.length xs) (u : Value) (news : List Value) (hu : a.eval x = u) (hsrc : Src Try.prog 1 tx u news.length news w)
    (hlen : xs.length + news.length ≤ 70368744177664) (hbase : base ≤ w.heap.size)
    (h : ∀ v' w', Grew w w' base 5 v v' (xs ++ news) → w'.ownsRow base 5 1 v xs.length xs → wpList Try.prog ops Q rest (a.put o.dst v') w') : wpList Try.prog ops Q (o :: rest) a w := by
  obtain ⟨i0, hi, hz0, hz1, hz2⟩ := info_parts Try.info_u8
  exact wpList_append_keep w hgd s x 35 tx ho base 5 i0 (.int .u8 0) 1 Try.underlying35 hi hz0 hz1 hz2 rfl v xs hs hown u news hu hsrc (by simp only [maxLen]; omega) (by omega) hbase h
/-- One step more. -/
theorem grew_more {w w1 w2 : World} {base : Nat} {v v1 v2 : Value} {xs ys zs : List Value} (h : Grew w w1 base 5 v v1 (xs ++ ys)) (hk : w1.ownsRow base 5 1 v xs.length xs) (h2 : Grew w1 w2 base 5 v1 v2 ((xs ++ ys) ++ zs))
    (hk2 : w2.ownsRow base 5 1 v1 (xs ++ ys).length (xs ++ ys)) : Grew w w2 base 5 v v2 (xs ++ (ys ++ zs)) ∧ w2.ownsRow base 5 1 v xs.length xs :=
  ⟨List.append_assoc _ _ _ ▸ h.trans h2, keep_step hk h.own (by simp) h2.only hk2⟩
end Go.Proofs.Ytcmpeohooiehcaa
