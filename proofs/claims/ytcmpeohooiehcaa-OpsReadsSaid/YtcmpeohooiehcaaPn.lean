/- Package parts' Pen: numbers, texts and rows of bytes written behind what it holds. Conditions: lengths below 2^40. -/
import Derived.Test.YtcmpeohooiehcaaCc
import Derived.Test.YtcmpeohooiehcaaOgd
import Derived.Deep.OwnRows
namespace Go.Proofs.Ytcmpeohooiehcaa
open Go.RowKit Go.Deep Go.ChangeShapes
/-- append onto a []byte of the call's own, at a step of a region that draws its order. -/
theorem step_app_bytes {w : World} {ops : Array Oper} {o : Oper} {a : Act} {K : Act → World → Prop} {Q : Exit → Act → World → Prop} {E : Prop} (hgd : o.guard = none) (s x : Operand) (tx : TypeId)
    (ho : o.op = .call { callee := .builtin .append, args := #[s, x], argTypes := #[35, tx] })
    (base : Nat) (v : Value) (xs : List Value) (hs : a.eval s = v) (hown : w.ownsRow base 5 1 v xs.length xs) (u : Value) (news : List Value) (hu : a.eval x = u) (hsrc : Src Try.prog 1 tx u news.length news w)
    (hlen : xs.length + news.length ≤ 70368744177664) (hbase : base ≤ w.heap.size)
    (h : ∀ v' w', Grew w w' base 5 v v' (xs ++ news) → K (a.put o.dst v') w') : if Region.wanted o (yielded ops a.tmps) = true then Oper.wp Try.prog o a w K Q else E := by
  have hw : Region.wanted o (yielded ops a.tmps) = true := by simp [Region.wanted, hgd]
  rw [if_pos hw]
  obtain ⟨i0, hi, hz0, hz1, hz2⟩ := info_parts Try.info_u8
  obtain ⟨v', w', hrun, hgr⟩ := run_append_src (P := Try.prog) w base 35 tx o.type 5 i0 (.int .u8 0) 1 Try.underlying35 hi hz0 hz1 hz2 rfl v xs hown u news hsrc (by simp only [maxLen]; omega) (by omega) hbase
  unfold Oper.wp execOp
  simp only [ho, resolve, invoke, builtin, Sem.run_bind, Sem.run_pure, Result.andThen_ok, List.map_toArray, List.map_cons, List.map_nil, hs, hu, hrun]
  exact h v' w' hgr
/-- Every block of the world before, but block g and blocks of bytes, stands as it was. -/
def Keeps (w w' : World) (g : Nat) : Prop := ∀ (k : Nat) (T : TypeId) (cs : Array Value) (m : Nat × Nat), k ≠ g → T ≠ 5 → w.heap[k]? = some (.cells cs T m) → w'.heap[k]? = some (.cells cs T m)
theorem Keeps.grown {w w' : World} {g : Nat} (h : w.grownBy w' (some g)) : Keeps w w' g := fun k _ _ _ hne _ hk =>
  (h.block k (Array.getElem?_eq_some_iff.1 hk).1 (fun e => by injection e with e; exact hne e)).trans hk
theorem Keeps.off {w w' : World} {g : Nat} (h : w.grownBy w' none) : Keeps w w' g := fun k _ _ _ _ _ hk =>
  (h.block k (Array.getElem?_eq_some_iff.1 hk).1 (by simp)).trans hk
theorem Keeps.trans {w w1 w2 : World} {g : Nat} (h : Keeps w w1 g) (h2 : Keeps w1 w2 g) : Keeps w w2 g := fun k T cs m hne hT hk => h2 k T cs m hne hT (h k T cs m hne hT hk)
theorem bel {w w' : World} {r : Option Nat} {B : Nat} (h : w.grownBy w' r) (hr : ∀ k, r = some k → B ≤ k) (hB : B ≤ w.heap.size) : Below B w w' :=
  ⟨h.os, h.tape, h.output, h.size, fun k hk => h.block k (by omega) (fun e => by have := hr _ e.symm; omega)⟩
theorem own_typ {w : World} {base e s n k : Nat} {v : Value} {xs : List Value} (h : w.ownsRow base e s v n xs) (hk : v.ownBlock = some k) : base ≤ k ∧ ∃ cs, w.heap[k]? = some (.cells cs e (0, 0)) := by
  rcases h.2 with ⟨hv, _⟩ | ⟨g, cap, cur, hv, hg, h2, _⟩
  · rw [hv] at hk; cases hk
  · rw [hv] at hk
    have : g = k := by simpa [Value.ownBlock] using hk
    subst this
    exact ⟨hg, cur, h2⟩
/-- What a Pen's block holds. -/
def PnV (w : World) (base q : Nat) (v : Value) (xs : List Int) : Prop :=
  w.heap[q]? = some (.cells #[v] 56 (0, 0)) ∧ w.ownsRow base 5 1 v (bs xs).length (bs xs) ∧ base ≤ q
def Pn (w : World) (base q : Nat) (xs : List Int) : Prop := ∃ v, PnV w base q v xs
def PTo (base q : Nat) (w w' : World) : Prop := Below base w w' ∧ Keeps w w' q
theorem PTo.trans {base q : Nat} {w w1 w2 : World} (h : PTo base q w w1) (h2 : PTo base q w1 w2) : PTo base q w w2 := ⟨h.1.trans h2.1, h.2.trans h2.2⟩
theorem PTo.off {base q : Nat} {w w' : World} (h : w.grownBy w' none) (hb : base ≤ w.heap.size) : PTo base q w w' := ⟨bel h (fun _ e => by cases e) hb, Keeps.off h⟩
theorem PnV.lt {w : World} {base q : Nat} {v : Value} {xs : List Int} (h : PnV w base q v xs) : q < w.heap.size := (Array.getElem?_eq_some_iff.1 h.1).1
theorem PnV.cell {w : World} {base q : Nat} {v : Value} {xs : List Int} (h : PnV w base q v xs) : w.cell? ⟨q, 0, none⟩ = some v := by simp [World.cell?, h.1]
theorem PnV.fr {w : World} {base q : Nat} {v : Value} {xs : List Int} (h : PnV w base q v xs) : w.frozen? ⟨q, 0, none⟩ = false := by simp [World.frozen?, h.1]
theorem PnV.ne {w : World} {base q : Nat} {v : Value} {xs : List Int} (h : PnV w base q v xs) : v.ownBlock ≠ some q := fun e => by
  obtain ⟨_, cs, hc⟩ := own_typ h.2.1 e
  rw [h.1] at hc
  injection hc with hc
  injection hc with _ hc _
  exact absurd hc (by decide)
theorem PnV.off {w w' : World} {base q : Nat} {v : Value} {xs : List Int} (h : PnV w base q v xs) (g : w.grownBy w' none) : PnV w' base q v xs :=
  ⟨(g.block q h.lt (by simp)).trans h.1, h.2.1.kept g (by cases v.ownBlock <;> simp), h.2.2⟩
theorem Pn.off {w w' : World} {base q : Nat} {xs : List Int} (h : Pn w base q xs) (g : w.grownBy w' none) : Pn w' base q xs := by
  obtain ⟨v, h⟩ := h
  exact ⟨v, h.off g⟩
theorem Pn.lt {w : World} {base q : Nat} {xs : List Int} (h : Pn w base q xs) : q < w.heap.size ∧ base ≤ q := by
  obtain ⟨v, h⟩ := h
  exact ⟨h.lt, h.2.2⟩
theorem PnV.mid {w w3 : World} {base q : Nat} {v v3 : Value} {xs : List Int} {zs : List Value} (h : PnV w base q v xs) (g3 : Grew w w3 base 5 v v3 zs) : w3.cell? ⟨q, 0, none⟩ = some v ∧ w3.frozen? ⟨q, 0, none⟩ = false := by
  have := (g3.only.block q h.lt (fun e => h.ne e.symm)).trans h.1
  exact ⟨by simp [World.cell?, this], by simp [World.frozen?, this]⟩
/-- Bytes laid behind, and the row put back into the Pen's block. -/
theorem pn_step {w w2 w3 : World} {base q : Nat} {v v3 : Value} {xs m : List Int} (h : PnV w base q v xs) (n2 : w.grownBy w2 none) (g3 : Grew w2 w3 base 5 v v3 (bs xs ++ bs m)) :
    Pn (w3.setCell ⟨q, 0, none⟩ v3) base q (xs ++ m) ∧ PTo base q w (w3.setCell ⟨q, 0, none⟩ v3) := by
  have h2 := h.off n2
  have hq := h2.lt
  have hbq := h.2.2
  have h3 : w3.heap[q]? = some (.cells #[v] 56 (0, 0)) := (g3.only.block q hq (fun e => h2.ne e.symm)).trans h2.1
  have gs : w3.grownBy (w3.setCell ⟨q, 0, none⟩ v3) (some q) := set_at (only_refl _ _) 0 _
  have n3 : v3.ownBlock ≠ some q := by
    rcases g3.at_ with e | ⟨g, e, hg⟩
    · rw [e]; exact h2.ne
    · rw [e]; intro e; injection e with e; omega
  have hz2 := n2.size
  have hz3 := g3.only.size
  have hq0 := h.lt
  refine ⟨⟨v3, by simpa using heap_set (i := 0) (u := v3) h3, ?_, hbq⟩, ?_, ?_⟩
  · rw [bs_append]
    exact g3.own.kept gs (by
      cases e : v3.ownBlock with
      | none => exact .inl rfl
      | some k => exact .inr (by rw [← e]; exact n3))
  · exact ((bel n2 (fun _ e => by cases e) (by omega)).trans (bel g3.only (fun k e => (own_typ h2.2.1 e).1) (by omega))).trans (bel gs (fun k e => by cases e; exact hbq) (by omega))
  · refine (Keeps.off n2).trans (Keeps.trans (fun k T cs m hne hT hk => ?_) (Keeps.grown gs))
    refine (g3.only.block k (Array.getElem?_eq_some_iff.1 hk).1 (fun e => ?_)).trans hk
    obtain ⟨_, cs', hc⟩ := own_typ h2.2.1 e.symm
    rw [hk] at hc
    injection hc with hc
    injection hc with _ hc _
    exact hT hc
def strs (l : List ByteArray) : List Int := l.flatMap fun s => enc s.size ++ sb s
theorem strs_snoc (l : List ByteArray) (k : Nat) (h : k < l.length) : strs (l.take (k + 1)) = strs (l.take k) ++ (enc l[k].size ++ sb l[k]) := by
  rw [List.take_succ_eq_append_getElem h]
  simp only [strs, List.flatMap_append, List.flatMap_cons, List.flatMap_nil, List.append_nil]
theorem strs_len (l : List ByteArray) (hl : ∀ s ∈ l, s.size ≤ 1048576) : (strs l).length ≤ 1048586 * l.length := by
  induction l with
  | nil => simp [strs]
  | cons s l ih =>
    have h0 := hl s (by simp)
    have h1 := enc_len s.size (by omega) (by omega)
    have h2 := ih (fun m hm => hl m (by simp [hm]))
    simp only [strs, List.flatMap_cons, List.length_append, List.length_cons, sb_len] at h2 ⊢
    omega
set_option maxRecDepth 100000 in
set_option maxHeartbeats 1000000 in
theorem penInt_any (base q b : Nat) (l : List Int) (xs : List Int) (w : World) (hp : Pn w base q xs) (hb : w.heap[b]? = some (.cells (is l).toArray 3 (0, 0))) (hl : ∀ n ∈ l, -9223372036854775808 ≤ n ∧ n ≤ 9223372036854775807) (hx : xs.length ≤ 1099511627776) (hm : l.length ≤ 1048576) :
    Calls Try.prog 47 #[.pointer (some ⟨q, 0, none⟩), .slice (some ⟨b, 0, none⟩) l.length l.length] w fun e w' => e = .returned (.tuple #[]) ∧ Pn w' base q (xs ++ encs l) ∧ PTo base q w w' := by
  have hne : b ≠ q := by
    rintro rfl
    obtain ⟨v, h⟩ := hp
    rw [h.1] at hb
    injection hb with hb
    injection hb with _ hb _
    exact absurd hb (by decide)
  have HB := Lib.hid hb
  have HL := Lib.hid hl
  have HP := Lib.hid hp
  have HS := fun (k : Nat) (h : k < l.length) => Lib.hid (encs_snoc l k h)
  have HX := Lib.hid hx
  have HNE := Lib.hid hne
  clear hb hl hp hx hne
  go_enter Try.func47, Try.ntmps47
  go_wp2_with fail
  go_loopw [5, 8] (fun _ si wr => ∃ k : Nat, k ≤ l.length ∧ si = .int .i64 k ∧ Pn wr base q (xs ++ encs (l.take k)) ∧ PTo base q w wr)
    (fun _ si _ => l.length - (intOf si).toNat)
  case atStart => exact ⟨0, Nat.zero_le _, rfl, by simpa [encs] using HP.out, PTo.off (only_refl _ _) (by have := HP.out.lt; omega)⟩
  case round =>
    obtain ⟨k, hk, rfl, hP, hT⟩ := hrel
    by_cases hlt : k < l.length
    · have hbb := hT.2 b _ _ _ HNE.out (by decide) HB.out
      obtain ⟨x, ex⟩ : ∃ x, x = l[k] := ⟨_, rfl⟩
      have hcell : wr.cell? ⟨b, k, none⟩ = some (.int .i64 x) := by rw [ex]; simp [World.cell?, hbb, hlt, is]
      have hxk := HL.out l[k] (List.getElem_mem hlt)
      rw [← ex] at hxk
      have hlk : (encs (l.take k)).length ≤ 10 * k := by
        have h := encs_len (l.take k) (fun n hn => HL.out n (List.mem_of_mem_take hn))
        have : (l.take k).length ≤ k := List.length_take_le _ _
        omega
      have HSk := HS k hlt
      rw [← ex] at HSk
      obtain ⟨v, hV⟩ := hP
      have hcv := hV.cell
      obtain ⟨ys, hys⟩ : ∃ ys, xs ++ encs (l.take k) = ys := ⟨_, rfl⟩
      have hyl : ys.length ≤ 4398046511104 := by
        rw [← hys, List.length_append]
        have := HX.out
        omega
      rw [hys] at hV
      have HYS := Lib.hid hys
      have HV := Lib.hid hV
      have HT := Lib.hid hT
      have HXK := Lib.hid hxk
      clear hV hys hT ex hbb hlk hxk
      go_wp2_with fail
      refine wp_region_late [(10, fun V => V.cell? ⟨q, 0, none⟩ = some v)] (by kernel_rfl) ?_
      refine wpAnyT_pure (i := 0) (oi := { dst := some 12, op := Op.move (Operand.tmp 0), type := 74, pos := "pen.go:14", after := #[], guard := none }) (v := ?_) rfl (by kernel_rfl) (by kernel_rfl) (by kernel_rfl) (by kernel_rfl) (fun _ _ _ h => h) (Or.inl ⟨by rfl, ?_⟩) (holds1 (fun _ => (show wr.drew.cell? ⟨q, 0, none⟩ = some v from hcv))) ?_
      rotate_left
      · (intro W; go_simp; try with_reducible rfl)
      try simp only [Act.put, List.setIfInBounds_toArray, List.set_cons_zero, List.set_cons_succ]
      refine wpAnyT_pure (i := 1) (oi := { dst := some 13, op := Op.move (Operand.tmp 0), type := 74, pos := "pen.go:14", after := #[], guard := none }) (v := ?_) rfl (by kernel_rfl) (by kernel_rfl) (by kernel_rfl) (by kernel_rfl) (fun _ _ _ h => h) (Or.inl ⟨by rfl, ?_⟩) (holds1 (fun _ => (show wr.drew.cell? ⟨q, 0, none⟩ = some v from hcv))) ?_
      rotate_left
      · (intro W; go_simp; try with_reducible rfl)
      try simp only [Act.put, List.setIfInBounds_toArray, List.set_cons_zero, List.set_cons_succ]
      refine wpAnyT_pure (i := 2) (oi := { dst := some 14, op := Op.nilCheck (Operand.tmp 13), type := 0, pos := "pen.go:14", after := #[{ on := 1, ground := Ground.data }], guard := none }) (v := ?_) rfl (by kernel_rfl) (by kernel_rfl) (by kernel_rfl) (by kernel_rfl) (fun _ _ _ h => h) (Or.inl ⟨by rfl, ?_⟩) (holds1 (fun _ => (show wr.drew.cell? ⟨q, 0, none⟩ = some v from hcv))) ?_
      rotate_left
      · (intro W; go_simp; try with_reducible rfl)
      try simp only [Act.put, List.setIfInBounds_toArray, List.set_cons_zero, List.set_cons_succ]
      refine wpAnyT_pure (i := 3) (oi := { dst := some 15, op := Op.fieldAddr 56 (Operand.tmp 14) 0, type := 0, pos := "pen.go:14", after := #[{ on := 2, ground := Ground.data }], guard := none }) (v := ?_) rfl (by kernel_rfl) (by kernel_rfl) (by kernel_rfl) (by kernel_rfl) (fun _ _ _ h => h) (Or.inl ⟨by rfl, ?_⟩) (holds1 (fun _ => (show wr.drew.cell? ⟨q, 0, none⟩ = some v from hcv))) ?_
      rotate_left
      · (intro W; go_simp; try with_reducible rfl)
      try simp only [Act.put, List.setIfInBounds_toArray, List.set_cons_zero, List.set_cons_succ]
      refine wpAnyT_take 3 10 (i := 4) (oi := { dst := some 16, op := Op.load 35 (Operand.tmp 15), type := 35, pos := "pen.go:14", after := #[{ on := 3, ground := Ground.data }], guard := none }) (v := ?_) (.head _) rfl (by kernel_rfl) (by kernel_rfl) (by kernel_rfl) (by kernel_rfl) (by kernel_rfl) (by kernel_rfl) (by rfl) (fun _ _ _ h => h) (by rfl) ?_ (holds1 (fun _ => (show wr.drew.cell? ⟨q, 0, none⟩ = some v from hcv))) ?_
      rotate_left
      · (intro W hSw; (try dsimp only at hSw); go_simp; try with_reducible rfl)
      try simp only [Act.put, List.setIfInBounds_toArray, List.set_cons_zero, List.set_cons_succ]
      refine wpAnyT_pure (i := 5) (oi := { dst := some 17, op := Op.move (Operand.tmp 5), type := 3, pos := "pen.go:14", after := #[], guard := none }) (v := ?_) rfl (by kernel_rfl) (by kernel_rfl) (by kernel_rfl) (by kernel_rfl) (fun _ _ _ h => h) (Or.inl ⟨by rfl, ?_⟩) (holds1 (fun _ => (show wr.drew.cell? ⟨q, 0, none⟩ = some v from hcv))) ?_
      rotate_left
      · (intro W; go_simp; try with_reducible rfl)
      try simp only [Act.put, List.setIfInBounds_toArray, List.set_cons_zero, List.set_cons_succ]
      refine wpAnyT_ready (rs := [6]) (by kernel_rfl) (by simp) (AllT.cons (o := { dst := some 18, op := Op.call { callee := Callee.value (Operand.func 61), args := #[Operand.const (Value.slice none 0 0), Operand.tmp 17], argTypes := #[35, 3] }, type := 35, pos := "pen.go:14", after := #[{ on := 5, ground := Ground.data }], guard := none }) rfl (fun K hK => ?_) AllT.nil)
      go_simp
      go_at_call 61
      refine (int_any none 0 [] x _ Has.nil (by simp) (by simp) HXK.out.1 HXK.out.2).mono ?_
      rintro _ w2 ⟨v2, rfl, g2⟩
      simp only [List.nil_append] at g2
      have g2 : Grew wr.drew w2 wr.drew.heap.size 5 (.slice none 0 0) v2 (bs (enc x)) := g2
      obtain ⟨A2, c2, rfl⟩ := own_slice g2.own
      have n2 : wr.grownBy w2 none := only_step (only_drew (only_refl wr none)) (g2.none rfl) (fun _ e => by cases e)
      have V2 := HV.out.off n2
      refine hK.out _ _ (holds1 (fun _ => V2.cell)) ?_
      clear hK K
      try simp only [Act.put, List.setIfInBounds_toArray, List.set_cons_zero, List.set_cons_succ]
      refine wpAnyT_ready (rs := [7]) (by kernel_rfl) (by simp) (AllT.cons (o := { dst := some 19, op := Op.call { callee := Callee.builtin Builtin.append, args := #[Operand.tmp 16, Operand.tmp 18], argTypes := #[35, 35] }, type := 35, pos := "pen.go:14", after := #[{ on := 4, ground := Ground.data }, { on := 6, ground := Ground.data }, { on := 6, ground := Ground.chain }], guard := none }) rfl (fun K hK => ?_) AllT.nil)
      refine step_app_bytes rfl _ _ 35 rfl base v (bs ys) rfl V2.2.1 (.slice A2 (bs (enc x)).length c2) (bs (enc x)) rfl ((Has.own g2.own).src Try.underlying35 c2 (bs_one _)) (by rw [bs_len, bs_len]; have := HXK.out; have := (enc_len x HXK.out.1 HXK.out.2).2; omega) (by have := V2.lt; have := V2.2.2; omega) ?_
      intro v3 w3 g3
      have f3 := (V2.mid g3).2
      have c3 := (V2.mid g3).1
      have S3 := Lib.hid (pn_step HV.out n2 g3)
      obtain ⟨A3, cc3, rfl⟩ := own_slice g3.own
      obtain ⟨n3, hn3⟩ : ∃ n3, (bs ys ++ bs (enc x)).length = n3 := ⟨_, rfl⟩
      rw [hn3] at S3 ⊢
      clear hn3 g3
      refine hK.out _ _ (holds1 (fun _ => c3)) ?_
      clear hK K
      try simp only [Act.put, List.setIfInBounds_toArray, List.set_cons_zero, List.set_cons_succ]
      refine wpAnyT_pure (i := 8) (oi := { dst := some 20, op := Op.nilCheck (Operand.tmp 12), type := 0, pos := "pen.go:14", after := #[{ on := 0, ground := Ground.data }, { on := 0, ground := Ground.phase }, { on := 1, ground := Ground.phase }, { on := 2, ground := Ground.phase }, { on := 3, ground := Ground.phase }, { on := 4, ground := Ground.phase }, { on := 5, ground := Ground.phase }, { on := 6, ground := Ground.phase }, { on := 7, ground := Ground.phase }], guard := none }) (v := ?_) rfl (by kernel_rfl) (by kernel_rfl) (by kernel_rfl) (by kernel_rfl) (fun _ _ _ h => h) (Or.inl ⟨by rfl, ?_⟩) (holds1 (fun _ => c3)) ?_
      rotate_left
      · (intro W; go_simp; try with_reducible rfl)
      try simp only [Act.put, List.setIfInBounds_toArray, List.set_cons_zero, List.set_cons_succ]
      refine wpAnyT_pure (i := 9) (oi := { dst := some 21, op := Op.fieldAddr 56 (Operand.tmp 20) 0, type := 0, pos := "pen.go:14", after := #[{ on := 8, ground := Ground.data }, { on := 0, ground := Ground.phase }, { on := 1, ground := Ground.phase }, { on := 2, ground := Ground.phase }, { on := 3, ground := Ground.phase }, { on := 4, ground := Ground.phase }, { on := 5, ground := Ground.phase }, { on := 6, ground := Ground.phase }, { on := 7, ground := Ground.phase }], guard := none }) (v := ?_) rfl (by kernel_rfl) (by kernel_rfl) (by kernel_rfl) (by kernel_rfl) (fun _ _ _ h => h) (Or.inl ⟨by rfl, ?_⟩) (holds1 (fun _ => c3)) ?_
      rotate_left
      · (intro W; go_simp; try with_reducible rfl)
      try simp only [Act.put, List.setIfInBounds_toArray, List.set_cons_zero, List.set_cons_succ]
      refine wpAnyT_ready (rs := [10]) (by kernel_rfl) (by simp) (AllT.cons (o := { dst := none, op := Op.store 35 (Operand.tmp 21) (Operand.tmp 19), type := 0, pos := "pen.go:14", after := #[{ on := 9, ground := Ground.data }, { on := 7, ground := Ground.data }, { on := 7, ground := Ground.chain }, { on := 0, ground := Ground.phase }, { on := 1, ground := Ground.phase }, { on := 2, ground := Ground.phase }, { on := 3, ground := Ground.phase }, { on := 4, ground := Ground.phase }, { on := 5, ground := Ground.phase }, { on := 6, ground := Ground.phase }, { on := 7, ground := Ground.phase }], guard := none }) rfl (fun K hK => ?_) AllT.nil)
      go_simp
      obtain ⟨W, hW⟩ : ∃ W, w3.setCell ⟨q, 0, none⟩ (.slice A3 n3 cc3) = W := ⟨_, rfl⟩
      rw [hW] at S3 ⊢
      clear hW
      refine hK.out _ _ (holds1 (late_no (by kernel_rfl))) ?_
      clear hK K
      try simp only [Act.put, List.setIfInBounds_toArray, List.set_cons_zero, List.set_cons_succ]
      refine wpAnyT_done (by kernel_rfl) ?_ _
      go_wp2_with fail
      go_roundw
      case rel =>
        refine ⟨k + 1, hlt, by go_num, ?_, HT.out.trans S3.out.2⟩
        have := S3.out.1
        rw [← HYS.out, List.append_assoc, ← HSk.out] at this
        exact this
      case measure => simp [intOf]; omega
    · have hkl : k = l.length := by omega
      subst hkl
      have HT := Lib.hid hT
      have HPP := Lib.hid hP
      clear hT hP
      go_wp2_with fail
      go_end0
      refine ⟨rfl, ?_, HT.out⟩
      have := HPP.out
      rwa [List.take_length] at this
set_option maxRecDepth 100000 in
set_option maxHeartbeats 1000000 in
theorem penText_any (base q b : Nat) (l : List ByteArray) (xs : List Int) (w : World) (hp : Pn w base q xs) (hb : w.heap[b]? = some (.cells (l.map Value.string).toArray 9 (0, 0))) (hl : ∀ n ∈ l, n.size ≤ 1048576) (hx : xs.length ≤ 1099511627776) (hm : l.length ≤ 1048576) :
    Calls Try.prog 48 #[.pointer (some ⟨q, 0, none⟩), .slice (some ⟨b, 0, none⟩) l.length l.length] w fun e w' => e = .returned (.tuple #[]) ∧ Pn w' base q (xs ++ strs l) ∧ PTo base q w w' := by
  have hne : b ≠ q := by
    rintro rfl
    obtain ⟨v, h⟩ := hp
    rw [h.1] at hb
    injection hb with hb
    injection hb with _ hb _
    exact absurd hb (by decide)
  have HB := Lib.hid hb
  have HL := Lib.hid hl
  have HP := Lib.hid hp
  have HS := fun (k : Nat) (h : k < l.length) => Lib.hid (strs_snoc l k h)
  have HX := Lib.hid hx
  have HNE := Lib.hid hne
  clear hb hl hp hx hne
  go_enter Try.func48, Try.ntmps48
  go_wp2_with fail
  go_loopw [5, 8] (fun _ si wr => ∃ k : Nat, k ≤ l.length ∧ si = .int .i64 k ∧ Pn wr base q (xs ++ strs (l.take k)) ∧ PTo base q w wr)
    (fun _ si _ => l.length - (intOf si).toNat)
  case atStart => exact ⟨0, Nat.zero_le _, rfl, by simpa [strs] using HP.out, PTo.off (only_refl _ _) (by have := HP.out.lt; omega)⟩
  case round =>
    obtain ⟨k, hk, rfl, hP, hT⟩ := hrel
    by_cases hlt : k < l.length
    · have hbb := hT.2 b _ _ _ HNE.out (by decide) HB.out
      obtain ⟨x, ex⟩ : ∃ x, x = l[k] := ⟨_, rfl⟩
      have hcell : wr.cell? ⟨b, k, none⟩ = some (.string x) := by rw [ex]; simp [World.cell?, hbb, hlt]
      have hxk := HL.out l[k] (List.getElem_mem hlt)
      rw [← ex] at hxk
      have hlk : (strs (l.take k)).length ≤ 1048586 * k := by
        have h := strs_len (l.take k) (fun n hn => HL.out n (List.mem_of_mem_take hn))
        have : (l.take k).length ≤ k := List.length_take_le _ _
        omega
      have HSk := HS k hlt
      rw [← ex] at HSk
      obtain ⟨v, hV⟩ := hP
      have hcv := hV.cell
      obtain ⟨ys, hys⟩ : ∃ ys, xs ++ strs (l.take k) = ys := ⟨_, rfl⟩
      have hyl : ys.length ≤ 4398046511104 := by
        rw [← hys, List.length_append]
        have := HX.out
        omega
      rw [hys] at hV
      have HYS := Lib.hid hys
      have HV := Lib.hid hV
      have HT := Lib.hid hT
      have HXK := Lib.hid hxk
      clear hV hys hT ex hbb hlk hxk
      go_wp2_with fail
      refine wp_region_late [(10, fun V => V.cell? ⟨q, 0, none⟩ = some v)] (by kernel_rfl) ?_
      refine wpAnyT_pure (i := 0) (oi := { dst := some 12, op := Op.move (Operand.tmp 0), type := 74, pos := "pen.go:21", after := #[], guard := none }) (v := ?_) rfl (by kernel_rfl) (by kernel_rfl) (by kernel_rfl) (by kernel_rfl) (fun _ _ _ h => h) (Or.inl ⟨by rfl, ?_⟩) (holds1 (fun _ => (show wr.drew.cell? ⟨q, 0, none⟩ = some v from hcv))) ?_
      rotate_left
      · (intro W; go_simp; try with_reducible rfl)
      try simp only [Act.put, List.setIfInBounds_toArray, List.set_cons_zero, List.set_cons_succ]
      refine wpAnyT_pure (i := 1) (oi := { dst := some 13, op := Op.move (Operand.tmp 0), type := 74, pos := "pen.go:21", after := #[], guard := none }) (v := ?_) rfl (by kernel_rfl) (by kernel_rfl) (by kernel_rfl) (by kernel_rfl) (fun _ _ _ h => h) (Or.inl ⟨by rfl, ?_⟩) (holds1 (fun _ => (show wr.drew.cell? ⟨q, 0, none⟩ = some v from hcv))) ?_
      rotate_left
      · (intro W; go_simp; try with_reducible rfl)
      try simp only [Act.put, List.setIfInBounds_toArray, List.set_cons_zero, List.set_cons_succ]
      refine wpAnyT_pure (i := 2) (oi := { dst := some 14, op := Op.nilCheck (Operand.tmp 13), type := 0, pos := "pen.go:21", after := #[{ on := 1, ground := Ground.data }], guard := none }) (v := ?_) rfl (by kernel_rfl) (by kernel_rfl) (by kernel_rfl) (by kernel_rfl) (fun _ _ _ h => h) (Or.inl ⟨by rfl, ?_⟩) (holds1 (fun _ => (show wr.drew.cell? ⟨q, 0, none⟩ = some v from hcv))) ?_
      rotate_left
      · (intro W; go_simp; try with_reducible rfl)
      try simp only [Act.put, List.setIfInBounds_toArray, List.set_cons_zero, List.set_cons_succ]
      refine wpAnyT_pure (i := 3) (oi := { dst := some 15, op := Op.fieldAddr 56 (Operand.tmp 14) 0, type := 0, pos := "pen.go:21", after := #[{ on := 2, ground := Ground.data }], guard := none }) (v := ?_) rfl (by kernel_rfl) (by kernel_rfl) (by kernel_rfl) (by kernel_rfl) (fun _ _ _ h => h) (Or.inl ⟨by rfl, ?_⟩) (holds1 (fun _ => (show wr.drew.cell? ⟨q, 0, none⟩ = some v from hcv))) ?_
      rotate_left
      · (intro W; go_simp; try with_reducible rfl)
      try simp only [Act.put, List.setIfInBounds_toArray, List.set_cons_zero, List.set_cons_succ]
      refine wpAnyT_take 3 10 (i := 4) (oi := { dst := some 16, op := Op.load 35 (Operand.tmp 15), type := 35, pos := "pen.go:21", after := #[{ on := 3, ground := Ground.data }], guard := none }) (v := ?_) (.head _) rfl (by kernel_rfl) (by kernel_rfl) (by kernel_rfl) (by kernel_rfl) (by kernel_rfl) (by kernel_rfl) (by rfl) (fun _ _ _ h => h) (by rfl) ?_ (holds1 (fun _ => (show wr.drew.cell? ⟨q, 0, none⟩ = some v from hcv))) ?_
      rotate_left
      · (intro W hSw; (try dsimp only at hSw); go_simp; try with_reducible rfl)
      try simp only [Act.put, List.setIfInBounds_toArray, List.set_cons_zero, List.set_cons_succ]
      refine wpAnyT_pure (i := 5) (oi := { dst := some 17, op := Op.move (Operand.tmp 5), type := 9, pos := "pen.go:21", after := #[], guard := none }) (v := ?_) rfl (by kernel_rfl) (by kernel_rfl) (by kernel_rfl) (by kernel_rfl) (fun _ _ _ h => h) (Or.inl ⟨by rfl, ?_⟩) (holds1 (fun _ => (show wr.drew.cell? ⟨q, 0, none⟩ = some v from hcv))) ?_
      rotate_left
      · (intro W; go_simp; try with_reducible rfl)
      try simp only [Act.put, List.setIfInBounds_toArray, List.set_cons_zero, List.set_cons_succ]
      refine wpAnyT_ready (rs := [6]) (by kernel_rfl) (by simp) (AllT.cons (o := { dst := some 18, op := Op.call { callee := Callee.value (Operand.func 62), args := #[Operand.const (Value.slice none 0 0), Operand.tmp 17], argTypes := #[35, 9] }, type := 35, pos := "pen.go:21", after := #[{ on := 5, ground := Ground.data }], guard := none }) rfl (fun K hK => ?_) AllT.nil)
      go_simp
      go_at_call 62
      refine (text_any none 0 [] x _ Has.nil (by simp) (by simp) (by have := HXK.out; omega)).mono ?_
      rintro _ w2 ⟨v2, rfl, g2⟩
      simp only [List.nil_append] at g2
      have g2 : Grew wr.drew w2 wr.drew.heap.size 5 (.slice none 0 0) v2 (bs (enc x.size ++ sb x)) := by rw [bs_append]; exact g2
      obtain ⟨A2, c2, rfl⟩ := own_slice g2.own
      have n2 : wr.grownBy w2 none := only_step (only_drew (only_refl wr none)) (g2.none rfl) (fun _ e => by cases e)
      have V2 := HV.out.off n2
      refine hK.out _ _ (holds1 (fun _ => V2.cell)) ?_
      clear hK K
      try simp only [Act.put, List.setIfInBounds_toArray, List.set_cons_zero, List.set_cons_succ]
      refine wpAnyT_ready (rs := [7]) (by kernel_rfl) (by simp) (AllT.cons (o := { dst := some 19, op := Op.call { callee := Callee.builtin Builtin.append, args := #[Operand.tmp 16, Operand.tmp 18], argTypes := #[35, 35] }, type := 35, pos := "pen.go:21", after := #[{ on := 4, ground := Ground.data }, { on := 6, ground := Ground.data }, { on := 6, ground := Ground.chain }], guard := none }) rfl (fun K hK => ?_) AllT.nil)
      refine step_app_bytes rfl _ _ 35 rfl base v (bs ys) rfl V2.2.1 (.slice A2 (bs (enc x.size ++ sb x)).length c2) (bs (enc x.size ++ sb x)) rfl ((Has.own g2.own).src Try.underlying35 c2 (bs_one _)) (by rw [bs_len, bs_len]; have := HXK.out; rw [List.length_append, sb_len]; have := (enc_len x.size (by omega) (by omega)).2; omega) (by have := V2.lt; have := V2.2.2; omega) ?_
      intro v3 w3 g3
      have f3 := (V2.mid g3).2
      have c3 := (V2.mid g3).1
      have S3 := Lib.hid (pn_step HV.out n2 g3)
      obtain ⟨A3, cc3, rfl⟩ := own_slice g3.own
      obtain ⟨n3, hn3⟩ : ∃ n3, (bs ys ++ bs (enc x.size ++ sb x)).length = n3 := ⟨_, rfl⟩
      rw [hn3] at S3 ⊢
      clear hn3 g3
      refine hK.out _ _ (holds1 (fun _ => c3)) ?_
      clear hK K
      try simp only [Act.put, List.setIfInBounds_toArray, List.set_cons_zero, List.set_cons_succ]
      refine wpAnyT_pure (i := 8) (oi := { dst := some 20, op := Op.nilCheck (Operand.tmp 12), type := 0, pos := "pen.go:21", after := #[{ on := 0, ground := Ground.data }, { on := 0, ground := Ground.phase }, { on := 1, ground := Ground.phase }, { on := 2, ground := Ground.phase }, { on := 3, ground := Ground.phase }, { on := 4, ground := Ground.phase }, { on := 5, ground := Ground.phase }, { on := 6, ground := Ground.phase }, { on := 7, ground := Ground.phase }], guard := none }) (v := ?_) rfl (by kernel_rfl) (by kernel_rfl) (by kernel_rfl) (by kernel_rfl) (fun _ _ _ h => h) (Or.inl ⟨by rfl, ?_⟩) (holds1 (fun _ => c3)) ?_
      rotate_left
      · (intro W; go_simp; try with_reducible rfl)
      try simp only [Act.put, List.setIfInBounds_toArray, List.set_cons_zero, List.set_cons_succ]
      refine wpAnyT_pure (i := 9) (oi := { dst := some 21, op := Op.fieldAddr 56 (Operand.tmp 20) 0, type := 0, pos := "pen.go:21", after := #[{ on := 8, ground := Ground.data }, { on := 0, ground := Ground.phase }, { on := 1, ground := Ground.phase }, { on := 2, ground := Ground.phase }, { on := 3, ground := Ground.phase }, { on := 4, ground := Ground.phase }, { on := 5, ground := Ground.phase }, { on := 6, ground := Ground.phase }, { on := 7, ground := Ground.phase }], guard := none }) (v := ?_) rfl (by kernel_rfl) (by kernel_rfl) (by kernel_rfl) (by kernel_rfl) (fun _ _ _ h => h) (Or.inl ⟨by rfl, ?_⟩) (holds1 (fun _ => c3)) ?_
      rotate_left
      · (intro W; go_simp; try with_reducible rfl)
      try simp only [Act.put, List.setIfInBounds_toArray, List.set_cons_zero, List.set_cons_succ]
      refine wpAnyT_ready (rs := [10]) (by kernel_rfl) (by simp) (AllT.cons (o := { dst := none, op := Op.store 35 (Operand.tmp 21) (Operand.tmp 19), type := 0, pos := "pen.go:21", after := #[{ on := 9, ground := Ground.data }, { on := 7, ground := Ground.data }, { on := 7, ground := Ground.chain }, { on := 0, ground := Ground.phase }, { on := 1, ground := Ground.phase }, { on := 2, ground := Ground.phase }, { on := 3, ground := Ground.phase }, { on := 4, ground := Ground.phase }, { on := 5, ground := Ground.phase }, { on := 6, ground := Ground.phase }, { on := 7, ground := Ground.phase }], guard := none }) rfl (fun K hK => ?_) AllT.nil)
      go_simp
      obtain ⟨W, hW⟩ : ∃ W, w3.setCell ⟨q, 0, none⟩ (.slice A3 n3 cc3) = W := ⟨_, rfl⟩
      rw [hW] at S3 ⊢
      clear hW
      refine hK.out _ _ (holds1 (late_no (by kernel_rfl))) ?_
      clear hK K
      try simp only [Act.put, List.setIfInBounds_toArray, List.set_cons_zero, List.set_cons_succ]
      refine wpAnyT_done (by kernel_rfl) ?_ _
      go_wp2_with fail
      go_roundw
      case rel =>
        refine ⟨k + 1, hlt, by go_num, ?_, HT.out.trans S3.out.2⟩
        have := S3.out.1
        rw [← HYS.out, List.append_assoc, ← HSk.out] at this
        exact this
      case measure => simp [intOf]; omega
    · have hkl : k = l.length := by omega
      subst hkl
      have HT := Lib.hid hT
      have HPP := Lib.hid hP
      clear hT hP
      go_wp2_with fail
      go_end0
      refine ⟨rfl, ?_, HT.out⟩
      have := HPP.out
      rwa [List.take_length] at this
end Go.Proofs.Ytcmpeohooiehcaa
