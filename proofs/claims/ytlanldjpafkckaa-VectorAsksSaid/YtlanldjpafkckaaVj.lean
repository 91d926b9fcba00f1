/- Join of the reference and of package vector. No condition of the program's own. -/
import Derived.Test.YtlanldjpafkckaaVo
namespace Go.Proofs.Ytlanldjpafkckaa
open Go.RowKit Go.Deep

theorem grow2' {a b c : World} (h : a.grownBy b none) (k : b.grownBy c none) : a.grownBy c none := only_step h k (fun _ h => by cases h)
theorem vjoin_snoc (a b : List E3) (i : Nat) (y : E3) (hy : b[i]? = some y) : vjoin a (b.take (i + 1)) = if vget (vjoin a (b.take i)) y.1 y.2.1 < y.2.2 then vput (vjoin a (b.take i)) y else vjoin a (b.take i) := by
  rw [List.take_add_one, hy]
  unfold vjoin
  rw [List.foldl_append]
  rfl
theorem vjoin_len (b : List E3) : ∀ (a : List E3), (vjoin a b).length ≤ a.length + b.length := by
  induction b with
  | nil => intro a; exact Nat.le_refl _
  | cons y r ih =>
    intro a
    show (vjoin (if vget a y.1 y.2.1 < y.2.2 then vput a y else a) r).length ≤ _
    refine Nat.le_trans (ih _) ?_
    have := vput_len a y
    rw [List.length_cons]
    split <;> omega

set_option maxRecDepth 100000 in
set_option maxHeartbeats 2000000 in
theorem rjoin_any (A : Option Addr) (c : Nat) (l : List E3) (A' : Option Addr) (c' : Nat) (m : List E3) (w : World) (h : Vw w w.heap.size A c l) (h' : Vw w w.heap.size A' c' m) (hl : l.length ≤ 1073741824) (hm : m.length ≤ 1073741824) :
    Calls Try.prog 20 #[.slice A l.length c, .slice A' m.length c'] w fun e w' => ∃ v, e = .returned v ∧ w'.ownsRow w.heap.size 40 3 v (vjoin l m).length (dc (vjoin l m)) ∧ w.grownBy w' none := by
  have HA := Lib.hid h
  have HB := Lib.hid h'
  clear h h'
  have OE : Hid ((w.alloc (.cells #[] 40)).ownsRow w.heap.size 40 3 (.slice (some ⟨w.heap.size, 0, none⟩) 0 0) 0 []) := World.ownsRow_made w #[] 0 (Nat.le_refl _) (by unfold maxLen; omega) rfl
  have SF : Hid (Src Try.prog 3 26 (.slice A l.length c) l.length (dc l) (w.alloc (.cells #[] 40))) := Lib.hid (Src.all (HA.out.up (World.grownBy_alloc w _ none)) _ rfl)
  have hbw : Hid (w.heap.size ≤ (w.alloc (.cells #[] 40)).heap.size) := Lib.hid (World.grownBy_alloc w _ none).size
  go_enter Try.func20, Try.ntmps20
  go_wp2_with (at_builtin; go_loud (refine app_e rfl _ _ 26 rfl w.heap.size _ 0 [] rfl OE.out _ l.length (dc l) rfl SF.out (by omega) hbw.out ?_); intro v2 w2 g2; rw [List.nil_append, Nat.zero_add] at g2; have o2 := Lib.hid g2.own; have n2 := Lib.hid (only_step (only_alloc (only_refl w none) _) g2.only (fun k hk => by cases hk; exact .inr (Nat.le_refl _)) : w.grownBy w2 none); clear g2)
  go_loopw [5, 6] (fun s5 si wr => ∃ (i : Nat) (v : Value), i ≤ m.length ∧ si = .int .i64 i ∧ v = s5 ∧ Hid (wr.ownsRow w.heap.size 40 3 v (vjoin l (m.take i)).length (dc (vjoin l (m.take i)))) ∧ Hid (w.grownBy wr none)) (fun _ si _ => m.length - (intOf si).toNat)
  case atStart => exact ⟨0, v2, Nat.zero_le _, rfl, rfl, o2, n2⟩
  case round =>
    clear OE SF hbw o2 n2
    obtain ⟨i, v, hi, rfl, rfl, HV, hG⟩ := hrel
    by_cases hlt : i < m.length
    · have u1 : (i : Int) < (m.length : Int) := by omega
      have u0 : (0 : Int) ≤ (i : Int) := by omega
      have hes : IntKind.i64.wrap ((i : Int) + 1) = (i : Int) + 1 := by rw [IntKind.wrap_i64]; omega
      obtain ⟨y, hy⟩ : ∃ y, m[i]? = some y := ⟨_, List.getElem?_eq_getElem hlt⟩
      obtain ⟨b, off, e0, hb, y1, y2, y3⟩ := (HB.out.up hG.out).has.dot hy
      subst e0
      have HS := Lib.hid (vjoin_snoc l m i y hy)
      have hjl : (vjoin l (m.take i)).length ≤ 1099511627776 := by have := vjoin_len (m.take i) l; rw [List.length_take] at this; omega
      obtain ⟨j, hj⟩ : ∃ j, j = vjoin l (m.take i) := ⟨_, rfl⟩
      rw [← hj] at HV HS hjl
      have q1 : ∀ k, (wr.drewN k).cell? ⟨b, off + i * 3, none⟩ = some (.int .i64 y.1) := fun _ => y1
      have q2 : ∀ k, (wr.drewN k).cell? ⟨b, off + i * 3 + 1, none⟩ = some (.int .i64 y.2.1) := fun _ => y2
      have q3 : ∀ k, (wr.drewN k).cell? ⟨b, off + i * 3 + 2, none⟩ = some (.int .i64 y.2.2) := fun _ => y3
      obtain ⟨Aj, cj, rfl⟩ := own_slice_w HV.out
      have VJ := Lib.hid (Vw.own HV.out).1
      obtain ⟨g, hg⟩ : ∃ g, g = vget j y.1 y.2.1 := ⟨_, rfl⟩
      have GC : ∀ k, Hid (Calls Try.prog 16 #[.slice Aj j.length cj, .int .i64 y.1, .int .i64 y.2.1] (wr.drewN k) fun e w' => e = .returned (.int .i64 g) ∧ wr.drewN k = w') := fun k => by
        rw [hg]; exact rget_any Aj cj j y.1 y.2.1 _ (VJ.out.up (only_drewN (only_refl wr none) k)).has hjl
      have PC : ∀ k, Hid (Calls Try.prog 25 #[.slice Aj j.length cj, .agg #[.int .i64 y.1, .int .i64 y.2.1, .int .i64 y.2.2]] (wr.drewN k) fun e w' => ∃ v, e = .returned v ∧ w'.ownsRow (wr.drewN k).heap.size 40 3 v (vput j y).length (dc (vput j y)) ∧ (wr.drewN k).grownBy w' none) := fun k =>
        put_any Aj cj j y _ (VJ.out.up (only_drewN (only_refl wr none) k)) hjl
      rw [← hg] at HS
      clear hj hg hy y1 y2 y3
      by_cases hk : g < y.2.2
      · have HE : Hid (vjoin l (m.take (i + 1)) = vput j y) := Lib.hid (by rw [HS.out, if_pos hk])
        go_wp2_with fail
        go_quiet ((go_at_call 16; exact quiet_left (GC _).out))
        have q1 := q1 nq
        have q2 := q2 nq
        have q3 := q3 nq
        go_wp2_with fail
        refine (PC _).out.mono ?_
        rintro _ w5 ⟨v5, rfl, o5, g5⟩
        have O5 : Hid (w5.ownsRow w.heap.size 40 3 v5 (vjoin l (m.take (i + 1))).length (dc (vjoin l (m.take (i + 1))))) := Lib.hid (by rw [HE.out]; exact own_less o5 hG.out.size)
        have G5 := Lib.hid (grow2' (only_drewN hG.out nq) g5)
        clear o5 g5
        go_wp2_with fail
        refine ⟨⟨i + 1, v5, by omega, by go_num, rfl, O5, G5⟩, ?_⟩
        simp [intOf]; omega
      · have HE : Hid (vjoin l (m.take (i + 1)) = j) := Lib.hid (by rw [HS.out, if_neg hk])
        go_wp2_with fail
        go_quiet ((go_at_call 16; exact quiet_left (GC _).out))
        go_wp2_with fail
        refine ⟨⟨i + 1, _, by omega, by go_num, rfl, ?_, only_drewN hG.out _⟩, ?_⟩
        · show Hid _
          rw [HE.out]
          exact HV.out.kept (only_drewN (only_refl wr none) _) (by cases (Value.slice Aj j.length cj).ownBlock <;> simp)
        · simp [intOf]; omega
    · have u1 : ¬ (i : Int) < (m.length : Int) := by omega
      have HE : Hid (vjoin l m = vjoin l (m.take i)) := Lib.hid (by rw [List.take_of_length_le (by omega)])
      go_wp2_with fail
      go_ret
      exact ⟨_, rfl, by rw [HE.out]; exact HV.out, hG.out⟩

theorem later_any (x y : E3) (w : World) :
    Calls Try.prog 28 #[.agg #[.int .i64 x.1, .int .i64 x.2.1, .int .i64 x.2.2], .agg #[.int .i64 y.1, .int .i64 y.2.1, .int .i64 y.2.2]] w fun e w' => e = .returned (.agg #[.int .i64 (later x y).1, .int .i64 (later x y).2.1, .int .i64 (later x y).2.2]) ∧ w.grownBy w' none := by
  by_cases h : x.2.2 < y.2.2
  · rw [show later x y = y by unfold later; rw [if_pos h]]
    go_enter Try.func28, Try.ntmps28
    go_wp2_with fail
    refine bodyPost_ret (v := .agg #[.int .i64 y.1, .int .i64 y.2.1, .int .i64 y.2.2]) (by simp [results, Try.results28, go_sem]) rfl ⟨rfl, ?_⟩
    exact only_alloc (only_alloc (World.grownBy_alloc w _ none) _) _
  · rw [show later x y = x by unfold later; rw [if_neg h]]
    go_enter Try.func28, Try.ntmps28
    go_wp2_with fail
    refine bodyPost_ret (v := .agg #[.int .i64 x.1, .int .i64 x.2.1, .int .i64 x.2.2]) (by simp [results, Try.results28, go_sem]) rfl ⟨rfl, ?_⟩
    exact only_alloc (only_alloc (World.grownBy_alloc w _ none) _) _
/-- append onto a row of entries of the call's own, at a step of a region that draws its order. -/
theorem step_app_e {w : World} {ops : Array Oper} {o : Oper} {a : Act} {K : Act → World → Prop} {Q : Exit → Act → World → Prop} {E : Prop} (hgd : o.guard = none) (s x : Operand) (tx : TypeId)
    (ho : o.op = .call { callee := .builtin .append, args := #[s, x], argTypes := #[26, tx] })
    (base : Nat) (v : Value) (n : Nat) (xs : List Value) (hs : a.eval s = v) (hown : w.ownsRow base 40 3 v n xs) (u : Value) (m : Nat) (news : List Value) (hu : a.eval x = u) (hsrc : Src Try.prog 3 tx u m news w)
    (hlen : n + m ≤ 2199023255552) (hbase : base ≤ w.heap.size)
    (h : ∀ v' w', GrewW w w' base 40 3 v v' (n + m) (xs ++ news) → K (a.put o.dst v') w') : if Region.wanted o (yielded ops a.tmps) = true then Oper.wp Try.prog o a w K Q else E := by
  have hw : Region.wanted o (yielded ops a.tmps) = true := by simp [Region.wanted, hgd]
  rw [if_pos hw]
  obtain ⟨i, hi, hzz⟩ := Option.map_eq_some_iff.1 Try.info_entry
  simp only [Prod.mk.injEq] at hzz
  obtain ⟨hz, hsz, hb⟩ := hzz
  obtain ⟨v', w', hrun, hgr⟩ := run_append_wide (P := Try.prog) w base 26 tx o.type 40 i _ 24 3 Try.underlying26 hi hz hsz hb rfl v n xs hown u m news hsrc (by unfold maxLen; omega) (by omega) hbase
  unfold Oper.wp execOp
  simp only [ho, resolve, invoke, builtin, Sem.run_bind, Sem.run_pure, Result.andThen_ok, List.map_toArray, List.map_cons, List.map_nil, hs, hu, hrun]
  exact h v' w' hgr
theorem vmrg_both {x y : E3} {o r : List E3} : vmrg (x :: o) (y :: r) = if klt x y then x :: vmrg o (y :: r) else if klt y x then y :: vmrg (x :: o) r else later x y :: vmrg o r := by rw [vmrg]

def slen : Value → Nat
  | .slice _ n _ => n
  | _ => 0
theorem ord_pos (x y : E3) (h : klt y x) : 0 < ordP x y := by
  have h1 : ¬ ordP x y < 0 := fun k => klt_irr h ((ord_neg x y).1 k)
  have h2 : ¬ ordP x y = 0 := fun k => by have := (ord_zero x y).1 k; exact klt_ne h ⟨this.1.symm, this.2.symm⟩
  omega
theorem Vw.first {w : World} {lim : Nat} {A : Option Addr} {c : Nat} {x : E3} {l : List E3} (h : Vw w lim A c (x :: l)) : ∃ b off, A = some ⟨b, off, none⟩ ∧ b < lim ∧ w.cell? ⟨b, off, none⟩ = some (.int .i64 x.1) ∧ w.cell? ⟨b, off + 1, none⟩ = some (.int .i64 x.2.1) ∧ w.cell? ⟨b, off + 2, none⟩ = some (.int .i64 x.2.2) := by
  obtain ⟨b, off, e, hb, h1, h2, h3⟩ := h.has.dot (i := 0) rfl
  exact ⟨b, off, e, hb, by simpa using h1, by simpa using h2, by simpa using h3⟩
theorem Vw.tail {w : World} {lim : Nat} {A : Option Addr} {c : Nat} {x : E3} {l : List E3} (h : Vw w lim A c (x :: l)) (n : Nat) (hn : n = (x :: l).length) :
    ∃ A', (∀ W, (Instr.sliceAt 26 (.slice A n c) (some (.int .i64 1)) none none).run Try.prog W = .ok (.slice A' (n - 1) (c - 1)) W) ∧ Vw w lim A' (c - 1) l := by
  obtain ⟨A', h1, h2⟩ := slice_lo h 1 (by simp)
  subst hn
  exact ⟨A', h1, h2⟩
theorem own_one (w : World) (x : E3) : Src Try.prog 3 26 (.slice (some ⟨w.heap.size, 0, none⟩) 1 1) 1 (dc [x]) (w.alloc (.cells #[.int .i64 x.1, .int .i64 x.2.1, .int .i64 x.2.2] 40)).drew :=
  Src.ofSlice _ Try.underlying26 _ 1 1 _ rfl (fun j u hu => by
    rw [Addr.add_lit, Nat.zero_add]; exact cell_newd _ _ _ j u (by rw [← hu, ← Array.getElem?_toList]; rfl)) (dc_one _)
/-- The state of a merge's round. -/
structure Mg (wi : World) (o0 r0 o r x : List E3) (Ao : Option Addr) (no co : Nat) (Ar : Option Addr) (nr cr : Nat) (v : Value) (w : World) : Prop where
  out : Vw w wi.heap.size Ao co o
  rest : Vw w wi.heap.size Ar cr r
  own : w.ownsRow wi.heap.size 40 3 v x.length (dc x)
  sum : vmrg o0 r0 = x ++ vmrg o r
  no_ : no = o.length
  nr_ : nr = r.length
  len : o.length + r.length + x.length ≤ 4294967296
  grew : wi.grownBy w none
theorem Mg.keep {wi : World} {o0 r0 o r x : List E3} {Ao : Option Addr} {no co : Nat} {Ar : Option Addr} {nr cr : Nat} {v : Value} {w w' : World} (h : Mg wi o0 r0 o r x Ao no co Ar nr cr v w) (g : w.grownBy w' none) : Mg wi o0 r0 o r x Ao no co Ar nr cr v w' :=
  ⟨h.out.keep g h.grew.size, h.rest.keep g h.grew.size, h.own.kept g (by cases v.ownBlock <;> simp), h.sum, h.no_, h.nr_, h.len, grow2' h.grew g⟩
theorem Vw.far {w w' : World} {lim : Nat} {A : Option Addr} {c : Nat} {l : List E3} {r : Option Nat} (h : Vw w lim A c l) (hg : w.grownBy w' r) (hl : lim ≤ w.heap.size) (hr : ∀ k, r = some k → lim ≤ k) : Vw w' lim A c l := ⟨h.has.only hg hl hr, h.cap, h.nil⟩
theorem Mg.put {wi : World} {o0 r0 o r x o' r' : List E3} {z : E3} {Ao Ao' : Option Addr} {no co no' co' : Nat} {Ar Ar' : Option Addr} {nr cr nr' cr' : Nat} {v v' : Value} {w w' : World} (h : Mg wi o0 r0 o r x Ao no co Ar nr cr v w)
    (g : GrewW w w' wi.heap.size 40 3 v v' (x.length + 1) (dc x ++ dc [z])) (ho : Vw w wi.heap.size Ao' co' o') (hr : Vw w wi.heap.size Ar' cr' r') (hs : vmrg o r = z :: vmrg o' r') (hno : no' = o'.length) (hnr : nr' = r'.length)
    (hlen : o'.length + r'.length + 1 ≤ o.length + r.length) : Mg wi o0 r0 o' r' (x ++ [z]) Ao' no' co' Ar' nr' cr' v' w' := by
  have hf : ∀ k, v.ownBlock = some k → wi.heap.size ≤ k := own_ge h.own
  refine ⟨ho.far g.only h.grew.size hf, hr.far g.only h.grew.size hf, ?_, ?_, hno, hnr, ?_, only_step h.grew g.only (fun k hk => .inr (hf k hk))⟩
  · rw [dc_append, List.length_append]; exact g.own
  · rw [h.sum, hs, List.append_assoc]; rfl
  · have := h.len; rw [List.length_append]; simp; omega
set_option maxRecDepth 100000 in
set_option maxHeartbeats 8000000 in
theorem merge_any (A : Option Addr) (c : Nat) (l : List E3) (A' : Option Addr) (c' : Nat) (m : List E3) (L : Nat) (w : World) (h : Vw w w.heap.size A c l) (h' : Vw w w.heap.size A' c' m) (hl : l.length ≤ 1073741824) (hm : m.length ≤ 1073741824)
    (hL : L < w.heap.size) (hc0 : w.cell? ⟨L, 0, none⟩ = some (.slice A l.length c)) (hc1 : w.cell? ⟨L, 1, none⟩ = some (.slice A' m.length c')) :
    Calls Try.prog 26 #[.func (.func 27) #[] #[], .func (.func 28) #[] #[], .slice (some ⟨L, 0, none⟩) 2 2] w fun e w' => ∃ v, e = .returned v ∧ w'.ownsRow w.heap.size 40 3 v (vmrg l m).length (dc (vmrg l m)) ∧ w.grownBy w' none := by
  have HA := Lib.hid h
  have HB := Lib.hid h'
  clear h h'
  go_enter Try.func26, Try.ntmps26
  go_wp2_with fail
  go_loopw [7, 14] (fun s7 si wr => ∃ (i : Nat) (cur : List E3) (v : Value), i ≤ 2 ∧ si = .int .i64 i ∧ v = s7 ∧ Hid (cur = if i = 0 then [] else if i = 1 then l else vmrg l m) ∧ Hid (cur.length ≤ 2147483648) ∧ Hid (wr.ownsRow w.heap.size 40 3 v cur.length (dc cur)) ∧ Hid (w.grownBy wr none)) (fun _ si _ => 2 - (intOf si).toNat)
  case atStart => exact ⟨0, [], .slice none 0 0, by omega, rfl, rfl, rfl, by show ([] : List E3).length ≤ _; simp, World.ownsRow_nil _ _ _ 3, only_refl _ _⟩
  case round =>
    obtain ⟨i, cur, v, hi, rfl, rfl, HC, HCL, HV, hG⟩ := hrel
    by_cases hlt : i < 2
    · have u1 : (i : Int) < 2 := by omega
      have u0 : (0 : Int) ≤ (i : Int) := by omega
      have hes : IntKind.i64.wrap ((i : Int) + 1) = (i : Int) + 1 := by rw [IntKind.wrap_i64]; omega
      obtain ⟨Ar0, nr0, cr0, r0, hcell, HR0, hrn, hrl, HNX⟩ : ∃ (Ar0 : Option Addr) (nr0 cr0 : Nat) (r0 : List E3), w.cell? ⟨L, i, none⟩ = some (.slice Ar0 nr0 cr0) ∧ Hid (Vw w w.heap.size Ar0 cr0 r0) ∧ Hid (nr0 = r0.length) ∧ r0.length ≤ 1073741824 ∧ Hid (vmrg cur r0 = if i + 1 = 0 then [] else if i + 1 = 1 then l else vmrg l m) := by
        rcases (show i = 0 ∨ i = 1 by omega) with rfl | rfl
        · exact ⟨A, l.length, c, l, hc0, HA, rfl, hl, Lib.hid (by rw [HC.out]; simp [vmrg])⟩
        · exact ⟨A', m.length, c', m, hc1, HB, rfl, hm, Lib.hid (by rw [HC.out]; simp)⟩
      have hcw : wr.cell? ⟨L, i, none⟩ = some (.slice Ar0 nr0 cr0) := (World.cell?_of_block (hG.out.block L hL (by simp))).trans hcell
      clear hcell
      obtain ⟨Ao0, co0, rfl⟩ := own_slice_w HV.out
      have VO := Lib.hid (Vw.own HV.out).1
      have HR := Lib.hid (HR0.out.up hG.out)
      have hcl := HCL.out
      obtain ⟨no0, hno0⟩ : ∃ n, n = cur.length := ⟨_, rfl⟩
      rw [← hno0] at HV ⊢
      have HNO := Lib.hid hno0
      have MG0 : Hid (Mg wr cur r0 cur r0 [] Ao0 no0 co0 Ar0 nr0 cr0 (.slice none 0 0) wr) := Lib.hid ⟨VO.out, HR.out, World.ownsRow_nil _ _ _ 3, rfl, HNO.out, hrn.out, by simp; omega, only_refl _ _⟩
      clear hno0 VO HR HR0 hrn
      go_wp2_with fail
      obtain ⟨wi, hwi⟩ : ∃ wi, wi = wr := ⟨_, rfl⟩
      rw [← hwi] at MG0 hG HV ⊢
      clear hwi hcw
      obtain ⟨o0, ho0⟩ : ∃ o0, o0 = cur := ⟨_, rfl⟩
      rw [← ho0] at MG0 HNX
      clear HV HC HCL hcl HNO ho0
      go_loopw [7, 9, 10] (fun s7 s9 s10 wr => ∃ (o r x : List E3) (Ao : Option Addr) (no co : Nat) (Ar : Option Addr) (nr cr : Nat) (v : Value), s7 = .slice Ao no co ∧ s9 = .slice Ar nr cr ∧ v = s10 ∧ Hid (Mg wi o0 r0 o r x Ao no co Ar nr cr v wr)) (fun s7 s9 _ _ => slen s7 + slen s9)
      case atStart => exact ⟨_, _, [], _, _, _, _, _, _, _, rfl, rfl, rfl, MG0⟩
      case round =>
        clear MG0
        obtain ⟨o, r, xs, Ao, no, co, Ar, nr, cr, v, rfl, rfl, rfl, MG⟩ := hrel
        by_cases hboth : 0 < no ∧ 0 < nr
        · obtain ⟨p1, p2⟩ := hboth
          have p3 : (0 : Int) < (no : Int) := by omega
          have p4 : (0 : Int) < (nr : Int) := by omega
          obtain ⟨x, o, rfl⟩ : ∃ x o', o = x :: o' := by
            cases o with
            | nil => have := MG.out.no_; simp at this; omega
            | cons x o => exact ⟨x, o, rfl⟩
          obtain ⟨y, r, rfl⟩ : ∃ x o', r = x :: o' := by
            cases r with
            | nil => have := MG.out.nr_; simp at this; omega
            | cons x o => exact ⟨x, o, rfl⟩
          obtain ⟨b, off, e0, hb, x1, x2, x3⟩ := MG.out.out.first
          obtain ⟨b', off', e0', hb', y1, y2, y3⟩ := MG.out.rest.first
          obtain ⟨Ao', slo, vo⟩ := MG.out.out.tail no MG.out.no_
          obtain ⟨Ar', slr, vr⟩ := MG.out.rest.tail nr MG.out.nr_
          have VO := Lib.hid vo
          have VR := Lib.hid vr
          subst e0; subst e0'
          have HN1 := Lib.hid MG.out.no_
          have HN2 := Lib.hid MG.out.nr_
          have hn1 : Hid (no - 1 = o.length) := Lib.hid (by have := HN1.out; simp at this; omega)
          have hn2 : Hid (nr - 1 = r.length) := Lib.hid (by have := HN2.out; simp at this; omega)
          have hxl : xs.length ≤ 4294967296 := by have := MG.out.len; omega
          obtain ⟨Av, cv, rfl⟩ := own_slice_w MG.out.own
          have SV : ∀ V, wr.grownBy V none → Hid (V.cell? ⟨b, off, none⟩ = some (.int .i64 x.1) ∧ V.cell? ⟨b, off + 1, none⟩ = some (.int .i64 x.2.1) ∧ V.cell? ⟨b, off + 2, none⟩ = some (.int .i64 x.2.2) ∧ V.cell? ⟨b', off', none⟩ = some (.int .i64 y.1) ∧ V.cell? ⟨b', off' + 1, none⟩ = some (.int .i64 y.2.1) ∧ V.cell? ⟨b', off' + 2, none⟩ = some (.int .i64 y.2.2) ∧ wr.grownBy V none) := fun V hV => by
            have hz := MG.out.grew.size
            have q : ∀ j, V.cell? ⟨b, j, none⟩ = wr.cell? ⟨b, j, none⟩ := fun j => World.cell?_of_block (hV.block b (by omega) (by simp))
            have q' : ∀ j, V.cell? ⟨b', j, none⟩ = wr.cell? ⟨b', j, none⟩ := fun j => World.cell?_of_block (hV.block b' (by omega) (by simp))
            exact ⟨(q _).trans x1, (q _).trans x2, (q _).trans x3, (q' _).trans y1, (q' _).trans y2, (q' _).trans y3, hV⟩
          have gd : wr.grownBy wr.drew none := only_drew (only_refl wr none)
          clear x1 x2 x3 y1 y2 y3 vo vr
          obtain ⟨xn, hxn⟩ : ∃ n, n = xs.length := ⟨_, rfl⟩
          have XN := Lib.hid hxn
          rw [← hxn] at hxl ⊢
          clear hxn
          go_wp2_with fail
          go_region_held3 (fun V => V.cell? ⟨b, off, none⟩ = some (.int .i64 x.1) ∧ V.cell? ⟨b, off + 1, none⟩ = some (.int .i64 x.2.1) ∧ V.cell? ⟨b, off + 2, none⟩ = some (.int .i64 x.2.2) ∧ V.cell? ⟨b', off', none⟩ = some (.int .i64 y.1) ∧ V.cell? ⟨b', off' + 1, none⟩ = some (.int .i64 y.2.1) ∧ V.cell? ⟨b', off' + 2, none⟩ = some (.int .i64 y.2.2) ∧ wr.grownBy V none) (first | exact (SV _ (by assumption)).out | exact (SV _ (only_drew (by assumption))).out) ((go_at_call 27; refine (ord_any x y _).mono ?_; rintro e wa ⟨rfl, ga⟩; have ga := grow2' gd ga))
          have M1 := Lib.hid (MG.out.keep ga)
          have M1g := Lib.hid ga
          have wrz : wi.heap.size ≤ wr.heap.size := MG.out.grew.size
          have gwa : wi.grownBy wa none := grow2' MG.out.grew ga
          have gW := Lib.hid MG.out.grew
          have xnl : xn + 1 ≤ 2199023255552 := by omega
          have SV : ∀ V, wi.grownBy V none → Hid (V.cell? ⟨b, off, none⟩ = some (.int .i64 x.1) ∧ V.cell? ⟨b, off + 1, none⟩ = some (.int .i64 x.2.1) ∧ V.cell? ⟨b, off + 2, none⟩ = some (.int .i64 x.2.2) ∧ V.cell? ⟨b', off', none⟩ = some (.int .i64 y.1) ∧ V.cell? ⟨b', off' + 1, none⟩ = some (.int .i64 y.2.1) ∧ V.cell? ⟨b', off' + 2, none⟩ = some (.int .i64 y.2.2) ∧ wi.grownBy V none) := fun V hV => by
            have q0 := (SV wr (only_refl wr none)).out
            have q : ∀ b j, b < wi.heap.size → V.cell? ⟨b, j, none⟩ = wr.cell? ⟨b, j, none⟩ := fun b j hb => (World.cell?_of_block (hV.block b hb (by simp))).trans (World.cell?_of_block (gW.out.block b hb (by simp))).symm
            exact ⟨(q _ _ hb).trans q0.1, (q _ _ hb).trans q0.2.1, (q _ _ hb).trans q0.2.2.1, (q _ _ hb').trans q0.2.2.2.1, (q _ _ hb').trans q0.2.2.2.2.1, (q _ _ hb').trans q0.2.2.2.2.2.1, hV⟩
          clear gd ga
          by_cases hk : klt x y
          · have t1 : ordP x y < 0 := (ord_neg x y).2 hk
            have HSM : Hid (vmrg (x :: o) (y :: r) = x :: vmrg o (y :: r)) := Lib.hid (by rw [vmrg_both, if_pos hk])
            clear hk
            have MD : Hid (Mg wi o0 r0 (x :: o) (y :: r) xs _ no co _ nr cr (.slice Av xs.length cv) ((wa.alloc (.cells #[.int .i64 x.1, .int .i64 x.2.1, .int .i64 x.2.2] 40)).drew)) := Lib.hid (M1.out.keep (only_drew (World.grownBy_alloc wa _ none)))
            have OW : Hid (((wa.alloc (.cells #[.int .i64 x.1, .int .i64 x.2.1, .int .i64 x.2.2] 40)).drew).ownsRow wi.heap.size 40 3 (.slice Av xn cv) xn (dc xs)) := Lib.hid (by have := MD.out.own; rwa [← XN.out] at this)
            have SW := Lib.hid (own_one wa x)
            have VO2 : Hid (Vw ((wa.alloc (.cells #[.int .i64 x.1, .int .i64 x.2.1, .int .i64 x.2.2] 40)).drew) wi.heap.size Ao' (co - 1) o) := Lib.hid (VO.out.keep (grow2' M1g.out (only_drew (World.grownBy_alloc wa _ none))) wrz)
            have VR2 : Hid (Vw ((wa.alloc (.cells #[.int .i64 x.1, .int .i64 x.2.1, .int .i64 x.2.2] 40)).drew) wi.heap.size Ar' (cr - 1) r) := Lib.hid (VR.out.keep (grow2' M1g.out (only_drew (World.grownBy_alloc wa _ none))) wrz)
            go_wp2_with fail
            go_region_held3 (fun V => V.cell? ⟨b, off, none⟩ = some (.int .i64 x.1) ∧ V.cell? ⟨b, off + 1, none⟩ = some (.int .i64 x.2.1) ∧ V.cell? ⟨b, off + 2, none⟩ = some (.int .i64 x.2.2) ∧ V.cell? ⟨b', off', none⟩ = some (.int .i64 y.1) ∧ V.cell? ⟨b', off' + 1, none⟩ = some (.int .i64 y.2.1) ∧ V.cell? ⟨b', off' + 2, none⟩ = some (.int .i64 y.2.2) ∧ wi.grownBy V none) (first | exact (SV _ (by assumption)).out | exact (SV _ (only_drew (by assumption))).out | exact (SV _ (only_drew (only_alloc (by assumption) _))).out | exact (SV _ (only_alloc (by assumption) _)).out) ((refine step_app_e (by rfl) _ _ 26 (by rfl) wi.heap.size (.slice Av xn cv) xn (dc xs) (by rfl) OW.out (.slice (some ⟨wa.heap.size, 0, none⟩) 1 1) 1 (dc [x]) (by rfl) SW.out xnl MD.out.grew.size ?_; intro v9 w9 g9; rw [XN.out] at g9; have M9 := Lib.hid (MD.out.put g9 VO2.out (MD.out.rest) HSM.out hn1.out HN2.out (by simp only [List.length_cons]; omega)); have gi := M9.out.grew; clear g9))
            go_wp2_with fail
            refine ⟨⟨o, (y :: r), xs ++ [x], _, _, _, _, _, _, v9, rfl, rfl, rfl, M9⟩, ?_⟩
            simp [slen]; omega
          · have t1 : ¬ ordP x y < 0 := fun h => hk ((ord_neg x y).1 h)
            by_cases hk2 : klt y x
            · have t2 : 0 < ordP x y := ord_pos x y hk2
              have HSM : Hid (vmrg (x :: o) (y :: r) = y :: vmrg (x :: o) r) := Lib.hid (by rw [vmrg_both, if_neg hk, if_pos hk2])
              clear hk hk2
              have MD : Hid (Mg wi o0 r0 (x :: o) (y :: r) xs _ no co _ nr cr (.slice Av xs.length cv) ((wa.alloc (.cells #[.int .i64 y.1, .int .i64 y.2.1, .int .i64 y.2.2] 40)).drew)) := Lib.hid (M1.out.keep (only_drew (World.grownBy_alloc wa _ none)))
              have OW : Hid (((wa.alloc (.cells #[.int .i64 y.1, .int .i64 y.2.1, .int .i64 y.2.2] 40)).drew).ownsRow wi.heap.size 40 3 (.slice Av xn cv) xn (dc xs)) := Lib.hid (by have := MD.out.own; rwa [← XN.out] at this)
              have SW := Lib.hid (own_one wa y)
              have VO2 : Hid (Vw ((wa.alloc (.cells #[.int .i64 y.1, .int .i64 y.2.1, .int .i64 y.2.2] 40)).drew) wi.heap.size Ao' (co - 1) o) := Lib.hid (VO.out.keep (grow2' M1g.out (only_drew (World.grownBy_alloc wa _ none))) wrz)
              have VR2 : Hid (Vw ((wa.alloc (.cells #[.int .i64 y.1, .int .i64 y.2.1, .int .i64 y.2.2] 40)).drew) wi.heap.size Ar' (cr - 1) r) := Lib.hid (VR.out.keep (grow2' M1g.out (only_drew (World.grownBy_alloc wa _ none))) wrz)
              go_wp2_with fail
              go_region_held3 (fun V => V.cell? ⟨b, off, none⟩ = some (.int .i64 x.1) ∧ V.cell? ⟨b, off + 1, none⟩ = some (.int .i64 x.2.1) ∧ V.cell? ⟨b, off + 2, none⟩ = some (.int .i64 x.2.2) ∧ V.cell? ⟨b', off', none⟩ = some (.int .i64 y.1) ∧ V.cell? ⟨b', off' + 1, none⟩ = some (.int .i64 y.2.1) ∧ V.cell? ⟨b', off' + 2, none⟩ = some (.int .i64 y.2.2) ∧ wi.grownBy V none) (first | exact (SV _ (by assumption)).out | exact (SV _ (only_drew (by assumption))).out | exact (SV _ (only_drew (only_alloc (by assumption) _))).out | exact (SV _ (only_alloc (by assumption) _)).out) ((refine step_app_e (by rfl) _ _ 26 (by rfl) wi.heap.size (.slice Av xn cv) xn (dc xs) (by rfl) OW.out (.slice (some ⟨wa.heap.size, 0, none⟩) 1 1) 1 (dc [y]) (by rfl) SW.out xnl MD.out.grew.size ?_; intro v9 w9 g9; rw [XN.out] at g9; have M9 := Lib.hid (MD.out.put g9 (MD.out.out) VR2.out HSM.out HN1.out hn2.out (by simp only [List.length_cons]; omega)); have gi := M9.out.grew; clear g9))
              go_wp2_with fail
              refine ⟨⟨(x :: o), r, xs ++ [y], _, _, _, _, _, _, v9, rfl, rfl, rfl, M9⟩, ?_⟩
              simp [slen]; omega
            · have t2 : ¬ 0 < ordP x y := fun h => by
                rcases klt_or x y with q | q | q
                · exact hk q
                · exact hk2 q
                · have := (ord_zero x y).2 q; omega
              have HSM : Hid (vmrg (x :: o) (y :: r) = later x y :: vmrg o r) := Lib.hid (by rw [vmrg_both, if_neg hk, if_neg hk2])
              have LT := Lib.hid (later_any x y)
              obtain ⟨z, hz⟩ : ∃ z, z = later x y := ⟨_, rfl⟩
              rw [← hz] at HSM LT
              clear hk hk2 hz
              go_wp2_with fail
              go_region_held3 (fun V => V.cell? ⟨b, off, none⟩ = some (.int .i64 x.1) ∧ V.cell? ⟨b, off + 1, none⟩ = some (.int .i64 x.2.1) ∧ V.cell? ⟨b, off + 2, none⟩ = some (.int .i64 x.2.2) ∧ V.cell? ⟨b', off', none⟩ = some (.int .i64 y.1) ∧ V.cell? ⟨b', off' + 1, none⟩ = some (.int .i64 y.2.1) ∧ V.cell? ⟨b', off' + 2, none⟩ = some (.int .i64 y.2.2) ∧ wi.grownBy V none) (first | exact (SV _ (by assumption)).out | exact (SV _ (only_drew (by assumption))).out | exact (SV _ (only_drew (only_alloc (by assumption) _))).out | exact (SV _ (only_alloc (by assumption) _)).out) ((first
                | (go_at_call 28; refine (LT.out _).mono ?_; rintro e wb ⟨rfl, gb⟩; have M2g := Lib.hid (grow2' (only_drew M1g.out) gb); have M2 := Lib.hid (MG.out.keep M2g.out); have gwb := M2.out.grew; have MD : Hid (Mg wi o0 r0 (x :: o) (y :: r) xs _ no co _ nr cr (.slice Av xs.length cv) (wb.alloc (.cells #[.int .i64 (z).1, .int .i64 (z).2.1, .int .i64 (z).2.2] 40))) := Lib.hid (M2.out.keep (World.grownBy_alloc wb _ none)); have OW : Hid ((wb.alloc (.cells #[.int .i64 (z).1, .int .i64 (z).2.1, .int .i64 (z).2.2] 40)).ownsRow wi.heap.size 40 3 (.slice Av xn cv) xn (dc xs)) := Lib.hid (by have := MD.out.own; rwa [← XN.out] at this); have SW := Lib.hid (src_one wb z); have VO2 : Hid (Vw (wb.alloc (.cells #[.int .i64 (z).1, .int .i64 (z).2.1, .int .i64 (z).2.2] 40)) wi.heap.size Ao' (co - 1) o) := Lib.hid (VO.out.keep (grow2' M2g.out (World.grownBy_alloc wb _ none)) wrz); have VR2 : Hid (Vw (wb.alloc (.cells #[.int .i64 (z).1, .int .i64 (z).2.1, .int .i64 (z).2.2] 40)) wi.heap.size Ar' (cr - 1) r) := Lib.hid (VR.out.keep (grow2' M2g.out (World.grownBy_alloc wb _ none)) wrz))
                | (refine step_app_e (by rfl) _ _ 26 (by rfl) wi.heap.size (.slice Av xn cv) xn (dc xs) (by rfl) OW.out (.slice (some ⟨wb.heap.size, 0, none⟩) 1 1) 1 (dc [z]) (by rfl) SW.out xnl MD.out.grew.size ?_; intro v9 w9 g9; rw [XN.out] at g9; have M9 := Lib.hid (MD.out.put g9 VO2.out VR2.out HSM.out hn1.out hn2.out (by simp only [List.length_cons]; omega)); have gi := M9.out.grew; clear g9)))
              go_wp2_with fail
              refine ⟨⟨o, r, xs ++ [z], _, _, _, _, _, _, v9, rfl, rfl, rfl, M9⟩, ?_⟩
              simp [slen]; omega
        · have EQ : Hid (vmrg o r = o ++ r) := Lib.hid (by
            have e1 := MG.out.no_
            have e2 := MG.out.nr_
            rcases (show no = 0 ∨ nr = 0 by omega) with h0 | h0
            · rw [List.eq_nil_of_length_eq_zero (show o.length = 0 by omega), vmrg]; rfl
            · rw [List.eq_nil_of_length_eq_zero (show r.length = 0 by omega), vmrg_nil, List.append_nil])
          have t1 : no = 0 ∨ nr = 0 := by omega
          obtain ⟨Av, cv, rfl⟩ := own_slice_w MG.out.own
          obtain ⟨xn, hxn⟩ : ∃ n, n = xs.length := ⟨_, rfl⟩
          have XN := Lib.hid hxn
          have OW : Hid (wr.ownsRow wi.heap.size 40 3 (.slice Av xn cv) xn (dc xs)) := Lib.hid (by have := MG.out.own; rwa [← XN.out] at this)
          have S1 : Hid (Src Try.prog 3 26 (.slice Ao no co) no (dc o) wr) := Lib.hid (Src.all MG.out.out no MG.out.no_)
          have hz := MG.out.grew.size
          have hlen := MG.out.len
          rw [← MG.out.no_, ← MG.out.nr_, ← hxn] at hlen
          rw [← hxn]
          have FAR : ∀ k, (Value.slice Av xn cv).ownBlock = some k → wi.heap.size ≤ k := own_ge OW.out
          have FAR := Lib.hid FAR
          clear hxn hboth
          have CORE : ∀ (t : no = 0 ∨ nr = 0), True := fun _ => trivial
          rcases t1 with t1 | t1
          · have p3 : ¬ (0 : Int) < (no : Int) := by omega
            have NZ := Lib.hid t1
            clear t1
            go_wp2_with (first
              | (at_builtin; refine app_e rfl _ _ 26 rfl wi.heap.size (.slice Av xn cv) xn (dc xs) rfl OW.out (.slice Ao no co) no (dc o) rfl S1.out (by omega) hz ?_; intro v8 w8 g8; rw [← dc_append] at g8; have G8 := Lib.hid (only_step MG.out.grew g8.only (fun k hk => .inr (FAR.out k hk))); have O8 := Lib.hid g8.own; have z8 : wi.heap.size ≤ w8.heap.size := G8.out.size; have S2 : Hid (Src Try.prog 3 26 (.slice Ar nr cr) nr (dc r) w8) := Lib.hid (Src.all (MG.out.rest.far g8.only hz FAR.out) nr MG.out.nr_); clear g8)
              | (at_builtin; refine app_e rfl _ _ 26 rfl wi.heap.size v8 (xn + no) _ rfl O8.out (.slice Ar nr cr) nr (dc r) rfl S2.out (by omega) z8 ?_; intro v9 w9 g9; rw [← dc_append] at g9; have G9 := Lib.hid (only_step G8.out g9.only (fun k hk => .inr (own_ge O8.out k hk))); have O9 := Lib.hid g9.own; clear g9))
            have HL : Hid (xs ++ o ++ r = vmrg o0 r0) := Lib.hid (by rw [MG.out.sum, EQ.out, List.append_assoc])
            have HLL : Hid (xn + no + nr = (vmrg o0 r0).length) := Lib.hid (by rw [← HL.out, List.length_append, List.length_append, XN.out, MG.out.no_, MG.out.nr_])
            refine ⟨⟨i + 1, vmrg o0 r0, v9, by omega, by go_num, rfl, HNX, ?_, ?_, grow2' hG.out G9.out⟩, ?_⟩
            · show _ ≤ _
              rw [HNX.out]
              have := vmrg_len l m
              repeat' split
              all_goals first | omega | (simp; done) | (simp; omega)
            · show World.ownsRow _ _ _ _ _ _ _
              have := O9.out
              rw [HL.out, HLL.out] at this
              exact own_less this hG.out.size
            · simp [intOf]; omega
          · have p4 : ¬ (0 : Int) < (nr : Int) := by omega
            have NZ := Lib.hid t1
            clear t1
            by_cases p3 : (0 : Int) < (no : Int)
            · go_wp2_with (first
                | (at_builtin; refine app_e rfl _ _ 26 rfl wi.heap.size (.slice Av xn cv) xn (dc xs) rfl OW.out (.slice Ao no co) no (dc o) rfl S1.out (by omega) hz ?_; intro v8 w8 g8; rw [← dc_append] at g8; have G8 := Lib.hid (only_step MG.out.grew g8.only (fun k hk => .inr (FAR.out k hk))); have O8 := Lib.hid g8.own; have z8 : wi.heap.size ≤ w8.heap.size := G8.out.size; have S2 : Hid (Src Try.prog 3 26 (.slice Ar nr cr) nr (dc r) w8) := Lib.hid (Src.all (MG.out.rest.far g8.only hz FAR.out) nr MG.out.nr_); clear g8)
                | (at_builtin; refine app_e rfl _ _ 26 rfl wi.heap.size v8 (xn + no) _ rfl O8.out (.slice Ar nr cr) nr (dc r) rfl S2.out (by omega) z8 ?_; intro v9 w9 g9; rw [← dc_append] at g9; have G9 := Lib.hid (only_step G8.out g9.only (fun k hk => .inr (own_ge O8.out k hk))); have O9 := Lib.hid g9.own; clear g9))
              have HL : Hid (xs ++ o ++ r = vmrg o0 r0) := Lib.hid (by rw [MG.out.sum, EQ.out, List.append_assoc])
              have HLL : Hid (xn + no + nr = (vmrg o0 r0).length) := Lib.hid (by rw [← HL.out, List.length_append, List.length_append, XN.out, MG.out.no_, MG.out.nr_])
              refine ⟨⟨i + 1, vmrg o0 r0, v9, by omega, by go_num, rfl, HNX, ?_, ?_, grow2' hG.out G9.out⟩, ?_⟩
              · show _ ≤ _
                rw [HNX.out]
                have := vmrg_len l m
                repeat' split
                all_goals first | omega | (simp; done) | (simp; omega)
              · show World.ownsRow _ _ _ _ _ _ _
                have := O9.out
                rw [HL.out, HLL.out] at this
                exact own_less this hG.out.size
              · simp [intOf]; omega
            · go_wp2_with (first
                | (at_builtin; refine app_e rfl _ _ 26 rfl wi.heap.size (.slice Av xn cv) xn (dc xs) rfl OW.out (.slice Ao no co) no (dc o) rfl S1.out (by omega) hz ?_; intro v8 w8 g8; rw [← dc_append] at g8; have G8 := Lib.hid (only_step MG.out.grew g8.only (fun k hk => .inr (FAR.out k hk))); have O8 := Lib.hid g8.own; have z8 : wi.heap.size ≤ w8.heap.size := G8.out.size; have S2 : Hid (Src Try.prog 3 26 (.slice Ar nr cr) nr (dc r) w8) := Lib.hid (Src.all (MG.out.rest.far g8.only hz FAR.out) nr MG.out.nr_); clear g8)
                | (at_builtin; refine app_e rfl _ _ 26 rfl wi.heap.size v8 (xn + no) _ rfl O8.out (.slice Ar nr cr) nr (dc r) rfl S2.out (by omega) z8 ?_; intro v9 w9 g9; rw [← dc_append] at g9; have G9 := Lib.hid (only_step G8.out g9.only (fun k hk => .inr (own_ge O8.out k hk))); have O9 := Lib.hid g9.own; clear g9))
              have HL : Hid (xs ++ o ++ r = vmrg o0 r0) := Lib.hid (by rw [MG.out.sum, EQ.out, List.append_assoc])
              have HLL : Hid (xn + no + nr = (vmrg o0 r0).length) := Lib.hid (by rw [← HL.out, List.length_append, List.length_append, XN.out, MG.out.no_, MG.out.nr_])
              refine ⟨⟨i + 1, vmrg o0 r0, v9, by omega, by go_num, rfl, HNX, ?_, ?_, grow2' hG.out G9.out⟩, ?_⟩
              · show _ ≤ _
                rw [HNX.out]
                have := vmrg_len l m
                repeat' split
                all_goals first | omega | (simp; done) | (simp; omega)
              · show World.ownsRow _ _ _ _ _ _ _
                have := O9.out
                rw [HL.out, HLL.out] at this
                exact own_less this hG.out.size
              · simp [intOf]; omega
    · obtain rfl : i = 2 := by omega
      have HK : Hid (vmrg l m = cur) := Lib.hid (by rw [HC.out]; simp)
      go_wp2_with fail
      go_ret
      exact ⟨_, rfl, by rw [HK.out]; exact HV.out, hG.out⟩
end Go.Proofs.Ytlanldjpafkckaa
