/- Timers.Due: taking off a heap as long as its first is due. No condition of the program's own. -/
import Derived.Test.YtgfpogmipennaaaSw
namespace Go.Proofs.Ytgfpogmipennaaa
open Go.RowKit Go.Deep
theorem Try.info_int : (Try.prog.info? 3).map (fun i => (i.zero, i.size, i.bytes)) = some (some (.int .i64 0), 1, 8) := by kernel_rfl
def ns (l : List Int) : List Value := l.map (Value.int .i64)
theorem ns_one (l : List Int) : ∀ u ∈ ns l, u.oneCell' = true := fun u hu => by obtain ⟨_, _, rfl⟩ := List.mem_map.1 hu; rfl
theorem ns_len (l : List Int) : (ns l).length = l.length := by simp [ns]
theorem ns_append (l m : List Int) : ns (l ++ m) = ns l ++ ns m := by simp [ns]
theorem app_ints {w : World} {ops : Array Oper} {rest : List Oper} {o : Oper} {a : Act} {Q : Exit → Act → World → Prop} (hgd : o.guard = none) (s x : Operand) (tx : TypeId)
    (ho : o.op = .call { callee := .builtin .append, args := #[s, x], argTypes := #[22, tx] })
    (base : Nat) (v : Value) (xs : List Value) (hs : a.eval s = v) (hown : w.ownsRow base 3 1 v xs.length xs) (u : Value) (news : List Value) (hu : a.eval x = u) (hsrc : Src Try.prog 1 tx u news.length news w)
    (hlen : xs.length + news.length ≤ 8796093022208) (hbase : base ≤ w.heap.size)
    (h : ∀ v' w', Grew w w' base 3 v v' (xs ++ news) → wpList Try.prog ops Q rest (a.put o.dst v') w') : wpList Try.prog ops Q (o :: rest) a w := by
  obtain ⟨i, hi, hzz⟩ := Option.map_eq_some_iff.1 Try.info_int
  simp only [Prod.mk.injEq] at hzz
  obtain ⟨hz, hsz, hb⟩ := hzz
  exact wpList_append_row w hgd s x 22 tx ho base 3 i (.int .i64 0) 8 Try.underlying22 hi hz hsz hb rfl v xs hs hown u news hu hsrc (by simp only [maxLen]; omega) (by omega) hbase h
theorem src_int (w : World) (n : Int) (t : TypeId) : Src Try.prog 1 22 (.slice (some ⟨w.heap.size, 0, none⟩) 1 1) 1 (ns [n]) (w.alloc (.cells #[.int .i64 n] t)) :=
  Src.ofSlice _ Try.underlying22 ⟨w.heap.size, 0, none⟩ 1 1 (ns [n]) rfl (fun j u hu => by
    match j, hu with
    | 0, hu => simp [ns] at hu; subst hu; simp [Addr.add]) (ns_one _)
def isDue (now : Int) (y : It) : Bool := decide (y.2 ≤ now)
theorem tw_split {α : Type} {p : α → Bool} {A C : List α} (hA : ∀ y ∈ A, p y = true) (hC : ∀ z r, C = z :: r → p z = false) : (A ++ C).takeWhile p = A ∧ (A ++ C).dropWhile p = C := by
  induction A with
  | nil =>
    cases C with
    | nil => simp
    | cons z r => simp [hC z r rfl]
  | cons a A ih =>
    obtain ⟨h1, h2⟩ := ih (fun y hy => hA y (by simp [hy]))
    simp [hA a (by simp), h1, h2]
def lenOf : Value → Nat | .slice _ n _ => n | _ => 0
/-- How far the taking is. -/
structure Dr (w wr : World) (B : Nat) (S : List It) (F : Nat → Prop) (now : Int) (v : Value) (A C : List It) : Prop where
  eq : S = A ++ C
  due : ∀ y ∈ A, isDue now y = true
  row : wr.ownsRow w.heap.size 3 1 v (ns (ids A)).length (ns (ids A))
  ts : TS wr B C F
  only : OnlyF F w wr
theorem row_slice {w : World} {base e s n : Nat} {v : Value} {xs : List Value} (h : w.ownsRow base e s v n xs) : ∃ A c, v = .slice A n c := by
  rcases h.2 with ⟨hv, h0⟩ | ⟨g, cap, _, hv, _⟩
  · exact ⟨none, 0, by rw [hv, h0]⟩
  · exact ⟨_, cap, hv⟩
theorem row_ge {w : World} {B e s n : Nat} {v : Value} {xs : List Value} (h : w.ownsRow B e s v n xs) : ∀ k, v.ownBlock = some k → B ≤ k := fun k hk => by
  rcases h.2 with ⟨hv, _⟩ | ⟨g, cap, cur, hv, hg, h2⟩
  · rw [hv] at hk; simp [Value.ownBlock] at hk
  · rw [hv] at hk; simp [Value.ownBlock] at hk; omega
theorem grown_row {w wr w' : World} {F : Nat → Prop} {v : Value} (o : OnlyF F w wr) (g : wr.grownBy w' v.ownBlock) (hv : ∀ k, v.ownBlock = some k → w.heap.size ≤ k) : OnlyF F w w' :=
  ⟨g.os.trans o.os, g.tape.trans o.tape, g.output.trans o.output, Nat.le_trans o.size g.size, fun k hk hF => (g.block k (Nat.lt_of_lt_of_le hk o.size) (fun e => by have := hv k e.symm; omega)).trans (o.block k hk hF)⟩
theorem TS.other {w w' : World} {B : Nat} {S : List It} {F : Nat → Prop} {v : Value} (h : TS w B S F) (g : w.grownBy w' v.ownBlock) (hv : ∀ k, F k → v.ownBlock ≠ some k) : TS w' B S F :=
  h.apart (OnlyF.of (F := fun k => v.ownBlock = some k) g (fun _ e => e)) (fun k hk _ => hv k hk)
set_option maxRecDepth 100000 in
set_option maxHeartbeats 1000000 in
theorem drain_q (B : Nat) (now : Int) (S : List It) (F : Nat → Prop) (w : World) (h : TS w B S F) (hF : ∀ k, F k → k < w.heap.size) (hl : S.length ≤ 1099511627770) :
    Calls Try.prog 27 #[.iface 58 (.pointer (some ⟨B, 0, none⟩)), .func (Fn.func 28) #[.int .i64 now] #[]] w fun e w' =>
      ∃ v, e = .returned v ∧ w'.ownsRow w.heap.size 3 1 v (ns (ids (S.takeWhile (isDue now)))).length (ns (ids (S.takeWhile (isDue now)))) ∧ TS w' B (S.dropWhile (isDue now)) F ∧ OnlyF F w w' := by
  have e1 := m_len
  have e2 := m_first
  have f0 := fld0
  have D0 : Dr w w B S F now (.slice none 0 0) [] S := ⟨rfl, (fun _ h => by cases h), World.ownsRow_nil _ _ _ 1, h, OnlyF.refl _ _⟩
  have HF := Lib.hid hF
  clear h hF
  go_enter Try.func27, Try.ntmps27
  go_wp2_with fail
  go_loopw [5] (fun sj wr => ∃ A C, Dr w wr B S F now sj A C) (fun sj _ => S.length - lenOf sj)
  case atStart => exact ⟨[], S, D0⟩
  case round =>
    clear D0
    obtain ⟨A, C, D⟩ := hrel
    obtain ⟨l, q, hp, p, hS⟩ := D.ts
    have FAR := Lib.hid (row_ge D.row)
    have hsize := D.only.size
    obtain ⟨X, c, hX⟩ := row_slice D.row
    have HX := Lib.hid hX
    have DN := Lib.hid D
    cases C with
    | nil =>
      have hl0 : l.length = 0 := p.length_eq
      have t1 : decide ((0 : Int) < (l.length : Int)) = false := by rw [decide_eq_false_iff_not]; omega
      have FIN := Lib.hid (tw_split (p := isDue now) D.due (C := []) (fun z r e => by cases e))
      have EQ := Lib.hid D.eq
      clear p hp hS hX D
      go_wp2_with fail
      refine (lenq B l F wr q).mono ?_
      rintro e w1 ⟨rfl, rfl⟩
      go_wp2_with fail
      go_ret
      refine ⟨_, rfl, ?_, ?_, DN.out.only⟩
      · rw [EQ.out, FIN.out.1]; exact DN.out.row
      · rw [EQ.out, FIN.out.2]; exact DN.out.ts
    | cons y C =>
      have hl0 : 0 < l.length := by rw [p.length_eq]; simp
      obtain ⟨r, hr⟩ := heap_first hp p hS hl0
      have hy : itm l 0 = y := by injection hr with h1 h2; exact h1.symm
      have t1 : decide ((0 : Int) < (l.length : Int)) = true := by rw [decide_eq_true_iff]; omega
      have HY := Lib.hid hy
      have Q := Lib.hid q
      have P := Lib.hid p
      have HS := Lib.hid hS
      clear p hS hX hr r hy
      have lim : Hid (l.length ≤ 1099511627770 ∧ (ids A).length + 1 ≤ 1099511627770 ∧ (ids A).length < S.length) := Lib.hid (by
        have h1 := P.out.length_eq
        have h2 := congrArg List.length D.eq
        rw [List.length_append, List.length_cons] at h2
        rw [List.length_cons] at h1
        have h3 : (ids A).length = A.length := by simp [ids]
        omega)
      by_cases hd : isDue now y = true
      · have t2 : decide (y.2 ≤ now) = true := hd
        have HD := Lib.hid hd
        clear hd D
        go_wp2_with fail
        refine (lenq B l F wr Q.out).mono ?_
        rintro e w1 ⟨rfl, rfl⟩
        go_wp2_with fail
        refine (firstq B l F wr Q.out hl0).mono ?_
        rintro e w1 ⟨rfl, g1⟩
        rw [HY.out]
        go_wp2_with fail
        refine (reached_q now y w1).mono ?_
        rintro e w2 ⟨rfl, g2⟩
        rw [t2]
        have Q2 := Lib.hid ((Q.out.keep g1).keep g2)
        have R2 := Lib.hid ((DN.out.row.kept g1 (by cases u5.ownBlock <;> simp)).kept g2 (by cases u5.ownBlock <;> simp))
        go_wp2_with fail
        refine (firstq B l F w2 Q2.out hl0).mono ?_
        rintro e w3 ⟨rfl, g3⟩
        rw [HY.out]
        have Q3 := Lib.hid (Q2.out.keep g3)
        have g13 := only_step (only_step g1 g2 (fun _ h => by cases h)) g3 (fun _ h => by cases h)
        have R3 := Lib.hid ((R2.out.kept g3 (by cases u5.ownBlock <;> simp)).kept (World.grownBy_alloc w3 (.cells #[.int .i64 y.1] 3) none) (by cases u5.ownBlock <;> simp))
        have z3 : w.heap.size ≤ (w3.alloc (.cells #[.int .i64 y.1] 3)).heap.size := Nat.le_trans (Nat.le_trans hsize g13.size) (World.grownBy_alloc w3 _ none).size
        have O3 := Lib.hid (DN.out.only.trans (OnlyF.still (only_alloc g13 (.cells #[.int .i64 y.1] 3))))
        have S3 := Lib.hid (src_int w3 y.1 3)
        have LM := Lib.hid (show (ns (ids A)).length + (ns [y.1]).length ≤ 8796093022208 by rw [ns_len, ns_len]; have := lim.out; simp only [List.length_singleton]; omega)
        clear g1 g2 g3 g13
        go_wp2_with (at_builtin; refine app_ints rfl _ _ 22 rfl w.heap.size u5 (ns (ids A)) rfl R3.out _ (ns [y.1]) rfl S3.out LM.out z3 ?_; intro v4 w4 g4; rw [← ns_append] at g4; have G4 := Lib.hid g4; clear g4)
        have Q4 : QS w4 B l F := (Q3.out.keep (World.grownBy_alloc w3 (.cells #[.int .i64 y.1] 3) none)).apart (OnlyF.of (F := fun k => u5.ownBlock = some k) G4.out.only (fun _ e => e)) (fun k hk _ e => by have := FAR.out k e; have := HF.out k hk; omega)
        refine (heap_pop B l F w4 Q4 hp hl0 lim.out.1).mono ?_
        rintro e w5 ⟨⟨v5, rfl⟩, l', H, pl⟩
        go_wp2_with fail
        go_roundw
        case rel =>
          have fv : ∀ k, v4.ownBlock = some k → w.heap.size ≤ k := row_ge G4.out.own
          refine ⟨A ++ [y], C, ?_, ?_, ?_, ⟨l', H.q, H.hp, ?_, (List.pairwise_cons.1 HS.out).2⟩, ?_⟩
          · rw [DN.out.eq]; simp
          · intro z hz
            rcases List.mem_append.1 hz with hz | hz
            · exact DN.out.due z hz
            · simp at hz; subst hz; exact HD.out
          · have e5 : ns (ids (A ++ [y])) = ns (ids A ++ [y.1]) := by simp [ids]
            rw [e5]
            exact row_keep G4.out.own (fun k hk => H.only.block k (row_lt G4.out.own k hk) (fun hk2 => by have := HF.out k hk2; have := fv k hk; omega))
          · have p2 := pl.symm.trans P.out
            rw [HY.out] at p2
            exact List.Perm.cons_inv p2
          · exact (grown_row O3.out G4.out.only FAR.out).trans H.only
        case measure =>
          obtain ⟨X4, c4, rfl⟩ := row_slice G4.out.own
          have hu := HX.out
          subst hu
          have := lim.out
          simp only [lenOf, ns_len, List.length_append, List.length_singleton]
          omega
      · have t2 : decide (y.2 ≤ now) = false := by simpa [isDue] using hd
        have FIN := Lib.hid (tw_split (p := isDue now) D.due (C := y :: C) (fun z r e => by injection e with e1 e2; subst e1; simpa using hd))
        have EQ := Lib.hid D.eq
        clear hd D
        go_wp2_with fail
        refine (lenq B l F wr Q.out).mono ?_
        rintro e w1 ⟨rfl, rfl⟩
        go_wp2_with fail
        refine (firstq B l F wr Q.out hl0).mono ?_
        rintro e w1 ⟨rfl, g1⟩
        rw [HY.out]
        go_wp2_with fail
        refine (reached_q now y w1).mono ?_
        rintro e w2 ⟨rfl, g2⟩
        rw [t2]
        have R2 := Lib.hid ((DN.out.row.kept g1 (by cases u5.ownBlock <;> simp)).kept g2 (by cases u5.ownBlock <;> simp))
        have T2 := Lib.hid ((DN.out.ts.keep g1).keep g2)
        have O2 := Lib.hid ((DN.out.only.trans (OnlyF.still g1)).trans (OnlyF.still g2))
        clear g1 g2
        go_wp2_with fail
        go_ret
        refine ⟨_, rfl, ?_, ?_, O2.out⟩
        · rw [EQ.out, FIN.out.1]; exact R2.out
        · rw [EQ.out, FIN.out.2]; exact T2.out
theorem tdue (B : Nat) (now : Int) (S : List It) (F : Nat → Prop) (w : World) (h : TS w B S F) (hl : S.length ≤ 1099511627770) :
    Calls Try.prog 19 #[.pointer (some ⟨B, 0, none⟩), .int .i64 now] w fun e w' =>
      ∃ v, e = .returned v ∧ w'.ownsRow w.heap.size 3 1 v (ns (ids (S.takeWhile (isDue now)))).length (ns (ids (S.takeWhile (isDue now)))) ∧ TS w' B (S.dropWhile (isDue now)) (fun k => F k ∧ k < w.heap.size) ∧ OnlyF F w w' := by
  go_enter Try.func19, Try.ntmps19
  go_wp2_with fail
  refine (drain_q B now S _ w h.narrow (fun k hk => hk.2) hl).mono ?_
  rintro e w2 ⟨v, rfl, r, t, o⟩
  have R := Lib.hid r
  clear r
  go_wp2_with fail
  go_ret
  exact ⟨v, rfl, R.out, t, ⟨o.os, o.tape, o.output, o.size, fun k hk hF => o.block k hk (fun h => hF h.1)⟩⟩
end Go.Proofs.Ytgfpogmipennaaa
