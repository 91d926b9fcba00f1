/- The reference's put. No condition of the program's own. -/
import Derived.Test.YtlanldjpafkckaaVl
namespace Go.Proofs.Ytlanldjpafkckaa
open Go.RowKit Go.Deep

/-- append onto a row of entries of the call's own. -/
theorem app_e {w : World} {ops : Array Oper} {rest : List Oper} {o : Oper} {a : Act} {Q : Exit → Act → World → Prop} (hgd : o.guard = none) (s x : Operand) (tx : TypeId)
    (ho : o.op = .call { callee := .builtin .append, args := #[s, x], argTypes := #[26, tx] })
    (base : Nat) (v : Value) (n : Nat) (xs : List Value) (hs : a.eval s = v) (hown : w.ownsRow base 40 3 v n xs) (u : Value) (m : Nat) (news : List Value) (hu : a.eval x = u) (hsrc : Src Try.prog 3 tx u m news w)
    (hlen : n + m ≤ 2199023255552) (hbase : base ≤ w.heap.size)
    (h : ∀ v' w', GrewW w w' base 40 3 v v' (n + m) (xs ++ news) → wpList Try.prog ops Q rest (a.put o.dst v') w') : wpList Try.prog ops Q (o :: rest) a w := by
  obtain ⟨i, hi, hzz⟩ := Option.map_eq_some_iff.1 Try.info_entry
  simp only [Prod.mk.injEq] at hzz
  obtain ⟨hz, hsz, hb⟩ := hzz
  exact wpList_append_wide w hgd s x 26 tx ho base 40 i _ 24 3 Try.underlying26 hi hz hsz hb rfl v n xs hs hown u m news hu hsrc (by unfold maxLen; omega) (by omega) hbase h

/-- A slice of entries that reads l. -/
structure Vw (w : World) (lim : Nat) (A : Option Addr) (c : Nat) (l : List E3) : Prop where
  has : Has w lim A (dc l)
  cap : l.length ≤ c
  nil : A = none → c = 0
theorem Vw.keep {w w' : World} {lim : Nat} {A : Option Addr} {c : Nat} {l : List E3} (h : Vw w lim A c l) (hg : w.grownBy w' none) (hl : lim ≤ w.heap.size) : Vw w' lim A c l := ⟨h.has.kept hg hl, h.cap, h.nil⟩
theorem Vw.up {w w' : World} {A : Option Addr} {c : Nat} {l : List E3} (h : Vw w w.heap.size A c l) (hg : w.grownBy w' none) : Vw w' w'.heap.size A c l := ⟨h.has.up hg, h.cap, h.nil⟩
theorem Vw.more {w : World} {lim lim' : Nat} {A : Option Addr} {c : Nat} {l : List E3} (h : Vw w lim A c l) (hl : lim ≤ lim') : Vw w lim' A c l := ⟨h.has.more hl, h.cap, h.nil⟩
theorem Vw.own {w : World} {base n c : Nat} {A : Option Addr} {l : List E3} (h : w.ownsRow base 40 3 (.slice A n c) n (dc l)) : Vw w w.heap.size A c l ∧ n = l.length := by
  have hn : n = l.length := by have := h.1; rw [dc_len] at this; omega
  refine ⟨⟨Has.own_w h, ?_, ?_⟩, hn⟩
  · rcases h.2 with ⟨hv, h0⟩ | ⟨g, cap, cur, hv, _, _, h1, _⟩
    · omega
    · injection hv with _ _ e; omega
  · rintro rfl
    rcases h.2 with ⟨hv, h0⟩ | ⟨g, cap, cur, hv, _, _, h1, _⟩
    · injection hv
    · injection hv with e; cases e
theorem dc_take (l : List E3) (k : Nat) : dc (l.take k) = (dc l).take (k * 3) := by
  have h := congrArg dc (List.take_append_drop k l)
  rw [dc_append] at h
  by_cases hk : k ≤ l.length
  · rw [← h, List.take_left' (by rw [dc_len, List.length_take]; omega)]
  · rw [List.take_of_length_le (by omega), List.take_of_length_le (by rw [dc_len]; omega)]
theorem dc_drop (l : List E3) (k : Nat) : dc (l.drop k) = (dc l).drop (k * 3) := by
  have h := congrArg dc (List.take_append_drop k l)
  rw [dc_append] at h
  by_cases hk : k ≤ l.length
  · rw [← h, List.drop_left' (by rw [dc_len, List.length_take]; omega)]
  · rw [List.drop_eq_nil_of_le (by omega), List.drop_eq_nil_of_le (by rw [dc_len]; omega)]; rfl
theorem Has.front {w : World} {lim : Nat} {A : Option Addr} {xs : List Value} (h : Has w lim A xs) (k : Nat) : Has w lim A (xs.take k) := by
  rcases h with rfl | ⟨b, off, hA, hb, hc⟩
  · exact .inl (by simp)
  · refine .inr ⟨b, off, hA, hb, fun j u hu => hc j u ?_⟩
    rw [List.getElem?_take] at hu
    split at hu
    · exact hu
    · cases hu
theorem Vw.src {w : World} {lim : Nat} {A : Option Addr} {c : Nat} {l : List E3} (h : Vw w lim A c l) (k c' : Nat) (hk : k ≤ l.length) : Src Try.prog 3 26 (.slice A k c') k (dc (l.take k)) w := by
  have hl : (dc (l.take k)).length = k * 3 := by rw [dc_len, List.length_take]; omega
  rcases h.has.front (k * 3) with h0 | ⟨b, off, rfl, _, hc⟩
  · rw [← dc_take] at h0
    rw [h0] at hl ⊢
    have : k = 0 := by simp at hl; omega
    subst this
    cases A with
    | none => exact Src.ofNil w Try.underlying26 c'
    | some a => exact Src.ofSlice w Try.underlying26 a 0 c' [] (by simp) (fun j u hu => by simp at hu) (fun _ h => by cases h)
  · rw [← dc_take] at hc
    exact Src.ofSlice w Try.underlying26 _ k c' _ hl (fun j u hu => by rw [Addr.add_lit]; exact hc j u hu) (dc_one _)

theorem slice_lo {w : World} {lim : Nat} {A : Option Addr} {c : Nat} {l : List E3} (h : Vw w lim A c l) (k : Nat) (hk : k ≤ l.length) :
    ∃ A', (∀ W, (Instr.sliceAt 26 (.slice A l.length c) (some (.int .i64 (k : Int))) none none).run Try.prog W = .ok (.slice A' (l.length - k) (c - k)) W) ∧ Vw w lim A' (c - k) (l.drop k) := by
  have hu : Try.prog.underlying 26 = some (.slice (Try.prog.elem 26)) := Try.underlying26
  have hcap := h.cap
  refine ⟨if c = k then A else A.map (·.add (k * 3)), fun W => ?_, ?_, ?_, ?_⟩
  · rw [run_sliceAt_slice (h := hu), run_slice_l (ht := hu) (h0 := by omega) (h1 := by omega)]
    rw [show Try.prog.elem 26 = 40 by rfl, Try.sizeOf40]
    simp [Result.andThen, sliced]
  · rw [dc_drop]
    by_cases hck : c = k
    · rw [List.drop_eq_nil_of_le (by rw [dc_len]; omega)]; exact Has.nil
    · rw [if_neg hck]
      rcases h.has with h0 | ⟨b, off, rfl, hb, hc⟩
      · rw [h0]; exact .inl (by simp)
      · refine .inr ⟨b, off + k * 3, by simp [Addr.add_lit], hb, fun j u hu => ?_⟩
        rw [List.getElem?_drop] at hu
        rw [Nat.add_assoc]; exact hc _ u hu
  · rw [List.length_drop]; omega
  · intro hn
    by_cases hck : c = k
    · omega
    · rw [if_neg hck] at hn
      cases A with
      | none => have := h.nil rfl; omega
      | some a => cases hn
theorem slice_hi {w : World} {lim : Nat} {A : Option Addr} {c : Nat} {l : List E3} (h : Vw w lim A c l) (k : Nat) (hk : k ≤ l.length) :
    ∀ W, (Instr.sliceAt 26 (.slice A l.length c) none (some (.int .i64 (k : Int))) none).run Try.prog W = .ok (.slice A k c) W := fun W => by
  have hu : Try.prog.underlying 26 = some (.slice (Try.prog.elem 26)) := Try.underlying26
  have hcap := h.cap
  rw [run_sliceAt_slice (h := hu), run_slice_h (ht := hu) (h0 := by omega) (h2 := by omega)]
  rw [show Try.prog.elem 26 = 40 by rfl, Try.sizeOf40]
  cases A with
  | none => simp [Result.andThen, sliced]
  | some a =>
    have : a.add 0 = a := by cases a; rfl
    simp [Result.andThen, sliced, this]
theorem Src.all {w : World} {lim : Nat} {A : Option Addr} {c : Nat} {l : List E3} (h : Vw w lim A c l) (n : Nat) (hn : n = l.length) : Src Try.prog 3 26 (.slice A n c) n (dc l) w := by
  subst hn
  have := h.src l.length c (Nat.le_refl _)
  rw [List.take_length] at this
  exact this

theorem src_one (w : World) (x : E3) : Src Try.prog 3 26 (.slice (some ⟨w.heap.size, 0, none⟩) 1 1) 1 (dc [x]) (w.alloc (.cells #[.int .i64 x.1, .int .i64 x.2.1, .int .i64 x.2.2] 40)) :=
  Src.ofSlice _ Try.underlying26 _ 1 1 _ rfl (fun j u hu => by
    rw [Addr.add_lit, Nat.zero_add]; exact cell_new _ _ _ j u (by rw [← hu, ← Array.getElem?_toList]; rfl)) (dc_one _)
/-- What has been appended to a row in a fresh block: the rest stays. -/
structure Tl (w0 : World) (base : Nat) (v : Value) (n : Nat) (l : List E3) (w : World) : Prop where
  own : w.ownsRow base 40 3 v n (dc l)
  only : w0.grownBy w none
  far : ∀ k, v.ownBlock = some k → w0.heap.size ≤ k
theorem Tl.of {w0 w1 w2 : World} {base n m : Nat} {v v2 : Value} {l l2 : List E3} (h : Tl w0 base v n l w1) (g : GrewW w1 w2 base 40 3 v v2 m (dc l2)) : Tl w0 base v2 m l2 w2 := by
  refine ⟨g.own, only_step h.only g.only (fun k hk => .inr (h.far k hk)), fun k hk => ?_⟩
  rcases g.at_ with e | ⟨b, e, hb⟩
  · exact h.far k (e ▸ hk)
  · rw [e] at hk; cases hk; exact Nat.le_trans h.only.size hb
theorem Tl.keep {w0 w1 w2 : World} {base n : Nat} {v : Value} {l : List E3} (h : Tl w0 base v n l w1) (g : w1.grownBy w2 none) : Tl w0 base v n l w2 :=
  ⟨h.own.kept g (by cases v.ownBlock <;> simp), only_step h.only g (fun _ h => by cases h), h.far⟩
theorem put_end {w w0 w9 : World} {l L : List E3} {x : E3} (v : Value) (n : Nat) (hk : Hid (vput l x = L)) {e : Ending} (he : e = .returned v) (h : Tl w0 w.heap.size v n L w9) (g0 : w.grownBy w0 none) :
    ∃ v, e = .returned v ∧ w9.ownsRow w.heap.size 40 3 v (vput l x).length (dc (vput l x)) ∧ w.grownBy w9 none := by
  have hn : n = L.length := by have := h.own.1; rw [dc_len] at this; omega
  refine ⟨v, he, ?_, only_step g0 h.only (fun _ h => by cases h)⟩
  rw [hk.out, ← hn]; exact h.own
set_option maxRecDepth 100000 in
set_option maxHeartbeats 2000000 in
theorem put_any (A : Option Addr) (c : Nat) (l : List E3) (x : E3) (w : World) (h : Vw w w.heap.size A c l) (hl : l.length ≤ 1099511627776) :
    Calls Try.prog 25 #[.slice A l.length c, .agg #[.int .i64 x.1, .int .i64 x.2.1, .int .i64 x.2.2]] w fun e w' =>
      ∃ v, e = .returned v ∧ w'.ownsRow w.heap.size 40 3 v (vput l x).length (dc (vput l x)) ∧ w.grownBy w' none := by
  have HA := Lib.hid h
  clear h
  go_enter Try.func25, Try.ntmps25
  go_wp2_with fail
  have b0 := box3_new w x 40
  have g0 := World.grownBy_alloc w (.cells #[.int .i64 x.1, .int .i64 x.2.1, .int .i64 x.2.2] 40) none
  have z0 : w.heap.size < (w.alloc (.cells #[.int .i64 x.1, .int .i64 x.2.1, .int .i64 x.2.2] 40)).heap.size := by show _ < (w.heap.push _).size; rw [Array.size_push]; omega
  obtain ⟨w0, hw0⟩ : ∃ w0, w0 = w.alloc (.cells #[.int .i64 x.1, .int .i64 x.2.1, .int .i64 x.2.2] 40) := ⟨_, rfl⟩
  rw [← hw0] at b0 g0 z0 ⊢
  have B0 := Lib.hid b0
  have G0 := Lib.hid g0
  clear hw0 b0 g0
  go_loopw [5] (fun si wr => ∃ i : Nat, i ≤ l.length ∧ si = .int .i64 i ∧ Hid (∀ k y, l[k]? = some y → k < i → klt y x) ∧ Hid (w0.grownBy wr none)) (fun si _ => l.length - (intOf si).toNat)
  case atStart => exact ⟨0, Nat.zero_le _, rfl, fun k y _ h => absurd h (by omega), only_refl _ _⟩
  case round =>
    obtain ⟨i, hi, rfl, H1, hG⟩ := hrel
    have c0 := HA.out.cap
    have sh := slice_hi HA.out i hi
    obtain ⟨A1, sl, hA1⟩ := slice_lo HA.out i hi
    by_cases hlt : i < l.length
    · have u1 : (i : Int) < (l.length : Int) := by omega
      have u0 : (0 : Int) ≤ (i : Int) := by omega
      have hes : IntKind.i64.wrap ((i : Int) + 1) = (i : Int) + 1 := by rw [IntKind.wrap_i64]; omega
      obtain ⟨A2, sl2, hA2⟩ := slice_lo HA.out (i + 1) hlt
      rw [show ((i + 1 : Nat) : Int) = (i : Int) + 1 by omega] at sl2
      obtain ⟨y, hy⟩ : ∃ y, l[i]? = some y := ⟨_, List.getElem?_eq_getElem hlt⟩
      obtain ⟨b, off, e0, hb, y1, y2, y3⟩ := HA.out.has.dot hy
      subst e0
      have HY := Lib.hid hy
      have SV : ∀ V, w0.grownBy V none → Hid (V.cell? ⟨b, off + i * 3, none⟩ = some (.int .i64 y.1) ∧ V.cell? ⟨b, off + i * 3 + 1, none⟩ = some (.int .i64 y.2.1) ∧ V.cell? ⟨b, off + i * 3 + 2, none⟩ = some (.int .i64 y.2.2) ∧ V.cell? ⟨w.heap.size, 0, none⟩ = some (.int .i64 x.1) ∧ V.cell? ⟨w.heap.size, 1, none⟩ = some (.int .i64 x.2.1) ∧ V.cell? ⟨w.heap.size, 2, none⟩ = some (.int .i64 x.2.2) ∧ w0.grownBy V none) := fun V hV => by
        have o : ∀ j, V.cell? ⟨b, j, none⟩ = w.cell? ⟨b, j, none⟩ := fun j => World.cell?_of_block ((only_step G0.out hV (fun _ h => by cases h)).block b hb (by simp))
        have q := B0.out.kept hV z0
        exact ⟨(o _).trans y1, (o _).trans y2, (o _).trans y3, q.1, q.2.1, q.2.2, hV⟩
      have d0 := only_drew hG.out
      clear hy y1 y2 y3
      have LY := Lib.hid (less_any y x)
      by_cases hk : klt y x
      · rw [decide_eq_true hk] at LY
        clear sh sl sl2
        go_wp2_with fail
        go_region_held3 (fun V => V.cell? ⟨b, off + i * 3, none⟩ = some (.int .i64 y.1) ∧ V.cell? ⟨b, off + i * 3 + 1, none⟩ = some (.int .i64 y.2.1) ∧ V.cell? ⟨b, off + i * 3 + 2, none⟩ = some (.int .i64 y.2.2) ∧ V.cell? ⟨w.heap.size, 0, none⟩ = some (.int .i64 x.1) ∧ V.cell? ⟨w.heap.size, 1, none⟩ = some (.int .i64 x.2.1) ∧ V.cell? ⟨w.heap.size, 2, none⟩ = some (.int .i64 x.2.2) ∧ w0.grownBy V none)
          (first | exact (SV _ d0).out | exact (SV _ (only_step d0 (by assumption) (fun _ h => by cases h))).out) ((go_at_call 32; refine (LY.out _).mono ?_; rintro e wa ⟨rfl, ga⟩))
        go_wp2_with fail
        refine ⟨⟨i + 1, by omega, by go_num, ?_, only_step d0 ga (fun _ h => by cases h)⟩, ?_⟩
        · intro k z hz hk2
          by_cases h3 : k = i
          · subst h3; rw [HY.out] at hz; cases hz; exact hk
          · exact H1.out k z hz (by omega)
        · simp [intOf]; omega
      · rw [decide_eq_false hk] at LY
        have HP : Hid (i = vpos l x) := Lib.hid (vpos_of l x i hi H1.out (fun z hz => by rw [HY.out] at hz; cases hz; exact hk))
        clear hk
        go_wp2_with fail
        go_region_held3 (fun V => V.cell? ⟨b, off + i * 3, none⟩ = some (.int .i64 y.1) ∧ V.cell? ⟨b, off + i * 3 + 1, none⟩ = some (.int .i64 y.2.1) ∧ V.cell? ⟨b, off + i * 3 + 2, none⟩ = some (.int .i64 y.2.2) ∧ V.cell? ⟨w.heap.size, 0, none⟩ = some (.int .i64 x.1) ∧ V.cell? ⟨w.heap.size, 1, none⟩ = some (.int .i64 x.2.1) ∧ V.cell? ⟨w.heap.size, 2, none⟩ = some (.int .i64 x.2.2) ∧ w0.grownBy V none)
          (first | exact (SV _ d0).out | exact (SV _ (only_step d0 (by assumption) (fun _ h => by cases h))).out) ((go_at_call 32; refine (LY.out _).mono ?_; rintro e wb ⟨rfl, gb⟩))
        obtain ⟨wa, hwa⟩ : ∃ wa, wa = wb := ⟨_, rfl⟩
        rw [← hwa]
        have ga0 : Hid (w0.grownBy wa none) := by rw [hwa]; exact only_step d0 gb (fun _ h => by cases h)
        clear hwa
        have OE : Hid ((wa.alloc (.cells #[] 40)).ownsRow w.heap.size 40 3 (.slice (some ⟨wa.heap.size, 0, none⟩) 0 0) 0 []) := World.ownsRow_made wa #[] 0 (Nat.le_trans (Nat.le_of_lt z0) ga0.out.size) (by unfold maxLen; omega) rfl
        have SF : Hid (Src Try.prog 3 26 (.slice (some ⟨b, off, none⟩) i c) i (dc (l.take i)) (wa.alloc (.cells #[] 40))) := ((HA.out.up (only_step G0.out ga0.out (fun _ h => by cases h))).up (World.grownBy_alloc wa _ none)).src i c hi
        have hbw : Hid (w.heap.size ≤ (wa.alloc (.cells #[] 40)).heap.size) := Nat.le_trans (Nat.le_of_lt z0) (Nat.le_trans ga0.out.size (World.grownBy_alloc wa _ none).size)
        have ga1 : Hid (w0.grownBy (wa.alloc (.cells #[] 40)) none) := only_alloc ga0.out _
        go_wp2_with (first
          | (at_builtin; (refine app_e rfl _ _ 26 rfl w.heap.size (.slice (some ⟨wa.heap.size, 0, none⟩) 0 0) 0 [] rfl OE.out (.slice (some ⟨b, off, none⟩) i c) i (dc (l.take i)) rfl SF.out (by omega) hbw.out ?_); intro v2 w2 g2; rw [List.nil_append, Nat.zero_add] at g2; have g3 := Lib.hid ((Tl.mk OE.out ga1.out (fun k hk => by cases hk; exact ga0.out.size) : Tl w0 w.heap.size (.slice (some ⟨wa.heap.size, 0, none⟩) 0 0) 0 [] (wa.alloc (.cells #[] 40))).of g2); clear g2; have b2 := B0.out.kept g3.out.only z0; obtain ⟨q1, q2, q3⟩ := b2; have g4 := Lib.hid (g3.out.keep (World.grownBy_alloc w2 (.cells #[.int .i64 x.1, .int .i64 x.2.1, .int .i64 x.2.2] 40) none)); have s4 := Lib.hid (src_one w2 x); obtain ⟨A3, c3, rfl⟩ := own_slice_w g3.out.own)
          | (at_builtin; (refine app_e rfl _ _ 26 rfl w.heap.size _ i (dc (l.take i)) rfl g4.out.own _ 1 (dc [x]) rfl s4.out (by omega) (Nat.le_trans (Nat.le_of_lt z0) g4.out.only.size) ?_); intro v5 w5 g5; rw [← dc_append] at g5; have g6 := Lib.hid (g4.out.of g5); clear g5; have b6 := B0.out.kept g6.out.only z0; obtain ⟨r1, r2, r3⟩ := b6))
        have SW : ∀ V, w5.grownBy V none → Hid (V.cell? ⟨b, off + i * 3, none⟩ = some (.int .i64 y.1) ∧ V.cell? ⟨b, off + i * 3 + 1, none⟩ = some (.int .i64 y.2.1) ∧ V.cell? ⟨b, off + i * 3 + 2, none⟩ = some (.int .i64 y.2.2) ∧ V.cell? ⟨w.heap.size, 0, none⟩ = some (.int .i64 x.1) ∧ V.cell? ⟨w.heap.size, 1, none⟩ = some (.int .i64 x.2.1) ∧ V.cell? ⟨w.heap.size, 2, none⟩ = some (.int .i64 x.2.2) ∧ w5.grownBy V none) := fun V hV => by
          have q := (SV V (only_step g6.out.only hV (fun _ h => by cases h))).out
          exact ⟨q.1, q.2.1, q.2.2.1, q.2.2.2.1, q.2.2.2.2.1, q.2.2.2.2.2.1, hV⟩
        have e0 := only_drew (only_refl w5 none)
        have LX := Lib.hid (less_any x y)
        clear SV r1 r2 r3 q1 q2 q3
        by_cases hx : klt x y
        · rw [decide_eq_true hx] at LX
          have HK : Hid (vput l x = l.take i ++ [x] ++ l.drop i) := Lib.hid (by rw [vput_eq, ← HP.out, HY.out]; simp [hx])
          clear sl2 hx
          go_region_held3 (fun V => V.cell? ⟨b, off + i * 3, none⟩ = some (.int .i64 y.1) ∧ V.cell? ⟨b, off + i * 3 + 1, none⟩ = some (.int .i64 y.2.1) ∧ V.cell? ⟨b, off + i * 3 + 2, none⟩ = some (.int .i64 y.2.2) ∧ V.cell? ⟨w.heap.size, 0, none⟩ = some (.int .i64 x.1) ∧ V.cell? ⟨w.heap.size, 1, none⟩ = some (.int .i64 x.2.1) ∧ V.cell? ⟨w.heap.size, 2, none⟩ = some (.int .i64 x.2.2) ∧ w5.grownBy V none)
            (first | exact (SW _ e0).out | exact (SW _ (only_step e0 (by assumption) (fun _ h => by cases h))).out) ((go_at_call 32; refine (LX.out _).mono ?_; rintro e wc ⟨rfl, gc⟩))
          have g7 := Lib.hid (g6.out.keep (only_step e0 gc (fun _ h => by cases h)))
          have s7 : Hid (Src Try.prog 3 26 (.slice A1 (l.length - i) (c - i)) (l.length - i) (dc (l.drop i)) wc) := Src.all ((hA1).keep (only_step G0.out g7.out.only (fun _ h => by cases h)) (Nat.le_refl _)) _ (by rw [List.length_drop])
          go_wp2_with (at_builtin; go_loud (refine app_e rfl _ _ 26 rfl w.heap.size _ (i + 1) _ rfl g7.out.own _ (l.length - i) _ rfl s7.out (by omega) (Nat.le_trans (Nat.le_of_lt z0) g7.out.only.size) ?_); intro v8 w8 g8; rw [← dc_append] at g8; have g9 := Lib.hid (g7.out.of g8); clear g8)
          go_ret
          exact put_end _ _ HK rfl g9.out G0.out
        · rw [decide_eq_false hx] at LX
          have HK : Hid (vput l x = l.take i ++ [x] ++ l.drop (i + 1)) := Lib.hid (by rw [vput_eq, ← HP.out, HY.out]; simp [hx])
          clear sl hx
          go_region_held3 (fun V => V.cell? ⟨b, off + i * 3, none⟩ = some (.int .i64 y.1) ∧ V.cell? ⟨b, off + i * 3 + 1, none⟩ = some (.int .i64 y.2.1) ∧ V.cell? ⟨b, off + i * 3 + 2, none⟩ = some (.int .i64 y.2.2) ∧ V.cell? ⟨w.heap.size, 0, none⟩ = some (.int .i64 x.1) ∧ V.cell? ⟨w.heap.size, 1, none⟩ = some (.int .i64 x.2.1) ∧ V.cell? ⟨w.heap.size, 2, none⟩ = some (.int .i64 x.2.2) ∧ w5.grownBy V none)
            (first | exact (SW _ e0).out | exact (SW _ (only_step e0 (by assumption) (fun _ h => by cases h))).out) ((go_at_call 32; refine (LX.out _).mono ?_; rintro e wc ⟨rfl, gc⟩))
          have g7 := Lib.hid (g6.out.keep (only_step e0 gc (fun _ h => by cases h)))
          have s7 : Hid (Src Try.prog 3 26 (.slice A2 (l.length - (i + 1)) (c - (i + 1))) (l.length - (i + 1)) (dc (l.drop (i + 1))) wc) := Src.all ((hA2).keep (only_step G0.out g7.out.only (fun _ h => by cases h)) (Nat.le_refl _)) _ (by rw [List.length_drop])
          go_wp2_with (at_builtin; go_loud (refine app_e rfl _ _ 26 rfl w.heap.size _ (i + 1) _ rfl g7.out.own _ (l.length - (i + 1)) _ rfl s7.out (by omega) (Nat.le_trans (Nat.le_of_lt z0) g7.out.only.size) ?_); intro v8 w8 g8; rw [← dc_append] at g8; have g9 := Lib.hid (g7.out.of g8); clear g8)
          go_ret
          exact put_end _ _ HK rfl g9.out G0.out
    · have u1 : ¬ (i : Int) < (l.length : Int) := by omega
      have HP : Hid (i = vpos l x) := Lib.hid (vpos_of l x i hi H1.out (fun z hz => by have := (List.getElem?_eq_some_iff.1 hz).1; omega))
      have HK : Hid (vput l x = l.take i ++ [x] ++ l.drop i) := Lib.hid (by rw [vput_eq, ← HP.out, List.getElem?_eq_none (show l.length ≤ i by omega)]; simp)
      go_wp2_with fail
      go_quiet (fail)
      obtain ⟨wb, hwb⟩ : ∃ wb, wb = wr.drewN nq := ⟨_, rfl⟩
      rw [← hwb]
      have db := only_drewN hG.out nq
      rw [← hwb] at db
      clear hwb
      obtain ⟨wa, hwa⟩ : ∃ wa, wa = wb := ⟨_, rfl⟩
      rw [← hwa]
      have ga0 : Hid (w0.grownBy wa none) := by rw [hwa]; exact db
      clear hwa
      have OE : Hid ((wa.alloc (.cells #[] 40)).ownsRow w.heap.size 40 3 (.slice (some ⟨wa.heap.size, 0, none⟩) 0 0) 0 []) := World.ownsRow_made wa #[] 0 (Nat.le_trans (Nat.le_of_lt z0) ga0.out.size) (by unfold maxLen; omega) rfl
      have SF : Hid (Src Try.prog 3 26 (.slice A i c) i (dc (l.take i)) (wa.alloc (.cells #[] 40))) := ((HA.out.up (only_step G0.out ga0.out (fun _ h => by cases h))).up (World.grownBy_alloc wa _ none)).src i c hi
      have hbw : Hid (w.heap.size ≤ (wa.alloc (.cells #[] 40)).heap.size) := Nat.le_trans (Nat.le_of_lt z0) (Nat.le_trans ga0.out.size (World.grownBy_alloc wa _ none).size)
      have ga1 : Hid (w0.grownBy (wa.alloc (.cells #[] 40)) none) := only_alloc ga0.out _
      go_wp2_with (first
        | (at_builtin; (refine app_e rfl _ _ 26 rfl w.heap.size (.slice (some ⟨wa.heap.size, 0, none⟩) 0 0) 0 [] rfl OE.out (.slice A i c) i (dc (l.take i)) rfl SF.out (by omega) hbw.out ?_); intro v2 w2 g2; rw [List.nil_append, Nat.zero_add] at g2; have g3 := Lib.hid ((Tl.mk OE.out ga1.out (fun k hk => by cases hk; exact ga0.out.size) : Tl w0 w.heap.size (.slice (some ⟨wa.heap.size, 0, none⟩) 0 0) 0 [] (wa.alloc (.cells #[] 40))).of g2); clear g2; have b2 := B0.out.kept g3.out.only z0; obtain ⟨q1, q2, q3⟩ := b2; have g4 := Lib.hid (g3.out.keep (World.grownBy_alloc w2 (.cells #[.int .i64 x.1, .int .i64 x.2.1, .int .i64 x.2.2] 40) none)); have s4 := Lib.hid (src_one w2 x); obtain ⟨A3, c3, rfl⟩ := own_slice_w g3.out.own)
        | (at_builtin; (refine app_e rfl _ _ 26 rfl w.heap.size _ i (dc (l.take i)) rfl g4.out.own _ 1 (dc [x]) rfl s4.out (by omega) (Nat.le_trans (Nat.le_of_lt z0) g4.out.only.size) ?_); intro v5 w5 g5; rw [← dc_append] at g5; have g6 := Lib.hid (g4.out.of g5); clear g5; have b6 := B0.out.kept g6.out.only z0; obtain ⟨r1, r2, r3⟩ := b6))
      have k1 : ∀ k, (w5.drewN k).cell? ⟨w.heap.size, 0, none⟩ = some (.int .i64 x.1) := fun _ => r1
      go_quiet (fail)
      have g7 := Lib.hid (g6.out.keep (only_drewN (only_refl w5 none) nq))
      have s7 : Hid (Src Try.prog 3 26 (.slice A1 (l.length - i) (c - i)) (l.length - i) (dc (l.drop i)) (w5.drewN nq)) := Src.all ((hA1).keep (only_step G0.out g7.out.only (fun _ h => by cases h)) (Nat.le_refl _)) _ (by rw [List.length_drop])
      go_wp2_with (at_builtin; go_loud (refine app_e rfl _ _ 26 rfl w.heap.size _ (i + 1) _ rfl g7.out.own _ (l.length - i) _ rfl s7.out (by omega) (Nat.le_trans (Nat.le_of_lt z0) g7.out.only.size) ?_); intro v8 w8 g8; rw [← dc_append] at g8; have g9 := Lib.hid (g7.out.of g8); clear g8)
      go_ret
      exact put_end _ _ HK rfl g9.out G0.out
end Go.Proofs.Ytlanldjpafkckaa
