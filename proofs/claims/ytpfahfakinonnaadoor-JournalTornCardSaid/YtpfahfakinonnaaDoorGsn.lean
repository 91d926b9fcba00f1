/- Contract of frames.Scan: the records of the frames at the beginning. Asked of the world: the table's cells. -/
import Derived.Test.YtpfahfakinonnaaDoorGsp
import Derived.Test.YtpfahfakinonnaaDoorGfo
namespace Go.Proofs.YtpfahfakinonnaaDoor
open Go.RowKit Go.ChangeShapes

theorem Tryd.info_rows : (Tryd.prog.info? 33).map (fun i => (i.zero, i.size, i.bytes)) = some (some (.slice none 0 0), 1, 24) := by kernel_rfl
/-- append onto a [][]byte of the call's own. -/
theorem app_rows {w : World} {ops : Array Oper} {rest : List Oper} {o : Oper} {a : Act} {Q : Exit → Act → World → Prop} (hgd : o.guard = none) (s x : Operand) (tx : TypeId)
    (ho : o.op = .call { callee := .builtin .append, args := #[s, x], argTypes := #[34, tx] })
    (base : Nat) (v : Value) (xs : List Value) (hs : a.eval s = v) (hown : w.ownsRow base 33 1 v xs.length xs) (u : Value) (news : List Value) (hu : a.eval x = u) (hsrc : Src Tryd.prog 1 tx u news.length news w)
    (hlen : xs.length + news.length ≤ 1099511627776) (hbase : base ≤ w.heap.size)
    (h : ∀ v' w', Grew w w' base 33 v v' (xs ++ news) → wpList Tryd.prog ops Q rest (a.put o.dst v') w') : wpList Tryd.prog ops Q (o :: rest) a w := by
  obtain ⟨i0, hi, hzz⟩ := Option.map_eq_some_iff.1 Tryd.info_rows
  simp only [Prod.mk.injEq] at hzz
  obtain ⟨hz, hsz, hb⟩ := hzz
  exact wpList_append_row w hgd s x 34 tx ho base 33 i0 _ 24 Tryd.underlying34 hi hz hsz hb rfl v xs hs hown u news hu hsrc (by simp only [maxLen]; omega) (by omega) hbase h
theorem src_row (w : World) (A : Option Addr) (n c : Nat) : Src Tryd.prog 1 34 (.slice (some ⟨w.heap.size, 0, none⟩) 1 1) ([Value.slice A n c]).length [Value.slice A n c] (w.alloc (.cells #[.slice A n c] 33)) :=
  src_one 34 33 Tryd.underlying34 _ 33 rfl

set_option maxRecDepth 100000 in
set_option maxHeartbeats 2000000 in
theorem scan_core (b off : Nat) (c : Nat) (l : List Int) (w : World) (h : Has w w.heap.size (some ⟨b, off, none⟩) (bs l)) (hb : ∀ x ∈ l, 0 ≤ x ∧ x ≤ 255) (hl : l.length ≤ 4294967296) (hc : l.length ≤ c) (hT : Tab w) :
    Calls Tryd.prog 34 #[.slice (some ⟨b, off, none⟩) l.length c] w fun e w' => ∃ v, e = .returned (.tuple #[v, .int .i64 (scanP l).2]) ∧ RL w' w.heap.size v (scanP l).1 ∧ w.grownBy w' none := by
  have HA := Lib.hid h
  have HB := Lib.hid hb
  have HT := Lib.hid hT
  clear h hb hT
  obtain ⟨T, hTt⟩ : ∃ T, T = scanP l := ⟨_, rfl⟩
  have HTT := Lib.hid hTt
  rw [← hTt]
  clear hTt
  go_enter Tryd.func34, Tryd.ntmps34
  go_wp2_with fail
  go_loopw [2, 3] (fun s2 s3 wr => ∃ (n : Nat) (L : List (List Int)) (A' : Option Addr) (c' : Nat), n ≤ l.length ∧ s3 = .int .i64 n ∧ s2 = .slice A' L.length c' ∧ L.length ≤ n ∧ Hid (RL wr w.heap.size (.slice A' L.length c') L) ∧
    Hid (T.1 = L ++ (scanP (l.drop n)).1 ∧ T.2 = n + (scanP (l.drop n)).2) ∧ Hid (w.grownBy wr none)) (fun _ s3 _ => l.length - (intOf s3).toNat)
  case atStart => exact ⟨0, [], none, 0, Nat.zero_le _, rfl, rfl, Nat.le_refl _, RL.nil _ _, ⟨by rw [HTT.out]; rfl, by rw [HTT.out]; simp⟩, only_refl _ _⟩
  case round =>
    obtain ⟨n, L, A', c', hn, rfl, rfl, hLn, HR, HS, hG⟩ := hrel
    have n0 : (0 : Int) ≤ (n : Int) := by omega
    have n1 : (n : Int) ≤ (l.length : Int) := by omega
    have DL : (l.drop n).length = l.length - n := List.length_drop
    have DB : Hid (∀ x ∈ l.drop n, 0 ≤ x ∧ x ≤ 255) := fun x hx => HB.out x (List.mem_of_mem_drop hx)
    have HD : ∀ (A2 : Option Addr), (A2 = some ⟨b, off + n, none⟩ ∨ l.drop n = []) → Hid (Calls Tryd.prog 52 #[.slice A2 (l.length - n) (c - n)] wr fun e w' => ∃ v, e = .returned (.tuple #[v, .int .i64 (firstE (l.drop n))]) ∧ FirstV wr (l.drop n) v ∧ wr.grownBy w' none) := fun A2 hA2 => by
      have hh : Has wr wr.heap.size A2 (bs (l.drop n)) := by
        rcases hA2 with rfl | h0
        · have h := HA.out.drop' (n := n) hn
          simp only [Option.map_some, Addr.add_lit] at h
          exact (h.only hG.out (Nat.le_refl _) (fun _ h => by cases h)).more hG.out.size
        · exact .inl (by rw [h0]; rfl)
      have := first_any A2 (c - n) (l.drop n) wr hh DB.out (by omega) (by omega) (HT.out.grow hG.out)
      rw [DL] at this
      exact this
    have DL' := Lib.hid DL
    clear DL
    by_cases h0 : firstE (l.drop n) = 0
    · have hlong := firstE_long (l := l.drop n) (by rw [h0]; decide) (by rw [h0]; decide)
      rw [DL'.out] at hlong
      have SP := scanP_ok h0
      have RLn := recP_len (l.drop n) (by rw [DL'.out]; omega)
      obtain ⟨X, hX⟩ : ∃ X, X = recP (l.drop n) := ⟨_, rfl⟩
      rw [← hX] at SP RLn
      have HX := Lib.hid hX
      clear hX
      obtain ⟨m, hm⟩ : ∃ m, m = rd4 (l.drop n) := ⟨_, rfl⟩
      rw [← hm] at SP hlong RLn
      have HM := Lib.hid hm
      have HD1 := HD (some ⟨b, off + n, none⟩) (.inl rfl)
      rw [h0] at HD1
      have H0 := Lib.hid h0
      have HSP := Lib.hid SP
      have HRL := Lib.hid RLn
      have hcn : ¬ c = n := by omega
      have w1 : IntKind.i64.wrap (8 + (m : Int)) = 8 + (m : Int) := by rw [IntKind.wrap_i64]; omega
      have w2 : IntKind.i64.wrap ((n : Int) + (8 + (m : Int))) = (n : Int) + (8 + (m : Int)) := by rw [IntKind.wrap_i64]; omega
      clear HD h0 SP RLn hm
      go_wp2_with fail
      refine HD1.out.mono ?_
      rintro _ w3 ⟨v, rfl, hv, g3⟩
      unfold FirstV at hv
      rw [if_pos H0.out, ← HM.out, ← HX.out] at hv
      obtain ⟨A2, c2, rfl, hc2, hh⟩ := hv
      have G3 : Hid (w.grownBy w3 none) := only_step hG.out g3 (fun _ h => by cases h)
      have s3 : Hid (Src Tryd.prog 1 33 (.slice A2 m c2) (bs X).length (bs X) w3) := by
        have h := ((hh.only g3 (Nat.le_refl _) (fun _ h => by cases h)).more g3.size).src (P := Tryd.prog) (tx := 33) Tryd.underlying33 c2 (bs_one _)
        rw [bs_len, HRL.out] at h
        rw [bs_len, HRL.out]
        exact h
      have hlen : ([] : List Value).length + (bs X).length ≤ 70368744177664 := by rw [bs_len, HRL.out]; show 0 + m ≤ _; omega
      have R3 := HR.out.grow g3
      obtain ⟨es, RE⟩ := R3
      have RE' := Lib.hid RE
      have esl : es.length = L.length := by have := RE.1.1; omega
      have elen : es.length + 1 ≤ 1099511627776 := by omega
      have hown3 : w3.ownsRow w3.heap.size 5 1 (.slice none 0 0) ([] : List Value).length [] := World.ownsRow_nil w3 _ _ 1
      clear hh RE HD1
      go_wp2_with (first
        | (at_builtin; refine app_bytes rfl _ _ 33 rfl w3.heap.size (.slice none 0 0) [] rfl hown3 (.slice A2 m c2) (bs X) rfl s3.out hlen (Nat.le_refl _) ?_; intro v4 w4 g4; rw [List.nil_append] at g4; have O4 : Hid (w4.ownsRow w3.heap.size 5 1 v4 X.length (bs X)) := (by have := g4.own; rw [bs_len] at this; exact this); obtain ⟨A4, c4, rfl⟩ := own_slice O4.out; have G4 := Lib.hid (g4.none rfl); have own2 : Hid ((w4.alloc (.cells #[.slice A4 X.length c4] 33)).ownsRow w.heap.size 33 1 (.slice A' L.length c') es.length es) := (by have h := RE'.out.1.kept (only_alloc (only_step (only_refl w3 none) G4.out (fun _ h => by cases h)) (.cells #[.slice A4 X.length c4] 33)) (by cases (Value.slice A' L.length c').ownBlock <;> simp); rw [esl]; exact h); have zz : w.heap.size ≤ (w4.alloc (.cells #[.slice A4 X.length c4] 33)).heap.size := Nat.le_trans (Nat.le_trans G3.out.size G4.out.size) (World.grownBy_alloc w4 _ none).size; clear g4)
        | (at_builtin; refine app_rows rfl _ _ 34 rfl w.heap.size (.slice A' L.length c') es rfl own2.out (.slice (some ⟨w4.heap.size, 0, none⟩) 1 1) [.slice A4 X.length c4] rfl (src_row w4 A4 X.length c4) elen zz ?_; intro v5 w5 g5; have R5 : Hid (RL w5 w.heap.size v5 (L ++ [X])) := RE'.out.add G4.out O4.out g5; have G5 : Hid (w.grownBy w5 none) := g5.all own2.out (only_alloc (only_step G3.out G4.out (fun _ h => by cases h)) _) (Nat.le_refl _); clear g5; obtain ⟨A5, c5, rfl⟩ := R5.out.form))
      refine ⟨⟨n + (8 + m), L ++ [X], A5, c5, by omega, by go_num, by rw [List.length_append]; rfl, by rw [List.length_append]; show L.length + 1 ≤ _; omega, R5, ?_, G5⟩, ?_⟩
      · have h1 := HS.out.1
        have h2 := HS.out.2
        rw [HSP.out, List.drop_drop] at h1 h2
        exact ⟨by rw [h1, List.append_assoc]; rfl, by rw [h2]; show n + (8 + m + _) = n + (8 + m) + _; omega⟩
      · simp [intOf]; omega
    · have SP := Lib.hid (scanP_no h0)
      obtain ⟨f, hf⟩ : ∃ f, f = firstE (l.drop n) := ⟨_, rfl⟩
      rw [← hf] at HD
      have t0 : (f != 0) = true := by rw [hf]; simpa using h0
      have fin : Hid (T.1 = L ∧ T.2 = n) := by
        have h1 := HS.out.1
        have h2 := HS.out.2
        rw [SP.out] at h1 h2
        exact ⟨by rw [h1]; exact List.append_nil _, by rw [h2]; rfl⟩
      clear h0 hf
      by_cases hcn : c = n
      · have HD1 := HD (some ⟨b, off, none⟩) (.inr (List.eq_nil_of_length_eq_zero (by rw [DL'.out]; omega)))
        rw [show l.length - n = 0 by omega, show c - n = 0 by omega] at HD1
        clear HD
        subst hcn
        go_wp2_with fail
        refine HD1.out.mono ?_
        rintro _ w3 ⟨v, rfl, hv, g3⟩
        have HV := Lib.hid hv
        clear hv
        go_wp2_with fail
        go_ret2
        exact ⟨_, by rw [fin.out.2]; rfl, by rw [fin.out.1]; exact HR.out.grow g3, only_step hG.out g3 (fun _ h => by cases h)⟩
      · have HD1 := HD (some ⟨b, off + n, none⟩) (.inl rfl)
        clear HD
        go_wp2_with fail
        refine HD1.out.mono ?_
        rintro _ w3 ⟨v, rfl, hv, g3⟩
        have HV := Lib.hid hv
        clear hv
        go_wp2_with fail
        go_ret2
        exact ⟨_, by rw [fin.out.2]; rfl, by rw [fin.out.1]; exact HR.out.grow g3, only_step hG.out g3 (fun _ h => by cases h)⟩
theorem scan_any (A : Option Addr) (c : Nat) (l : List Int) (w : World) (h : Has w w.heap.size A (bs l)) (hb : ∀ x ∈ l, 0 ≤ x ∧ x ≤ 255) (hl : l.length ≤ 4294967296) (hc : l.length ≤ c) (hT : Tab w) :
    Calls Tryd.prog 34 #[.slice A l.length c] w fun e w' => ∃ v, e = .returned (.tuple #[v, .int .i64 (scanP l).2]) ∧ RL w' w.heap.size v (scanP l).1 ∧ w.grownBy w' none := by
  by_cases h0 : firstE l = 0
  · have hlong := firstE_long (l := l) (by rw [h0]; decide) (by rw [h0]; decide)
    obtain ⟨b, off, rfl⟩ : ∃ b off, A = some ⟨b, off, none⟩ := by
      rcases h with h | ⟨b, off, hA, _⟩
      · have := congrArg List.length h; rw [bs_len, List.length_nil] at this; omega
      · exact ⟨b, off, hA⟩
    exact scan_core b off c l w h hb hl hc hT
  · rw [scanP_no h0]
    exact (scan_none A c l w h hb (by omega) hc hT h0).mono fun _ _ h => ⟨_, h.1, RL.nil _ _, h.2⟩
end Go.Proofs.YtpfahfakinonnaaDoor
