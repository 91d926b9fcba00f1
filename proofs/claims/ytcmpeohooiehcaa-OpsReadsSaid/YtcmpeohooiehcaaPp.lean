/- Package parts' Pen: an operation written; and ops.Bytes. Conditions: texts below 2^20 bytes, fewer than 2^20 dots. -/
import Derived.Test.YtcmpeohooiehcaaPo
namespace Go.Proofs.Ytcmpeohooiehcaa
open Go.RowKit Go.Deep Go.ChangeShapes
def dotsB (l : List Dt) : List Int := l.flatMap dotB
theorem dotsB_snoc (l : List Dt) (k : Nat) (h : k < l.length) : dotsB (l.take (k + 1)) = dotsB (l.take k) ++ dotB l[k] := by
  rw [List.take_succ_eq_append_getElem h]
  simp only [dotsB, List.flatMap_append, List.flatMap_cons, List.flatMap_nil, List.append_nil]
theorem dotsB_len (l : List Dt) (hl : ∀ p ∈ l, W64 p) : (dotsB l).length ≤ 30 * l.length := by
  induction l with
  | nil => simp [dotsB]
  | cons s l ih =>
    have h1 := dotB_len s (hl s (by simp))
    have h2 := ih (fun m hm => hl m (by simp [hm]))
    simp only [dotsB, List.flatMap_cons, List.length_append, List.length_cons] at h2 ⊢
    omega
/-- An operation's bytes. -/
def opB (d e s coll ver kind n time : Int) (key text : ByteArray) (l : List Dt) : List Int :=
  dotB (d, e, s) ++ (encs [coll, ver, kind, time] ++ (strs [key, text] ++ (encs [n, l.length] ++ dotsB l)))
set_option maxRecDepth 100000 in
set_option maxHeartbeats 2000000 in
theorem penOp_any (base q : Nat) (d e s coll ver kind n time : Int) (key text : ByteArray) (A : Option Addr) (c : Nat) (l : List Dt) (xs : List Int) (w : World) (hp : Pn w base q xs) (h1 : W64 (d, e, s)) (h2 : ∀ m ∈ [coll, ver, kind, time], I64 m) (h3 : I64 n) (hk : key.size ≤ 1048576) (ht : text.size ≤ 1048576)
    (hA : Has w base A (dc l)) (hl : ∀ p ∈ l, W64 p) (hn : l.length ≤ 1048576) (hx : xs.length ≤ 1073741824) :
    Calls Try.prog 31 #[.pointer (some ⟨q, 0, none⟩), .agg #[.int .i64 d, .int .i64 e, .int .i64 s, .int .i64 coll, .int .i64 ver, .int .i64 kind, .string key, .string text, .int .i64 n, .int .i64 time, .slice A l.length c]] w fun e' w' => e' = .returned (.tuple #[]) ∧ Pn w' base q (xs ++ opB d e s coll ver kind n time key text l) ∧ PTo base q w w' := by
  have HP := Lib.hid hp
  have H1 := Lib.hid h1
  have H2 := Lib.hid h2
  have H3 := Lib.hid h3
  have HK := Lib.hid hk
  have HT := Lib.hid ht
  have HA := Lib.hid hA
  have HL := Lib.hid hl
  have HX := Lib.hid hx
  have L1 := dotB_len (d, e, s) h1
  have L2 := encs_len [coll, ver, kind, time] (fun m hm => h2 m hm)
  have L3 := strs_len [key, text] (fun m hm => by
    simp only [List.mem_cons, List.not_mem_nil, or_false] at hm
    rcases hm with rfl | rfl
    · exact hk
    · exact ht)
  have L4 := encs_len [n, (l.length : Int)] (fun m hm => by
    simp only [List.mem_cons, List.not_mem_nil, or_false] at hm
    rcases hm with rfl | rfl
    · exact h3
    · omega)
  simp only [List.length_cons, List.length_nil] at L2 L3 L4
  have LS := Lib.hid (And.intro L1 (And.intro L2 (And.intro L3 L4)))
  have HN := Lib.hid hn
  clear hp h1 h2 h3 hk ht hA hl hx L1 L2 L3 L4
  go_enter Try.func31, Try.ntmps31
  go_wp2_with fail
  obtain ⟨w1, hw1⟩ : ∃ Z, w.alloc (.cells #[.int .i64 d, .int .i64 e, .int .i64 s, .int .i64 coll, .int .i64 ver, .int .i64 kind, .string key, .string text, .int .i64 n, .int .i64 time, .slice A l.length c] 26) = Z := ⟨_, rfl⟩
  have B1 : OpB w1 w.heap.size d e s coll ver kind key text n time (.slice A l.length c) := by subst hw1; exact heap_alloc_new w _
  have g1 : w.grownBy w1 none := by subst hw1; exact World.grownBy_alloc w _ none
  rw [hw1]
  clear hw1
  have hq := Lib.hid HP.out.lt
  have nq : Hid (w.heap.size ≠ q) := by have := HP.out.lt; unfold Hid; omega
  have hb0 : base ≤ w.heap.size := by have := HP.out.lt; omega
  have HB0 := Lib.hid hb0
  clear hb0
  refine (penDot_any base q (d, e, s) xs w1 (HP.out.off g1) H1.out (by have := HX.out; omega)).mono ?_
  rintro _ w2 ⟨rfl, P2, T2⟩
  have B2 : OpB w2 w.heap.size d e s coll ver kind key text n time (.slice A l.length c) := T2.2 _ _ _ _ nq.out (by decide) B1
  have T2' := (PTo.off (q := q) (base := base) g1 HB0.out).trans T2
  have HT2 := Lib.hid T2'
  clear T2 T2' g1 B1
  obtain ⟨c0, c1, c2, c3, c4, c5, c6, c7, c8, c9, c10⟩ := B2.cells
  go_wp2_with fail
  obtain ⟨w3, hw3⟩ : ∃ Z, w2.alloc (.cells #[.int .i64 coll, .int .i64 ver, .int .i64 kind, .int .i64 time] 3) = Z := ⟨_, rfl⟩
  have b3 : w3.heap[w2.heap.size]? = some (.cells (is [coll, ver, kind, time]).toArray 3 (0, 0)) := by subst hw3; exact heap_alloc_new w2 _
  have g3 : w2.grownBy w3 none := by subst hw3; exact World.grownBy_alloc w2 _ none
  rw [hw3]
  clear hw3 c0 c1 c2 c3 c4 c5 c6 c7 c8 c9 c10
  refine (penInt_any base q w2.heap.size [coll, ver, kind, time] _ w3 (P2.off g3) b3 (fun m hm => H2.out m hm) (by rw [List.length_append]; have := LS.out.1; have := HX.out; omega) (by simp)).mono ?_
  rintro _ w4 ⟨rfl, P4, T4⟩
  have B4 : OpB w4 w.heap.size d e s coll ver kind key text n time (.slice A l.length c) := T4.2 _ _ _ _ nq.out (by decide) (B2.other g3 (by simp))
  have HT4 := Lib.hid (HT2.out.trans ((PTo.off (q := q) (base := base) g3 (by have := HT2.out.1.size; have := HB0.out; omega)).trans T4))
  clear T4 g3 B2 b3 P2 HT2
  obtain ⟨c0, c1, c2, c3, c4, c5, c6, c7, c8, c9, c10⟩ := B4.cells
  go_wp2_with fail
  obtain ⟨w5, hw5⟩ : ∃ Z, w4.alloc (.cells #[.string key, .string text] 9) = Z := ⟨_, rfl⟩
  have b5 : w5.heap[w4.heap.size]? = some (.cells ([key, text].map Value.string).toArray 9 (0, 0)) := by subst hw5; exact heap_alloc_new w4 _
  have g5 : w4.grownBy w5 none := by subst hw5; exact World.grownBy_alloc w4 _ none
  rw [hw5]
  clear hw5 c0 c1 c2 c3 c4 c5 c6 c7 c8 c9 c10
  refine (penText_any base q w4.heap.size [key, text] _ w5 (P4.off g5) b5 (fun m hm => by
    simp only [List.mem_cons, List.not_mem_nil, or_false] at hm
    rcases hm with rfl | rfl
    · exact HK.out
    · exact HT.out) (by rw [List.length_append, List.length_append]; have := LS.out.1; have := LS.out.2.1; have := HX.out; omega) (by simp)).mono ?_
  rintro _ w6 ⟨rfl, P6, T6⟩
  have B6 : OpB w6 w.heap.size d e s coll ver kind key text n time (.slice A l.length c) := T6.2 _ _ _ _ nq.out (by decide) (B4.other g5 (by simp))
  have HT6 := Lib.hid (HT4.out.trans ((PTo.off (q := q) (base := base) g5 (by have := HT4.out.1.size; have := HB0.out; omega)).trans T6))
  clear T6 g5 B4 b5 P4 HT4
  obtain ⟨c0, c1, c2, c3, c4, c5, c6, c7, c8, c9, c10⟩ := B6.cells
  go_wp2_with fail
  obtain ⟨w7, hw7⟩ : ∃ Z, w6.alloc (.cells #[.int .i64 n, .int .i64 l.length] 3) = Z := ⟨_, rfl⟩
  have b7 : w7.heap[w6.heap.size]? = some (.cells (is [n, (l.length : Int)]).toArray 3 (0, 0)) := by subst hw7; exact heap_alloc_new w6 _
  have g7 : w6.grownBy w7 none := by subst hw7; exact World.grownBy_alloc w6 _ none
  rw [hw7]
  clear hw7 c0 c1 c2 c3 c4 c5 c6 c7 c8 c9 c10
  refine (penInt_any base q w6.heap.size [n, (l.length : Int)] _ w7 (P6.off g7) b7 (fun m hm => by
    simp only [List.mem_cons, List.not_mem_nil, or_false] at hm
    rcases hm with rfl | rfl
    · exact H3.out
    · have := HN.out; omega) (by rw [List.length_append, List.length_append, List.length_append]; have := LS.out.1; have := LS.out.2.1; have := LS.out.2.2.1; have := HX.out; omega) (by simp)).mono ?_
  rintro _ w8 ⟨rfl, P8, T8⟩
  have B8 : OpB w8 w.heap.size d e s coll ver kind key text n time (.slice A l.length c) := T8.2 _ _ _ _ nq.out (by decide) (B6.other g7 (by simp))
  have HT8 := Lib.hid (HT6.out.trans ((PTo.off (q := q) (base := base) g7 (by have := HT6.out.1.size; have := HB0.out; omega)).trans T8))
  clear T8 g7 B6 b7 P6 HT6
  obtain ⟨ys, hys⟩ : ∃ ys, xs ++ dotB (d, e, s) ++ encs [coll, ver, kind, time] ++ strs [key, text] ++ encs [n, (l.length : Int)] = ys := ⟨_, rfl⟩
  have HYL : Hid (ys.length ≤ 2000000000) := by
    unfold Hid
    rw [← hys]
    simp only [List.length_append]
    have := LS.out
    have := HX.out
    omega
  rw [hys] at P8
  have HYS : Hid (xs ++ opB d e s coll ver kind n time key text l = ys ++ dotsB l) := by
    unfold Hid opB
    rw [← hys]
    simp only [List.append_assoc]
  have HP8 := Lib.hid P8
  obtain ⟨c0, c1, c2, c3, c4, c5, c6, c7, c8, c9, c10⟩ := B8.cells
  have HAA := Lib.hid (HA.out.below HT8.out.1)
  clear hys P8 HA
  go_wp2_with fail
  clear c0 c1 c2 c3 c4 c5 c6 c7 c8 c9 c10
  have hbw := Lib.hid (show base ≤ w8.heap.size by have := HT8.out.1.size; have := HB0.out; omega)
  go_loopw [5, 39] (fun _ si wr => ∃ k : Nat, k ≤ l.length ∧ si = .int .i64 k ∧ Pn wr base q (ys ++ dotsB (l.take k)) ∧ PTo base q w8 wr)
    (fun _ si _ => l.length - (intOf si).toNat)
  case atStart => exact ⟨0, Nat.zero_le _, rfl, by simpa [dotsB] using HP8.out, PTo.off (only_refl _ _) hbw.out⟩
  case round =>
    obtain ⟨k, hk, rfl, hP, hT⟩ := hrel
    have HPk := Lib.hid hP
    have HTk := Lib.hid hT
    clear hP hT
    by_cases hlt : k < l.length
    · obtain ⟨x, hx⟩ : ∃ x, l[k]? = some x := ⟨_, List.getElem?_eq_getElem hlt⟩
      obtain ⟨b, off, rfl, hb, x1, x2, x3⟩ := (HAA.out.below HTk.out.1).dot hx
      have hxe : l[k] = x := by rw [List.getElem?_eq_getElem hlt] at hx; injection hx
      have HXW := Lib.hid (hxe ▸ HL.out l[k] (List.getElem_mem hlt))
      have HSN := Lib.hid (hxe ▸ dotsB_snoc l k hlt)
      have HLK : Hid ((dotsB (l.take k)).length ≤ 30 * k) := by
        have h := dotsB_len (l.take k) (fun p hp => HL.out p (List.mem_of_mem_take hp))
        have : (l.take k).length ≤ k := List.length_take_le _ _
        unfold Hid
        omega
      clear hx hxe
      go_wp2_with fail
      obtain ⟨w9, hw9⟩ : ∃ Z, wr.alloc (.cells #[.int .i64 x.1, .int .i64 x.2.1, .int .i64 x.2.2] 23) = Z := ⟨_, rfl⟩
      have g9 : wr.grownBy w9 none := by subst hw9; exact World.grownBy_alloc wr _ none
      rw [hw9]
      clear hw9 x1 x2 x3
      refine (penDot_any base q x _ w9 (HPk.out.off g9) HXW.out (by rw [List.length_append]; have := HYL.out; have := HLK.out; omega)).mono ?_
      rintro _ wa ⟨rfl, Pa, Ta⟩
      have HTa := Lib.hid (HTk.out.trans ((PTo.off (q := q) (base := base) g9 (by have := HTk.out.1.size; have := hbw.out; omega)).trans Ta))
      have HPa := Lib.hid Pa
      clear Ta Pa g9
      go_wp2_with fail
      go_roundw
      case rel =>
        refine ⟨k + 1, hlt, by go_num, ?_, HTa.out⟩
        have := HPa.out
        rw [List.append_assoc, ← HSN.out] at this
        exact this
      case measure => simp [intOf]; omega
    · have hkl : k = l.length := by omega
      subst hkl
      go_wp2_with fail
      go_end0
      refine ⟨rfl, ?_, HT8.out.trans HTk.out⟩
      have := HPk.out
      rw [List.take_length] at this
      rw [HYS.out]
      exact this
theorem opB_len (d e s coll ver kind n time : Int) (key text : ByteArray) (l : List Dt) (h1 : W64 (d, e, s)) (h2 : ∀ m ∈ [coll, ver, kind, time], I64 m) (h3 : I64 n) (hk : key.size ≤ 1048576) (ht : text.size ≤ 1048576) (hl : ∀ p ∈ l, W64 p) (hn : l.length ≤ 1048576) :
    (opB d e s coll ver kind n time key text l).length ≤ 90 + 2097172 + 30 * l.length := by
  have L1 := dotB_len (d, e, s) h1
  have L2 := encs_len [coll, ver, kind, time] (fun m hm => h2 m hm)
  have L3 := strs_len [key, text] (fun m hm => by
    simp only [List.mem_cons, List.not_mem_nil, or_false] at hm
    rcases hm with rfl | rfl
    · exact hk
    · exact ht)
  have L4 := encs_len [n, (l.length : Int)] (fun m hm => by
    simp only [List.mem_cons, List.not_mem_nil, or_false] at hm
    rcases hm with rfl | rfl
    · exact h3
    · omega)
  have L5 := dotsB_len l hl
  simp only [List.length_cons, List.length_nil] at L2 L3 L4
  unfold opB
  simp only [List.length_append]
  omega
set_option maxRecDepth 100000 in
/-- ops.Bytes. -/
theorem bytes_any (B : Option Addr) (cb : Nat) (xs : List Int) (d e s coll ver kind n time : Int) (key text : ByteArray) (A : Option Addr) (c : Nat) (l : List Dt) (w : World) (hB : Has w w.heap.size B (bs xs)) (h1 : W64 (d, e, s)) (h2 : ∀ m ∈ [coll, ver, kind, time], I64 m) (h3 : I64 n) (hk : key.size ≤ 1048576) (ht : text.size ≤ 1048576)
    (hA : Has w w.heap.size A (dc l)) (hl : ∀ p ∈ l, W64 p) (hn : l.length ≤ 1048576) (hx : xs.length ≤ 1073741824) :
    Calls Try.prog 16 #[.slice B xs.length cb, .agg #[.int .i64 d, .int .i64 e, .int .i64 s, .int .i64 coll, .int .i64 ver, .int .i64 kind, .string key, .string text, .int .i64 n, .int .i64 time, .slice A l.length c]] w (Out w w.heap.size (.slice none 0 0) (bs (xs ++ opB d e s coll ver kind n time key text l))) := by
  have HB := Lib.hid hB
  have H1 := Lib.hid h1
  have H2 := Lib.hid h2
  have H3 := Lib.hid h3
  have HK := Lib.hid hk
  have HT := Lib.hid ht
  have HA := Lib.hid hA
  have HL := Lib.hid hl
  have HX := Lib.hid hx
  have HN := Lib.hid hn
  have HLN := Lib.hid (opB_len d e s coll ver kind n time key text l h1 h2 h3 hk ht hl hn)
  clear hB h1 h2 h3 hk ht hA hl hn hx
  go_enter Try.func16, Try.ntmps16
  go_wp2_with fail
  obtain ⟨w1, hw1⟩ : ∃ Z, (w.alloc (.cells #[.int .i64 d, .int .i64 e, .int .i64 s, .int .i64 coll, .int .i64 ver, .int .i64 kind, .string key, .string text, .int .i64 n, .int .i64 time, .slice A l.length c] 26)).alloc (.cells #[.slice none 0 0] 56) = Z := ⟨_, rfl⟩
  have B1 : OpB w1 w.heap.size d e s coll ver kind key text n time (.slice A l.length c) := by subst hw1; exact (Below.heap_alloc _ _ _ (by simp)).trans (heap_alloc_new w _)
  have P1 : Pn w1 w.heap.size (w.heap.size + 1) [] := by
    subst hw1
    have := heap_alloc_new (w.alloc (.cells #[.int .i64 d, .int .i64 e, .int .i64 s, .int .i64 coll, .int .i64 ver, .int .i64 kind, .string key, .string text, .int .i64 n, .int .i64 time, .slice A l.length c] 26)) (.cells #[.slice none 0 0] 56)
    rw [World.size_alloc] at this
    exact ⟨_, this, World.ownsRow_nil _ _ _ _, by omega⟩
  have g1 : w.grownBy w1 none := by subst hw1; exact only_alloc (only_alloc (only_refl _ _) _) _
  rw [hw1]
  clear hw1
  refine (penRaw_any w.heap.size (w.heap.size + 1) B cb xs [] w1 P1 (HB.out.up g1) (by simp) (by have := HX.out; omega)).mono ?_
  rintro _ w2 ⟨rfl, P2, T2⟩
  rw [List.nil_append] at P2
  have B2 : OpB w2 w.heap.size d e s coll ver kind key text n time (.slice A l.length c) := T2.2 _ _ _ _ (by omega) (by decide) B1
  have G2 : Below w.heap.size w w2 := (only_below g1).trans T2.1
  obtain ⟨c0, c1, c2, c3, c4, c5, c6, c7, c8, c9, c10⟩ := B2.cells
  go_wp2_with fail
  refine (penOp_any w.heap.size (w.heap.size + 1) d e s coll ver kind n time key text A c l xs w2 P2 H1.out H2.out H3.out HK.out HT.out (HA.out.below G2) HL.out HN.out HX.out).mono ?_
  rintro _ w3 ⟨rfl, P3, T3⟩
  have G3 := G2.trans T3.1
  have hz := G3.size
  clear c0 c1 c2 c3 c4 c5 c6 c7 c8 c9 c10
  go_wp2_with fail
  refine (penBytes_any w.heap.size (w.heap.size + 1) _ w3 P3 (by rw [List.length_append]; have := HLN.out; have := HX.out; have := HN.out; omega)).mono ?_
  rintro _ w4 ⟨v, rfl, g4⟩
  have n4 := g4.none rfl
  have ho := g4.own
  go_wp2_with fail
  go_ret
  refine ⟨v, rfl, ⟨?_, ?_, ?_⟩⟩
  · rcases ho.2 with h | ⟨g, cap, cur, hv, hg, h2⟩
    · exact ⟨ho.1, .inl h⟩
    · exact ⟨ho.1, .inr ⟨g, cap, cur, hv, by omega, h2⟩⟩
  · exact below_only (G3.trans (bel n4 (fun _ e => by cases e) hz))
  · rcases g4.at_ with h | ⟨g, h, hg⟩
    · exact .inl h
    · exact .inr ⟨g, h, by omega⟩
end Go.Proofs.Ytcmpeohooiehcaa
