/- The reference's Nums and Bytes: an operation written behind a row of the call's own. Conditions: texts below 2^20 bytes, fewer than 2^20 dots. -/
import Derived.Test.YtcmpeohooiehcaaPp
import Derived.Test.YtcmpeohooiehcaaRf2
namespace Go.Proofs.Ytcmpeohooiehcaa
open Go.RowKit Go.Deep Go.ChangeShapes
theorem grown_blk {w w' : World} {base n b : Nat} {v v' : Value} {xs ys : List Value} {cs : Array Value} {T : TypeId} {m : Nat × Nat} (g : Grew w w' base 5 v v' ys) (h : w.ownsRow base 5 1 v n xs) (hT : T ≠ 5) (hb : w.heap[b]? = some (.cells cs T m)) : w'.heap[b]? = some (.cells cs T m) :=
  (g.only.block b (Array.getElem?_eq_some_iff.1 hb).1 (fun e => by
    obtain ⟨_, cs', hc⟩ := own_typ h e.symm
    rw [hb] at hc
    injection hc with hc
    injection hc with _ hc _
    exact hT hc)).trans hb
theorem own_off {w w' : World} {base e s n : Nat} {v : Value} {xs : List Value} (h : w.ownsRow base e s v n xs) (g : w.grownBy w' none) : w'.ownsRow base e s v n xs :=
  h.kept g (by cases v.ownBlock <;> simp)
theorem grown_opb {w w' : World} {base n b : Nat} {v v' : Value} {xs ys : List Value} {d e s coll ver kind : Int} {key text : ByteArray} {nn time : Int} {u : Value} (g : Grew w w' base 5 v v' ys) (h : w.ownsRow base 5 1 v n xs) (hb : OpB w b d e s coll ver kind key text nn time u) : OpB w' b d e s coll ver kind key text nn time u :=
  grown_blk g h (by decide) hb
theorem grown_has {w w' : World} {base n : Nat} {v v' : Value} {xs ys zs : List Value} {A : Option Addr} (g : Grew w w' base 5 v v' ys) (h : w.ownsRow base 5 1 v n xs) (hb : base ≤ w.heap.size) (hA : Has w base A zs) : Has w' base A zs :=
  hA.only g.only hb (fun k hk => (h.lt k hk).1)
set_option maxRecDepth 100000 in
set_option maxHeartbeats 1000000 in
theorem nums_any (base b : Nat) (v : Value) (xs : List Value) (l : List Int) (w : World) (hown : w.ownsRow base 5 1 v xs.length xs) (hb0 : base ≤ w.heap.size) (hb : w.heap[b]? = some (.cells (is l).toArray 3 (0, 0))) (hl : ∀ n ∈ l, -9223372036854775808 ≤ n ∧ n ≤ 9223372036854775807) (hx : xs.length ≤ 1099511627776) (hm : l.length ≤ 1048576) :
    Calls Try.prog 33 #[v, .slice (some ⟨b, 0, none⟩) l.length l.length] w (Out w base v (xs ++ bs (encs l))) := by
  have HO := Lib.hid hown
  have HB := Lib.hid hb
  have HL := Lib.hid hl
  have HS := fun (k : Nat) (h : k < l.length) => Lib.hid (encs_snoc l k h)
  have HX := Lib.hid hx
  have HB0 := Lib.hid hb0
  clear hown hb hl hx hb0
  go_enter Try.func33, Try.ntmps33
  go_wp2_with fail
  go_loopw [0, 5] (fun sv si wr => ∃ k : Nat, k ≤ l.length ∧ si = .int .i64 k ∧ Hid (Grew w wr base 5 v sv (xs ++ bs (encs (l.take k)))))
    (fun _ si _ => l.length - (intOf si).toNat)
  case atStart => exact ⟨0, Nat.zero_le _, rfl, by
    unfold Hid
    have : xs ++ bs (encs (l.take 0)) = xs := by simp [encs, bs]
    rw [this]
    exact ⟨HO.out, only_refl _ _, .inl rfl⟩⟩
  case round =>
    obtain ⟨k, hk, rfl, hG⟩ := hrel
    by_cases hlt : k < l.length
    · have hbb := grown_blk hG.out HO.out (by decide) HB.out
      obtain ⟨x, ex⟩ : ∃ x, x = l[k] := ⟨_, rfl⟩
      have hcell : wr.cell? ⟨b, k, none⟩ = some (.int .i64 x) := by rw [ex]; simp [World.cell?, hbb, hlt, is]
      have hxk := HL.out l[k] (List.getElem_mem hlt)
      rw [← ex] at hxk
      have hlk : (encs (l.take k)).length ≤ 10 * k := by
        have h := encs_len (l.take k) (fun n hn => HL.out n (List.mem_of_mem_take hn))
        have : (l.take k).length ≤ k := List.length_take_le _ _
        omega
      have HSk := HS k hlt
      rw [← ex] at HSk
      have HXK := Lib.hid hxk
      have HLK := Lib.hid hlk
      clear hbb ex hxk hlk
      go_wp2_with fail
      refine (refInt_any base _ (xs ++ bs (encs (l.take k))) x wr hG.out.own (by have := HB0.out; have := hG.out.only.size; omega) HXK.out.1 HXK.out.2 (by rw [List.length_append, bs_len]; have := HX.out; have := HLK.out; omega)).mono ?_
      rintro _ w3 ⟨v3, rfl, g3, _⟩
      go_wp2_with fail
      go_roundw
      case rel =>
        refine ⟨k + 1, hlt, by go_num, ?_⟩
        have h := hG.out.trans g3
        unfold Hid
        rw [HSk.out, bs_append, ← List.append_assoc]
        exact h
      case measure => simp [intOf]; omega
    · have hkl : k = l.length := by omega
      subst hkl
      go_wp2_with fail
      go_ret
      refine ⟨_, rfl, ?_⟩
      have := hG.out
      rw [List.take_length] at this
      exact this
set_option maxRecDepth 100000 in
set_option maxHeartbeats 4000000 in
/-- The reference's Bytes. -/
theorem rbytes_any (base : Nat) (v : Value) (xs : List Value) (d e s coll ver kind n time : Int) (key text : ByteArray) (A : Option Addr) (c : Nat) (l : List Dt) (w : World) (hown : w.ownsRow base 5 1 v xs.length xs) (hb0 : base ≤ w.heap.size) (h1 : W64 (d, e, s)) (h2 : ∀ m ∈ [coll, ver, kind, time], I64 m) (h3 : I64 n) (hk : key.size ≤ 1048576) (ht : text.size ≤ 1048576)
    (hA : Has w base A (dc l)) (hl : ∀ p ∈ l, W64 p) (hn : l.length ≤ 1048576) (hx : xs.length ≤ 1073741824) :
    Calls Try.prog 17 #[v, .agg #[.int .i64 d, .int .i64 e, .int .i64 s, .int .i64 coll, .int .i64 ver, .int .i64 kind, .string key, .string text, .int .i64 n, .int .i64 time, .slice A l.length c]] w (Out w base v (xs ++ bs (opB d e s coll ver kind n time key text l))) := by
  have HO := Lib.hid hown
  have HB0 := Lib.hid hb0
  have H1 := Lib.hid h1
  have H2 := Lib.hid h2
  have H3 := Lib.hid h3
  have HK := Lib.hid hk
  have HT := Lib.hid ht
  have HA := Lib.hid hA
  have HL := Lib.hid hl
  have HX := Lib.hid hx
  have HN := Lib.hid hn
  have HNUM : ∀ m ∈ [d, e, s, coll, ver, kind, time], -9223372036854775808 ≤ m ∧ m ≤ 9223372036854775807 := fun m hm => by
    simp only [List.mem_cons, List.not_mem_nil, or_false] at hm
    rcases hm with rfl | rfl | rfl | hm
    · exact h1.1
    · exact h1.2.1
    · exact h1.2.2
    · exact h2 m (by simp only [List.mem_cons, List.not_mem_nil, or_false]; exact hm)
  have HNM := Lib.hid HNUM
  have HLE := Lib.hid (encs_len _ HNUM)
  clear HNUM hown hb0 h1 h2 h3 hk ht hA hl hx hn
  go_enter Try.func17, Try.ntmps17
  go_wp2_with fail
  obtain ⟨w1, hw1⟩ : ∃ Z, (w.alloc (.cells #[.int .i64 d, .int .i64 e, .int .i64 s, .int .i64 coll, .int .i64 ver, .int .i64 kind, .string key, .string text, .int .i64 n, .int .i64 time, .slice A l.length c] 26)).alloc (.cells #[.int .i64 d, .int .i64 e, .int .i64 s, .int .i64 coll, .int .i64 ver, .int .i64 kind, .int .i64 time] 3) = Z := ⟨_, rfl⟩
  have B1 : OpB w1 w.heap.size d e s coll ver kind key text n time (.slice A l.length c) := by subst hw1; exact (Below.heap_alloc _ _ _ (by simp)).trans (heap_alloc_new w _)
  have b1 : w1.heap[w.heap.size + 1]? = some (.cells (is [d, e, s, coll, ver, kind, time]).toArray 3 (0, 0)) := by
    subst hw1
    have := heap_alloc_new (w.alloc (.cells #[.int .i64 d, .int .i64 e, .int .i64 s, .int .i64 coll, .int .i64 ver, .int .i64 kind, .string key, .string text, .int .i64 n, .int .i64 time, .slice A l.length c] 26)) (.cells #[.int .i64 d, .int .i64 e, .int .i64 s, .int .i64 coll, .int .i64 ver, .int .i64 kind, .int .i64 time] 3)
    rwa [World.size_alloc] at this
  have g1 : w.grownBy w1 none := by subst hw1; exact only_alloc (only_alloc (only_refl _ _) _) _
  rw [hw1]
  clear hw1
  have o1 := HO.out.kept g1 (by cases v.ownBlock <;> simp)
  have zz : base ≤ w1.heap.size := by have := HB0.out; have := g1.size; omega
  refine (nums_any base _ v xs _ w1 o1 zz b1 HNM.out (by have := HX.out; omega) (by simp)).mono ?_
  rintro _ w2 ⟨v2, rfl, g2⟩
  have B2 := grown_opb g2 o1 B1
  have A2 := grown_has g2 o1 zz (HA.out.only g1 (by have := HB0.out; omega) (fun _ e => by cases e))
  have GG2 : Grew w w2 base 5 v v2 (xs ++ bs (encs [d, e, s, coll, ver, kind, time])) := ⟨g2.own, only_step (only_none g1 _) g2.only (fun _ h => .inl h), by
    rcases g2.at_ with h | ⟨q, h, hq⟩
    · exact .inl h
    · exact .inr ⟨q, h, by have := g1.size; omega⟩⟩
  have z2 : base ≤ w2.heap.size := by have := g2.only.size; omega
  obtain ⟨y2, hy2⟩ : ∃ y, bs (encs [d, e, s, coll, ver, kind, time]) = y := ⟨_, rfl⟩
  have hy2l : y2.length ≤ 70 := by rw [← hy2, bs_len]; exact HLE.out
  rw [hy2] at GG2
  have HY2 := Lib.hid hy2
  have HG2 := Lib.hid GG2
  have HB2 := Lib.hid B2
  have HA2 := Lib.hid A2
  clear hy2 GG2 B2 A2 g2 B1 b1 g1 o1 zz
  go_upto_region 2 with fail
  obtain ⟨c0, c1, c2, c3, c4, c5, c6, c7, c8, c9, c10⟩ := HB2.out.cells
  have S2 : Hid (w2.drew.cell? ⟨w.heap.size, 6, none⟩ = some (.string key) ∧ w2.drew.cell? ⟨w.heap.size, 7, none⟩ = some (.string text) ∧ w2.drew.cell? ⟨w.heap.size, 8, none⟩ = some (.int .i64 n)) := ⟨c6, c7, c8⟩
  clear c0 c1 c2 c3 c4 c5 c6 c7 c8 c9 c10
  have od2 : w2.drew.ownsRow base 5 1 v2 (xs ++ y2).length (xs ++ y2) := HG2.out.own
  have zd2 : base ≤ w2.drew.heap.size := z2
  refine wp_region_late [(9, fun V => V.cell? ⟨w.heap.size, 6, none⟩ = some (.string key) ∧ V.cell? ⟨w.heap.size, 7, none⟩ = some (.string text) ∧ V.cell? ⟨w.heap.size, 8, none⟩ = some (.int .i64 n))] (by kernel_rfl) ?_
  refine wpAnyT_pure (i := 0) (oi := { dst := some 26, op := Op.move (Operand.tmp 0), type := 35, pos := "ref.go:81", after := #[], guard := none }) (v := ?_) rfl (by kernel_rfl) (by kernel_rfl) (by kernel_rfl) (by kernel_rfl) (fun _ _ _ h => h) (Or.inl ⟨by rfl, ?_⟩) (holds1 (fun _ => S2.out)) ?_
  rotate_left
  · (intro W; go_simp; try with_reducible rfl)
  try simp only [Act.put, List.setIfInBounds_toArray, List.set_cons_zero, List.set_cons_succ]
  refine wpAnyT_pure (i := 1) (oi := { dst := some 27, op := Op.fieldAddr 26 (Operand.tmp 3) 4, type := 0, pos := "ref.go:81", after := #[], guard := none }) (v := ?_) rfl (by kernel_rfl) (by kernel_rfl) (by kernel_rfl) (by kernel_rfl) (fun _ _ _ h => h) (Or.inl ⟨by rfl, ?_⟩) (holds1 (fun _ => S2.out)) ?_
  rotate_left
  · (intro W; go_simp; try with_reducible rfl)
  try simp only [Act.put, List.setIfInBounds_toArray, List.set_cons_zero, List.set_cons_succ]
  refine wpAnyT_take 3 9 (i := 2) (oi := { dst := some 28, op := Op.load 9 (Operand.tmp 27), type := 9, pos := "ref.go:81", after := #[{ on := 1, ground := Ground.data }], guard := none }) (v := ?_) (.head _) rfl (by kernel_rfl) (by kernel_rfl) (by kernel_rfl) (by kernel_rfl) (by kernel_rfl) (by kernel_rfl) (by rfl) (fun _ _ _ h => h) (by rfl) ?_ (holds1 (fun _ => S2.out)) ?_
  rotate_left
  · (intro W hSw; (try dsimp only at hSw); go_simp; try with_reducible rfl)
  try simp only [Act.put, List.setIfInBounds_toArray, List.set_cons_zero, List.set_cons_succ]
  refine wpAnyT_pure (i := 4) (oi := { dst := some 30, op := Op.fieldAddr 26 (Operand.tmp 3) 5, type := 0, pos := "ref.go:81", after := #[], guard := none }) (v := ?_) rfl (by kernel_rfl) (by kernel_rfl) (by kernel_rfl) (by kernel_rfl) (fun _ _ _ h => h) (Or.inl ⟨by rfl, ?_⟩) (holds1 (fun _ => S2.out)) ?_
  rotate_left
  · (intro W; go_simp; try with_reducible rfl)
  try simp only [Act.put, List.setIfInBounds_toArray, List.set_cons_zero, List.set_cons_succ]
  refine wpAnyT_take 3 9 (i := 5) (oi := { dst := some 31, op := Op.load 9 (Operand.tmp 30), type := 9, pos := "ref.go:81", after := #[{ on := 4, ground := Ground.data }], guard := none }) (v := ?_) (.head _) rfl (by kernel_rfl) (by kernel_rfl) (by kernel_rfl) (by kernel_rfl) (by kernel_rfl) (by kernel_rfl) (by rfl) (fun _ _ _ h => h) (by rfl) ?_ (holds1 (fun _ => S2.out)) ?_
  rotate_left
  · (intro W hSw; (try dsimp only at hSw); go_simp; try with_reducible rfl)
  try simp only [Act.put, List.setIfInBounds_toArray, List.set_cons_zero, List.set_cons_succ]
  refine wpAnyT_pure (i := 7) (oi := { dst := some 33, op := Op.fieldAddr 26 (Operand.tmp 3) 6, type := 0, pos := "ref.go:81", after := #[], guard := none }) (v := ?_) rfl (by kernel_rfl) (by kernel_rfl) (by kernel_rfl) (by kernel_rfl) (fun _ _ _ h => h) (Or.inl ⟨by rfl, ?_⟩) (holds1 (fun _ => S2.out)) ?_
  rotate_left
  · (intro W; go_simp; try with_reducible rfl)
  try simp only [Act.put, List.setIfInBounds_toArray, List.set_cons_zero, List.set_cons_succ]
  refine wpAnyT_take 3 9 (i := 8) (oi := { dst := some 34, op := Op.load 3 (Operand.tmp 33), type := 3, pos := "ref.go:81", after := #[{ on := 7, ground := Ground.data }], guard := none }) (v := ?_) (.head _) rfl (by kernel_rfl) (by kernel_rfl) (by kernel_rfl) (by kernel_rfl) (by kernel_rfl) (by kernel_rfl) (by rfl) (fun _ _ _ h => h) (by rfl) ?_ (holds1 (fun _ => S2.out)) ?_
  rotate_left
  · (intro W hSw; (try dsimp only at hSw); go_simp; try with_reducible rfl)
  try simp only [Act.put, List.setIfInBounds_toArray, List.set_cons_zero, List.set_cons_succ]
  refine wpAnyT_ready (rs := [3]) (by kernel_rfl) (by simp) (AllT.cons (o := { dst := some 29, op := Op.call { callee := Callee.value (Operand.func 35), args := #[Operand.tmp 26, Operand.tmp 28], argTypes := #[35, 9] }, type := 35, pos := "ref.go:81", after := #[{ on := 0, ground := Ground.data }, { on := 2, ground := Ground.data }], guard := none }) rfl (fun K hK => ?_) AllT.nil)
  go_simp
  go_at_call 35
  refine (refText_any base v2 (xs ++ y2) key _ od2 zd2 (by rw [List.length_append]; have := HX.out; omega) (by have := HK.out; omega)).mono ?_
  rintro _ w3 ⟨v3, rfl, g3, _⟩
  have B3 := grown_opb g3 od2 (OpB.drew HB2.out)
  have K3 := B3.cells
  refine hK.out _ _ (holds1 (fun _ => ⟨K3.2.2.2.2.2.2.1, K3.2.2.2.2.2.2.2.1, K3.2.2.2.2.2.2.2.2.1⟩)) ?_
  clear hK K
  try simp only [Act.put, List.setIfInBounds_toArray, List.set_cons_zero, List.set_cons_succ]
  refine wpAnyT_ready (rs := [6]) (by kernel_rfl) (by simp) (AllT.cons (o := { dst := some 32, op := Op.call { callee := Callee.value (Operand.func 35), args := #[Operand.tmp 29, Operand.tmp 31], argTypes := #[35, 9] }, type := 35, pos := "ref.go:81", after := #[{ on := 3, ground := Ground.data }, { on := 5, ground := Ground.data }, { on := 3, ground := Ground.chain }], guard := none }) rfl (fun K hK => ?_) AllT.nil)
  go_simp
  go_at_call 35
  obtain ⟨y3, hy3⟩ : ∃ y, bs (enc key.size) ++ bs (sb key) = y := ⟨_, rfl⟩
  have hy3l : y3.length ≤ 1048586 := by rw [← hy3, List.length_append, bs_len, bs_len, sb_len]; have := HK.out; have := (enc_len key.size (by omega) (by omega)).2; omega
  rw [hy3] at g3
  have HY3 := Lib.hid hy3
  clear hy3
  have o3 := g3.own
  have z3 : base ≤ w3.heap.size := by have := g3.only.size; omega
  refine (refText_any base v3 (xs ++ y2 ++ y3) text _ o3 z3 (by simp only [List.length_append]; have := HX.out; omega) (by have := HT.out; omega)).mono ?_
  rintro _ w4 ⟨v4, rfl, g4, _⟩
  have B4 := grown_opb g4 o3 B3
  have K4 := B4.cells
  refine hK.out _ _ (holds1 (fun _ => ⟨K4.2.2.2.2.2.2.1, K4.2.2.2.2.2.2.2.1, K4.2.2.2.2.2.2.2.2.1⟩)) ?_
  clear hK K
  try simp only [Act.put, List.setIfInBounds_toArray, List.set_cons_zero, List.set_cons_succ]
  refine wpAnyT_ready (rs := [9]) (by kernel_rfl) (by simp) (AllT.cons (o := { dst := some 35, op := Op.call { callee := Callee.value (Operand.func 34), args := #[Operand.tmp 32, Operand.tmp 34], argTypes := #[35, 3] }, type := 35, pos := "ref.go:81", after := #[{ on := 6, ground := Ground.data }, { on := 8, ground := Ground.data }, { on := 6, ground := Ground.chain }], guard := none }) rfl (fun K hK => ?_) AllT.nil)
  go_simp
  go_at_call 34
  obtain ⟨y4, hy4⟩ : ∃ y, bs (enc text.size) ++ bs (sb text) = y := ⟨_, rfl⟩
  have hy4l : y4.length ≤ 1048586 := by rw [← hy4, List.length_append, bs_len, bs_len, sb_len]; have := HT.out; have := (enc_len text.size (by omega) (by omega)).2; omega
  rw [hy4] at g4
  have HY4 := Lib.hid hy4
  clear hy4
  have o4 := g4.own
  have z4 : base ≤ w4.heap.size := by have := g4.only.size; omega
  refine (refInt_any base v4 (xs ++ y2 ++ y3 ++ y4) n _ o4 z4 H3.out.1 H3.out.2 (by simp only [List.length_append]; have := HX.out; omega)).mono ?_
  rintro _ w5 ⟨v5, rfl, g5, _⟩
  have B5 := grown_opb g5 o4 B4
  refine hK.out _ _ (holds1 (late_no (by kernel_rfl))) ?_
  clear hK K
  try simp only [Act.put, List.setIfInBounds_toArray, List.set_cons_zero, List.set_cons_succ]
  refine wpAnyT_pure (i := 10) (oi := { dst := some 0, op := Op.assign (Operand.tmp 35), type := 35, pos := "ref.go:81", after := #[{ on := 9, ground := Ground.data }, { on := 9, ground := Ground.chain }, { on := 0, ground := Ground.phase }, { on := 1, ground := Ground.phase }, { on := 2, ground := Ground.phase }, { on := 3, ground := Ground.phase }, { on := 4, ground := Ground.phase }, { on := 5, ground := Ground.phase }, { on := 6, ground := Ground.phase }, { on := 7, ground := Ground.phase }, { on := 8, ground := Ground.phase }, { on := 9, ground := Ground.phase }], guard := none }) (v := ?_) rfl (by kernel_rfl) (by kernel_rfl) (by kernel_rfl) (by kernel_rfl) (fun _ _ _ h => h) (Or.inl ⟨by rfl, ?_⟩) (holds1 (late_no (by kernel_rfl))) ?_
  rotate_left
  · (intro W; go_simp; try with_reducible rfl)
  try simp only [Act.put, List.setIfInBounds_toArray, List.set_cons_zero]
  refine wpAnyT_done (by kernel_rfl) ?_ _
  have z5 : base ≤ w5.heap.size := by have := g5.only.size; omega
  have g25 : Grew w2 w5 base 5 v2 v5 (xs ++ y2 ++ y3 ++ y4 ++ bs (enc n)) := by
    have h := (g3.trans g4).trans g5
    have h := (g3.trans g4).trans g5
    exact ⟨h.own, only_step (only_drew (only_refl w2 _)) h.only (fun _ h => .inl h), h.at_⟩
  have A5 := grown_has g25 HG2.out.own z2 HA2.out
  have G5 := HG2.out.trans g25
  have hy5l : (enc n).length ≤ 10 := (enc_len n H3.out.1 H3.out.2).2
  have o5 := g5.own
  have HB5 := Lib.hid B5
  have HA5 := Lib.hid A5
  have HG5 := Lib.hid G5
  have K5 := B5.cells
  obtain ⟨_, _, _, _, _, _, _, _, _, _, c10⟩ := K5
  clear g25 A5 G5 g3 g4 K3 K4 B3 B4 S2 HG2 HB2 HA2
  go_wp2_with fail
  refine (refInt_any base v5 (xs ++ y2 ++ y3 ++ y4 ++ bs (enc n)) l.length _ o5 z5 (by omega) (by have := HN.out; omega) (by simp only [List.length_append, bs_len]; have := HX.out; omega)).mono ?_
  rintro _ w6 ⟨v6, rfl, g6, _⟩
  have B6 := Lib.hid (grown_opb g6 o5 HB5.out)
  have A6 := Lib.hid (grown_has g6 o5 z5 HA5.out)
  have G6 := HG5.out.trans g6
  have z6 : base ≤ w6.heap.size := by have := g6.only.size; omega
  have hy6l : (enc (l.length : Int)).length ≤ 10 := (enc_len _ (by omega) (by have := HN.out; omega)).2
  obtain ⟨Y, hY⟩ : ∃ Y, xs ++ y2 ++ y3 ++ y4 ++ bs (enc n) ++ bs (enc (l.length : Int)) = Y := ⟨_, rfl⟩
  have HYL : Hid (Y.length ≤ 1099000000000) := by
    unfold Hid
    rw [← hY]
    simp only [List.length_append, bs_len]
    have := HX.out
    omega
  rw [hY] at G6
  have HYE : Hid (xs ++ bs (opB d e s coll ver kind n time key text l) = Y ++ bs (dotsB l)) := by
    unfold Hid
    rw [← hY, ← HY2.out, ← HY3.out, ← HY4.out]
    simp only [opB, dotB, encs, strs, List.flatMap_cons, List.flatMap_nil, List.append_nil, bs_append, List.append_assoc]
  have HG6 := Lib.hid G6
  clear G6 hY B5 HB5 HA5 HG5 g5 g6 o5 o4 z5 c10
  have K6 := B6.out.cells
  obtain ⟨_, _, _, _, _, _, _, _, _, _, c10⟩ := K6
  go_wp2_with fail
  clear c10
  go_loopw [0, 5] (fun sv si wr => ∃ k : Nat, k ≤ l.length ∧ si = .int .i64 k ∧ Hid (Grew w wr base 5 v sv (Y ++ bs (dotsB (l.take k)))) ∧ Hid (OpB wr w.heap.size d e s coll ver kind key text n time (.slice A l.length c)) ∧ Hid (Has wr base A (dc l)) ∧ Hid (w6.heap.size ≤ wr.heap.size))
    (fun _ si _ => l.length - (intOf si).toNat)
  case atStart => exact ⟨0, Nat.zero_le _, rfl, by simpa [dotsB, bs] using HG6, B6, A6, Nat.le_refl _⟩
  case round =>
    obtain ⟨k, hk, rfl, hG, hB, hA, hz⟩ := hrel
    have c10 := hB.out.cells.2.2.2.2.2.2.2.2.2.2
    by_cases hlt : k < l.length
    · obtain ⟨x, hx⟩ : ∃ x, l[k]? = some x := ⟨_, List.getElem?_eq_getElem hlt⟩
      obtain ⟨b, off, rfl, hb, x1, x2, x3⟩ := hA.out.dot hx
      have hxe : l[k] = x := by rw [List.getElem?_eq_getElem hlt] at hx; injection hx
      have HXW := Lib.hid (hxe ▸ HL.out l[k] (List.getElem_mem hlt))
      have HSN := Lib.hid (hxe ▸ dotsB_snoc l k hlt)
      have HLK : Hid ((dotsB (l.take k)).length ≤ 30 * k) := by
        have h := dotsB_len (l.take k) (fun p hp => HL.out p (List.mem_of_mem_take hp))
        have : (l.take k).length ≤ k := List.length_take_le _ _
        unfold Hid
        omega
      clear hx hxe
      have u1 : (k : Int) < (l.length : Int) := by omega
      have u0 : (0 : Int) ≤ (k : Int) := by omega
      have hnl := HN.out
      go_wp2_with fail
      refine wp_region_late [(19, fun V => V.cell? ⟨w.heap.size, 10, none⟩ = some (.slice (some ⟨b, off, none⟩) l.length c) ∧ V.cell? ⟨b, off + k * 3, none⟩ = some (.int .i64 x.1) ∧ V.cell? ⟨b, off + k * 3 + 1, none⟩ = some (.int .i64 x.2.1) ∧ V.cell? ⟨b, off + k * 3 + 2, none⟩ = some (.int .i64 x.2.2))] (by kernel_rfl) ?_
      refine wpAnyT_pure (i := 0) (oi := { dst := some 48, op := Op.move (Operand.tmp 0), type := 35, pos := "ref.go:84", after := #[], guard := none }) (v := ?_) rfl (by kernel_rfl) (by kernel_rfl) (by kernel_rfl) (by kernel_rfl) (fun _ _ _ h => h) (Or.inl ⟨by rfl, ?_⟩) (holds1 (fun _ => (show wr.drew.cell? ⟨w.heap.size, 10, none⟩ = some (.slice (some ⟨b, off, none⟩) l.length c) ∧ wr.drew.cell? ⟨b, off + k * 3, none⟩ = some (.int .i64 x.1) ∧ wr.drew.cell? ⟨b, off + k * 3 + 1, none⟩ = some (.int .i64 x.2.1) ∧ wr.drew.cell? ⟨b, off + k * 3 + 2, none⟩ = some (.int .i64 x.2.2) from ⟨c10, x1, x2, x3⟩))) ?_
      rotate_left
      · (intro W; go_simp; try with_reducible rfl)
      try simp only [Act.put, List.setIfInBounds_toArray, List.set_cons_zero, List.set_cons_succ]
      refine wpAnyT_pure (i := 1) (oi := { dst := some 49, op := Op.fieldAddr 26 (Operand.tmp 3) 8, type := 0, pos := "ref.go:84", after := #[], guard := none }) (v := ?_) rfl (by kernel_rfl) (by kernel_rfl) (by kernel_rfl) (by kernel_rfl) (fun _ _ _ h => h) (Or.inl ⟨by rfl, ?_⟩) (holds1 (fun _ => (show wr.drew.cell? ⟨w.heap.size, 10, none⟩ = some (.slice (some ⟨b, off, none⟩) l.length c) ∧ wr.drew.cell? ⟨b, off + k * 3, none⟩ = some (.int .i64 x.1) ∧ wr.drew.cell? ⟨b, off + k * 3 + 1, none⟩ = some (.int .i64 x.2.1) ∧ wr.drew.cell? ⟨b, off + k * 3 + 2, none⟩ = some (.int .i64 x.2.2) from ⟨c10, x1, x2, x3⟩))) ?_
      rotate_left
      · (intro W; go_simp; try with_reducible rfl)
      try simp only [Act.put, List.setIfInBounds_toArray, List.set_cons_zero, List.set_cons_succ]
      refine wpAnyT_take 9 19 (i := 2) (oi := { dst := some 50, op := Op.load 24 (Operand.tmp 49), type := 24, pos := "ref.go:84", after := #[{ on := 1, ground := Ground.data }], guard := none }) (v := ?_) (.head _) rfl (by kernel_rfl) (by kernel_rfl) (by kernel_rfl) (by kernel_rfl) (by kernel_rfl) (by kernel_rfl) (by rfl) (fun _ _ _ h => h) (by rfl) ?_ (holds1 (fun _ => (show wr.drew.cell? ⟨w.heap.size, 10, none⟩ = some (.slice (some ⟨b, off, none⟩) l.length c) ∧ wr.drew.cell? ⟨b, off + k * 3, none⟩ = some (.int .i64 x.1) ∧ wr.drew.cell? ⟨b, off + k * 3 + 1, none⟩ = some (.int .i64 x.2.1) ∧ wr.drew.cell? ⟨b, off + k * 3 + 2, none⟩ = some (.int .i64 x.2.2) from ⟨c10, x1, x2, x3⟩))) ?_
      rotate_left
      · (intro W hSw; (try dsimp only at hSw); go_simp; try with_reducible rfl)
      try simp only [Act.put, List.setIfInBounds_toArray, List.set_cons_zero, List.set_cons_succ]
      refine wpAnyT_pure (i := 3) (oi := { dst := some 51, op := Op.move (Operand.tmp 5), type := 3, pos := "ref.go:84", after := #[], guard := none }) (v := ?_) rfl (by kernel_rfl) (by kernel_rfl) (by kernel_rfl) (by kernel_rfl) (fun _ _ _ h => h) (Or.inl ⟨by rfl, ?_⟩) (holds1 (fun _ => (show wr.drew.cell? ⟨w.heap.size, 10, none⟩ = some (.slice (some ⟨b, off, none⟩) l.length c) ∧ wr.drew.cell? ⟨b, off + k * 3, none⟩ = some (.int .i64 x.1) ∧ wr.drew.cell? ⟨b, off + k * 3 + 1, none⟩ = some (.int .i64 x.2.1) ∧ wr.drew.cell? ⟨b, off + k * 3 + 2, none⟩ = some (.int .i64 x.2.2) from ⟨c10, x1, x2, x3⟩))) ?_
      rotate_left
      · (intro W; go_simp; try with_reducible rfl)
      try simp only [Act.put, List.setIfInBounds_toArray, List.set_cons_zero, List.set_cons_succ]
      refine wpAnyT_pure (i := 4) (oi := { dst := some 52, op := Op.indexAddr 24 (Operand.tmp 50) (Operand.tmp 51), type := 0, pos := "ref.go:84", after := #[{ on := 2, ground := Ground.data }, { on := 3, ground := Ground.data }], guard := none }) (v := ?_) rfl (by kernel_rfl) (by kernel_rfl) (by kernel_rfl) (by kernel_rfl) (fun _ _ _ h => h) (Or.inl ⟨by rfl, ?_⟩) (holds1 (fun _ => (show wr.drew.cell? ⟨w.heap.size, 10, none⟩ = some (.slice (some ⟨b, off, none⟩) l.length c) ∧ wr.drew.cell? ⟨b, off + k * 3, none⟩ = some (.int .i64 x.1) ∧ wr.drew.cell? ⟨b, off + k * 3 + 1, none⟩ = some (.int .i64 x.2.1) ∧ wr.drew.cell? ⟨b, off + k * 3 + 2, none⟩ = some (.int .i64 x.2.2) from ⟨c10, x1, x2, x3⟩))) ?_
      rotate_left
      · (intro W; go_simp; try with_reducible rfl)
      try simp only [Act.put, List.setIfInBounds_toArray, List.set_cons_zero, List.set_cons_succ]
      refine wpAnyT_pure (i := 5) (oi := { dst := some 53, op := Op.fieldAddr 23 (Operand.tmp 52) 0, type := 0, pos := "ref.go:84", after := #[{ on := 4, ground := Ground.data }], guard := none }) (v := ?_) rfl (by kernel_rfl) (by kernel_rfl) (by kernel_rfl) (by kernel_rfl) (fun _ _ _ h => h) (Or.inl ⟨by rfl, ?_⟩) (holds1 (fun _ => (show wr.drew.cell? ⟨w.heap.size, 10, none⟩ = some (.slice (some ⟨b, off, none⟩) l.length c) ∧ wr.drew.cell? ⟨b, off + k * 3, none⟩ = some (.int .i64 x.1) ∧ wr.drew.cell? ⟨b, off + k * 3 + 1, none⟩ = some (.int .i64 x.2.1) ∧ wr.drew.cell? ⟨b, off + k * 3 + 2, none⟩ = some (.int .i64 x.2.2) from ⟨c10, x1, x2, x3⟩))) ?_
      rotate_left
      · (intro W; go_simp; try with_reducible rfl)
      try simp only [Act.put, List.setIfInBounds_toArray, List.set_cons_zero, List.set_cons_succ]
      refine wpAnyT_take 9 19 (i := 6) (oi := { dst := some 54, op := Op.load 3 (Operand.tmp 53), type := 3, pos := "ref.go:84", after := #[{ on := 5, ground := Ground.data }], guard := none }) (v := ?_) (.head _) rfl (by kernel_rfl) (by kernel_rfl) (by kernel_rfl) (by kernel_rfl) (by kernel_rfl) (by kernel_rfl) (by rfl) (fun _ _ _ h => h) (by rfl) ?_ (holds1 (fun _ => (show wr.drew.cell? ⟨w.heap.size, 10, none⟩ = some (.slice (some ⟨b, off, none⟩) l.length c) ∧ wr.drew.cell? ⟨b, off + k * 3, none⟩ = some (.int .i64 x.1) ∧ wr.drew.cell? ⟨b, off + k * 3 + 1, none⟩ = some (.int .i64 x.2.1) ∧ wr.drew.cell? ⟨b, off + k * 3 + 2, none⟩ = some (.int .i64 x.2.2) from ⟨c10, x1, x2, x3⟩))) ?_
      rotate_left
      · (intro W hSw; (try dsimp only at hSw); go_simp; try with_reducible rfl)
      try simp only [Act.put, List.setIfInBounds_toArray, List.set_cons_zero, List.set_cons_succ]
      refine wpAnyT_pure (i := 7) (oi := { dst := some 55, op := Op.fieldAddr 26 (Operand.tmp 3) 8, type := 0, pos := "ref.go:84", after := #[], guard := none }) (v := ?_) rfl (by kernel_rfl) (by kernel_rfl) (by kernel_rfl) (by kernel_rfl) (fun _ _ _ h => h) (Or.inl ⟨by rfl, ?_⟩) (holds1 (fun _ => (show wr.drew.cell? ⟨w.heap.size, 10, none⟩ = some (.slice (some ⟨b, off, none⟩) l.length c) ∧ wr.drew.cell? ⟨b, off + k * 3, none⟩ = some (.int .i64 x.1) ∧ wr.drew.cell? ⟨b, off + k * 3 + 1, none⟩ = some (.int .i64 x.2.1) ∧ wr.drew.cell? ⟨b, off + k * 3 + 2, none⟩ = some (.int .i64 x.2.2) from ⟨c10, x1, x2, x3⟩))) ?_
      rotate_left
      · (intro W; go_simp; try with_reducible rfl)
      try simp only [Act.put, List.setIfInBounds_toArray, List.set_cons_zero, List.set_cons_succ]
      refine wpAnyT_take 9 19 (i := 8) (oi := { dst := some 56, op := Op.load 24 (Operand.tmp 55), type := 24, pos := "ref.go:84", after := #[{ on := 7, ground := Ground.data }], guard := none }) (v := ?_) (.head _) rfl (by kernel_rfl) (by kernel_rfl) (by kernel_rfl) (by kernel_rfl) (by kernel_rfl) (by kernel_rfl) (by rfl) (fun _ _ _ h => h) (by rfl) ?_ (holds1 (fun _ => (show wr.drew.cell? ⟨w.heap.size, 10, none⟩ = some (.slice (some ⟨b, off, none⟩) l.length c) ∧ wr.drew.cell? ⟨b, off + k * 3, none⟩ = some (.int .i64 x.1) ∧ wr.drew.cell? ⟨b, off + k * 3 + 1, none⟩ = some (.int .i64 x.2.1) ∧ wr.drew.cell? ⟨b, off + k * 3 + 2, none⟩ = some (.int .i64 x.2.2) from ⟨c10, x1, x2, x3⟩))) ?_
      rotate_left
      · (intro W hSw; (try dsimp only at hSw); go_simp; try with_reducible rfl)
      try simp only [Act.put, List.setIfInBounds_toArray, List.set_cons_zero, List.set_cons_succ]
      refine wpAnyT_pure (i := 9) (oi := { dst := some 57, op := Op.move (Operand.tmp 5), type := 3, pos := "ref.go:84", after := #[], guard := none }) (v := ?_) rfl (by kernel_rfl) (by kernel_rfl) (by kernel_rfl) (by kernel_rfl) (fun _ _ _ h => h) (Or.inl ⟨by rfl, ?_⟩) (holds1 (fun _ => (show wr.drew.cell? ⟨w.heap.size, 10, none⟩ = some (.slice (some ⟨b, off, none⟩) l.length c) ∧ wr.drew.cell? ⟨b, off + k * 3, none⟩ = some (.int .i64 x.1) ∧ wr.drew.cell? ⟨b, off + k * 3 + 1, none⟩ = some (.int .i64 x.2.1) ∧ wr.drew.cell? ⟨b, off + k * 3 + 2, none⟩ = some (.int .i64 x.2.2) from ⟨c10, x1, x2, x3⟩))) ?_
      rotate_left
      · (intro W; go_simp; try with_reducible rfl)
      try simp only [Act.put, List.setIfInBounds_toArray, List.set_cons_zero, List.set_cons_succ]
      refine wpAnyT_pure (i := 10) (oi := { dst := some 58, op := Op.indexAddr 24 (Operand.tmp 56) (Operand.tmp 57), type := 0, pos := "ref.go:84", after := #[{ on := 8, ground := Ground.data }, { on := 9, ground := Ground.data }], guard := none }) (v := ?_) rfl (by kernel_rfl) (by kernel_rfl) (by kernel_rfl) (by kernel_rfl) (fun _ _ _ h => h) (Or.inl ⟨by rfl, ?_⟩) (holds1 (fun _ => (show wr.drew.cell? ⟨w.heap.size, 10, none⟩ = some (.slice (some ⟨b, off, none⟩) l.length c) ∧ wr.drew.cell? ⟨b, off + k * 3, none⟩ = some (.int .i64 x.1) ∧ wr.drew.cell? ⟨b, off + k * 3 + 1, none⟩ = some (.int .i64 x.2.1) ∧ wr.drew.cell? ⟨b, off + k * 3 + 2, none⟩ = some (.int .i64 x.2.2) from ⟨c10, x1, x2, x3⟩))) ?_
      rotate_left
      · (intro W; go_simp; try with_reducible rfl)
      try simp only [Act.put, List.setIfInBounds_toArray, List.set_cons_zero, List.set_cons_succ]
      refine wpAnyT_pure (i := 11) (oi := { dst := some 59, op := Op.fieldAddr 23 (Operand.tmp 58) 1, type := 0, pos := "ref.go:84", after := #[{ on := 10, ground := Ground.data }], guard := none }) (v := ?_) rfl (by kernel_rfl) (by kernel_rfl) (by kernel_rfl) (by kernel_rfl) (fun _ _ _ h => h) (Or.inl ⟨by rfl, ?_⟩) (holds1 (fun _ => (show wr.drew.cell? ⟨w.heap.size, 10, none⟩ = some (.slice (some ⟨b, off, none⟩) l.length c) ∧ wr.drew.cell? ⟨b, off + k * 3, none⟩ = some (.int .i64 x.1) ∧ wr.drew.cell? ⟨b, off + k * 3 + 1, none⟩ = some (.int .i64 x.2.1) ∧ wr.drew.cell? ⟨b, off + k * 3 + 2, none⟩ = some (.int .i64 x.2.2) from ⟨c10, x1, x2, x3⟩))) ?_
      rotate_left
      · (intro W; go_simp; try with_reducible rfl)
      try simp only [Act.put, List.setIfInBounds_toArray, List.set_cons_zero, List.set_cons_succ]
      refine wpAnyT_take 9 19 (i := 12) (oi := { dst := some 60, op := Op.load 3 (Operand.tmp 59), type := 3, pos := "ref.go:84", after := #[{ on := 11, ground := Ground.data }], guard := none }) (v := ?_) (.head _) rfl (by kernel_rfl) (by kernel_rfl) (by kernel_rfl) (by kernel_rfl) (by kernel_rfl) (by kernel_rfl) (by rfl) (fun _ _ _ h => h) (by rfl) ?_ (holds1 (fun _ => (show wr.drew.cell? ⟨w.heap.size, 10, none⟩ = some (.slice (some ⟨b, off, none⟩) l.length c) ∧ wr.drew.cell? ⟨b, off + k * 3, none⟩ = some (.int .i64 x.1) ∧ wr.drew.cell? ⟨b, off + k * 3 + 1, none⟩ = some (.int .i64 x.2.1) ∧ wr.drew.cell? ⟨b, off + k * 3 + 2, none⟩ = some (.int .i64 x.2.2) from ⟨c10, x1, x2, x3⟩))) ?_
      rotate_left
      · (intro W hSw; (try dsimp only at hSw); go_simp; try with_reducible rfl)
      try simp only [Act.put, List.setIfInBounds_toArray, List.set_cons_zero, List.set_cons_succ]
      refine wpAnyT_pure (i := 13) (oi := { dst := some 61, op := Op.fieldAddr 26 (Operand.tmp 3) 8, type := 0, pos := "ref.go:84", after := #[], guard := none }) (v := ?_) rfl (by kernel_rfl) (by kernel_rfl) (by kernel_rfl) (by kernel_rfl) (fun _ _ _ h => h) (Or.inl ⟨by rfl, ?_⟩) (holds1 (fun _ => (show wr.drew.cell? ⟨w.heap.size, 10, none⟩ = some (.slice (some ⟨b, off, none⟩) l.length c) ∧ wr.drew.cell? ⟨b, off + k * 3, none⟩ = some (.int .i64 x.1) ∧ wr.drew.cell? ⟨b, off + k * 3 + 1, none⟩ = some (.int .i64 x.2.1) ∧ wr.drew.cell? ⟨b, off + k * 3 + 2, none⟩ = some (.int .i64 x.2.2) from ⟨c10, x1, x2, x3⟩))) ?_
      rotate_left
      · (intro W; go_simp; try with_reducible rfl)
      try simp only [Act.put, List.setIfInBounds_toArray, List.set_cons_zero, List.set_cons_succ]
      refine wpAnyT_take 9 19 (i := 14) (oi := { dst := some 62, op := Op.load 24 (Operand.tmp 61), type := 24, pos := "ref.go:84", after := #[{ on := 13, ground := Ground.data }], guard := none }) (v := ?_) (.head _) rfl (by kernel_rfl) (by kernel_rfl) (by kernel_rfl) (by kernel_rfl) (by kernel_rfl) (by kernel_rfl) (by rfl) (fun _ _ _ h => h) (by rfl) ?_ (holds1 (fun _ => (show wr.drew.cell? ⟨w.heap.size, 10, none⟩ = some (.slice (some ⟨b, off, none⟩) l.length c) ∧ wr.drew.cell? ⟨b, off + k * 3, none⟩ = some (.int .i64 x.1) ∧ wr.drew.cell? ⟨b, off + k * 3 + 1, none⟩ = some (.int .i64 x.2.1) ∧ wr.drew.cell? ⟨b, off + k * 3 + 2, none⟩ = some (.int .i64 x.2.2) from ⟨c10, x1, x2, x3⟩))) ?_
      rotate_left
      · (intro W hSw; (try dsimp only at hSw); go_simp; try with_reducible rfl)
      try simp only [Act.put, List.setIfInBounds_toArray, List.set_cons_zero, List.set_cons_succ]
      refine wpAnyT_pure (i := 15) (oi := { dst := some 63, op := Op.move (Operand.tmp 5), type := 3, pos := "ref.go:84", after := #[], guard := none }) (v := ?_) rfl (by kernel_rfl) (by kernel_rfl) (by kernel_rfl) (by kernel_rfl) (fun _ _ _ h => h) (Or.inl ⟨by rfl, ?_⟩) (holds1 (fun _ => (show wr.drew.cell? ⟨w.heap.size, 10, none⟩ = some (.slice (some ⟨b, off, none⟩) l.length c) ∧ wr.drew.cell? ⟨b, off + k * 3, none⟩ = some (.int .i64 x.1) ∧ wr.drew.cell? ⟨b, off + k * 3 + 1, none⟩ = some (.int .i64 x.2.1) ∧ wr.drew.cell? ⟨b, off + k * 3 + 2, none⟩ = some (.int .i64 x.2.2) from ⟨c10, x1, x2, x3⟩))) ?_
      rotate_left
      · (intro W; go_simp; try with_reducible rfl)
      try simp only [Act.put, List.setIfInBounds_toArray, List.set_cons_zero, List.set_cons_succ]
      refine wpAnyT_pure (i := 16) (oi := { dst := some 64, op := Op.indexAddr 24 (Operand.tmp 62) (Operand.tmp 63), type := 0, pos := "ref.go:84", after := #[{ on := 14, ground := Ground.data }, { on := 15, ground := Ground.data }], guard := none }) (v := ?_) rfl (by kernel_rfl) (by kernel_rfl) (by kernel_rfl) (by kernel_rfl) (fun _ _ _ h => h) (Or.inl ⟨by rfl, ?_⟩) (holds1 (fun _ => (show wr.drew.cell? ⟨w.heap.size, 10, none⟩ = some (.slice (some ⟨b, off, none⟩) l.length c) ∧ wr.drew.cell? ⟨b, off + k * 3, none⟩ = some (.int .i64 x.1) ∧ wr.drew.cell? ⟨b, off + k * 3 + 1, none⟩ = some (.int .i64 x.2.1) ∧ wr.drew.cell? ⟨b, off + k * 3 + 2, none⟩ = some (.int .i64 x.2.2) from ⟨c10, x1, x2, x3⟩))) ?_
      rotate_left
      · (intro W; go_simp; try with_reducible rfl)
      try simp only [Act.put, List.setIfInBounds_toArray, List.set_cons_zero, List.set_cons_succ]
      refine wpAnyT_pure (i := 17) (oi := { dst := some 65, op := Op.fieldAddr 23 (Operand.tmp 64) 2, type := 0, pos := "ref.go:84", after := #[{ on := 16, ground := Ground.data }], guard := none }) (v := ?_) rfl (by kernel_rfl) (by kernel_rfl) (by kernel_rfl) (by kernel_rfl) (fun _ _ _ h => h) (Or.inl ⟨by rfl, ?_⟩) (holds1 (fun _ => (show wr.drew.cell? ⟨w.heap.size, 10, none⟩ = some (.slice (some ⟨b, off, none⟩) l.length c) ∧ wr.drew.cell? ⟨b, off + k * 3, none⟩ = some (.int .i64 x.1) ∧ wr.drew.cell? ⟨b, off + k * 3 + 1, none⟩ = some (.int .i64 x.2.1) ∧ wr.drew.cell? ⟨b, off + k * 3 + 2, none⟩ = some (.int .i64 x.2.2) from ⟨c10, x1, x2, x3⟩))) ?_
      rotate_left
      · (intro W; go_simp; try with_reducible rfl)
      try simp only [Act.put, List.setIfInBounds_toArray, List.set_cons_zero, List.set_cons_succ]
      refine wpAnyT_take 9 19 (i := 18) (oi := { dst := some 66, op := Op.load 3 (Operand.tmp 65), type := 3, pos := "ref.go:84", after := #[{ on := 17, ground := Ground.data }], guard := none }) (v := ?_) (.head _) rfl (by kernel_rfl) (by kernel_rfl) (by kernel_rfl) (by kernel_rfl) (by kernel_rfl) (by kernel_rfl) (by rfl) (fun _ _ _ h => h) (by rfl) ?_ (holds1 (fun _ => (show wr.drew.cell? ⟨w.heap.size, 10, none⟩ = some (.slice (some ⟨b, off, none⟩) l.length c) ∧ wr.drew.cell? ⟨b, off + k * 3, none⟩ = some (.int .i64 x.1) ∧ wr.drew.cell? ⟨b, off + k * 3 + 1, none⟩ = some (.int .i64 x.2.1) ∧ wr.drew.cell? ⟨b, off + k * 3 + 2, none⟩ = some (.int .i64 x.2.2) from ⟨c10, x1, x2, x3⟩))) ?_
      rotate_left
      · (intro W hSw; (try dsimp only at hSw); go_simp; try with_reducible rfl)
      try simp only [Act.put, List.setIfInBounds_toArray, List.set_cons_zero, List.set_cons_succ]
      refine wpAnyT_ready (rs := [19]) (by kernel_rfl) (by simp) (AllT.cons (o := { dst := some 67, op := Op.buildSlice 43 3 #[(0, Operand.tmp 54), (1, Operand.tmp 60), (2, Operand.tmp 66)], type := 43, pos := "ref.go:84", after := #[{ on := 6, ground := Ground.data }, { on := 12, ground := Ground.data }, { on := 18, ground := Ground.data }], guard := none }) rfl (fun K hK => ?_) AllT.nil)
      go_simp
      obtain ⟨wb, hwb⟩ : ∃ Z, (wr.alloc (.cells #[.int .i64 x.1, .int .i64 x.2.1, .int .i64 x.2.2] 3)).drew = Z := ⟨_, rfl⟩
      have bb : wb.heap[wr.heap.size]? = some (.cells (is [x.1, x.2.1, x.2.2]).toArray 3 (0, 0)) := by subst hwb; exact heap_alloc_new wr _
      have gb : wr.grownBy wb none := by subst hwb; exact only_drew (only_alloc (only_refl wr none) _)
      have ob := own_off hG.out.own gb
      rw [hwb]
      clear hwb
      refine hK.out _ _ (holds1 (late_no (by kernel_rfl))) ?_
      clear hK K
      try simp only [Act.put, List.setIfInBounds_toArray, List.set_cons_zero, List.set_cons_succ]
      refine wpAnyT_ready (rs := [20]) (by kernel_rfl) (by simp) (AllT.cons (o := { dst := some 68, op := Op.call { callee := Callee.value (Operand.func 33), args := #[Operand.tmp 48, Operand.tmp 67], argTypes := #[35, 43] }, type := 35, pos := "ref.go:84", after := #[{ on := 0, ground := Ground.data }, { on := 19, ground := Ground.data }], guard := none }) rfl (fun K hK => ?_) AllT.nil)
      go_simp
      go_at_call 33
      refine (nums_any base wr.heap.size _ (Y ++ bs (dotsB (l.take k))) [x.1, x.2.1, x.2.2] wb ob (by have := gb.size; have := hz.out; omega) bb (fun m hm => by
        simp only [List.mem_cons, List.not_mem_nil, or_false] at hm
        rcases hm with rfl | rfl | rfl
        · exact HXW.out.1
        · exact HXW.out.2.1
        · exact HXW.out.2.2) (by rw [List.length_append, bs_len]; have := HYL.out; have := HLK.out; omega) (by simp)).mono ?_
      rintro _ wc ⟨v7, rfl, g7⟩
      refine hK.out _ _ (holds1 (late_no (by kernel_rfl))) ?_
      clear hK K
      try simp only [Act.put, List.setIfInBounds_toArray, List.set_cons_zero, List.set_cons_succ]
      refine wpAnyT_pure (i := 21) (oi := { dst := some 0, op := Op.assign (Operand.tmp 68), type := 35, pos := "ref.go:84", after := #[{ on := 20, ground := Ground.data }, { on := 20, ground := Ground.chain }, { on := 0, ground := Ground.phase }, { on := 1, ground := Ground.phase }, { on := 2, ground := Ground.phase }, { on := 3, ground := Ground.phase }, { on := 4, ground := Ground.phase }, { on := 5, ground := Ground.phase }, { on := 6, ground := Ground.phase }, { on := 7, ground := Ground.phase }, { on := 8, ground := Ground.phase }, { on := 9, ground := Ground.phase }, { on := 10, ground := Ground.phase }, { on := 11, ground := Ground.phase }, { on := 12, ground := Ground.phase }, { on := 13, ground := Ground.phase }, { on := 14, ground := Ground.phase }, { on := 15, ground := Ground.phase }, { on := 16, ground := Ground.phase }, { on := 17, ground := Ground.phase }, { on := 18, ground := Ground.phase }, { on := 19, ground := Ground.phase }, { on := 20, ground := Ground.phase }], guard := none }) (v := ?_) rfl (by kernel_rfl) (by kernel_rfl) (by kernel_rfl) (by kernel_rfl) (fun _ _ _ h => h) (Or.inl ⟨by rfl, ?_⟩) (holds1 (late_no (by kernel_rfl))) ?_
      rotate_left
      · (intro W; go_simp; try with_reducible rfl)
      try simp only [Act.put, List.setIfInBounds_toArray, List.set_cons_zero]
      refine wpAnyT_done (by kernel_rfl) ?_ _
      go_wp2_with fail
      have B7 := grown_opb g7 ob (hB.out.other gb (by simp))
      have A7 := grown_has g7 ob (by have := gb.size; have := hz.out; omega) (hA.out.only gb (by have := hz.out; omega) (fun _ e => by cases e))
      have G7 : Grew wr wc base 5 _ v7 (Y ++ bs (dotsB (l.take k)) ++ bs (encs [x.1, x.2.1, x.2.2])) := ⟨g7.own, only_step (only_none gb _) g7.only (fun _ h => .inl h), by
        rcases g7.at_ with h | ⟨q, h, hq⟩
        · exact .inl h
        · exact .inr ⟨q, h, by have := gb.size; omega⟩⟩
      go_roundw
      case rel =>
        refine ⟨k + 1, hlt, by go_num, ?_, B7, A7, by unfold Hid; have := gb.size; have := g7.only.size; have := hz.out; omega⟩
        have h := hG.out.trans G7
        unfold Hid
        rw [HSN.out, bs_append, ← List.append_assoc]
        exact h
      case measure => simp [intOf]; omega
    · have hkl : k = l.length := by omega
      subst hkl
      go_wp2_with fail
      go_ret
      refine ⟨_, rfl, ?_⟩
      have := hG.out
      rw [List.take_length] at this
      rw [HYE.out]
      exact this
end Go.Proofs.Ytcmpeohooiehcaa
