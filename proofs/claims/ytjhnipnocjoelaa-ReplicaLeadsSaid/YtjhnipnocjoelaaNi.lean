/- Pieces of logs, and (*draft).owe: what a node lacks is sent to it. Conditions: numbers below 2^40. -/
import Derived.Test.YtjhnipnocjoelaaNh
namespace Go.Proofs.Ytjhnipnocjoelaa
open Go.RowKit Go.Deep
theorem own_cap_w {w : World} {base e s n c : Nat} {A : Option Addr} {xs : List Value} (h : w.ownsRow base e s (.slice A n c) n xs) : n ≤ c := by
  rcases h.2 with ⟨h, h0⟩ | ⟨q, cap, cur, h, _, _, hn, _⟩
  · omega
  · injection h with h1 h2 h3; omega
set_option maxRecDepth 100000 in
theorem slice_e {A : Option Addr} {n c : Nat} (hc : n ≤ c) (lo hi : Nat) (h1 : lo ≤ hi) (h2 : hi ≤ n) : ∃ A', (∀ W, (Instr.sliceAt 23 (.slice A n c) (some (.int .i64 (lo : Int))) (some (.int .i64 (hi : Int))) none).run Try.prog W = .ok (.slice A' (hi - lo) (c - lo)) W) ∧
    ∀ (W : World) (lim : Nat) (l : List (Int × ByteArray)), l.length = n → Has W lim A (es l) → Has W lim A' (es ((l.take hi).drop lo)) := by
  have hu : Try.prog.underlying 23 = some (.slice (Try.prog.elem 23)) := Try.underlying23
  refine ⟨if c = lo then A else A.map (·.add (lo * 2)), fun W => ?_, fun W lim l hl hH => ?_⟩
  · rw [run_sliceAt_slice (h := hu), run_slice_lh (ht := hu) (h0 := by omega) (h1 := by omega) (h2 := by omega)]
    rw [show Try.prog.elem 23 = 49 by rfl, Try.sizeOf49]
    simp [Result.andThen, sliced]
  · by_cases hck : c = lo
    · rw [List.drop_eq_nil_of_le (by rw [List.length_take]; omega)]; exact Has.nil
    · rw [if_neg hck, es_drop, es_take]
      rcases hH with h0 | ⟨b, off, rfl, hb, hcc⟩
      · rw [h0]; exact .inl (by simp)
      · refine .inr ⟨b, off + lo * 2, by simp [Addr.add_lit], hb, fun j u hu => ?_⟩
        rw [List.getElem?_drop, List.getElem?_take] at hu
        split at hu
        · rw [Nat.add_assoc]; exact hcc _ u hu
        · cases hu
set_option maxRecDepth 100000 in
theorem slice_from {A : Option Addr} {n c : Nat} (hc : n ≤ c) (lo : Nat) (h1 : lo ≤ n) : ∃ A', (∀ W, (Instr.sliceAt 23 (.slice A n c) (some (.int .i64 (lo : Int))) none none).run Try.prog W = .ok (.slice A' (n - lo) (c - lo)) W) ∧
    ∀ (W : World) (lim : Nat) (l : List (Int × ByteArray)), l.length = n → Has W lim A (es l) → Has W lim A' (es (l.drop lo)) := by
  have hu : Try.prog.underlying 23 = some (.slice (Try.prog.elem 23)) := Try.underlying23
  refine ⟨if c = lo then A else A.map (·.add (lo * 2)), fun W => ?_, fun W lim l hl hH => ?_⟩
  · rw [run_sliceAt_slice (h := hu), run_slice_l (ht := hu) (h0 := by omega) (h1 := by omega)]
    rw [show Try.prog.elem 23 = 49 by rfl, Try.sizeOf49]
    simp [Result.andThen, sliced]
  · by_cases hck : c = lo
    · rw [List.drop_eq_nil_of_le (by omega)]; exact Has.nil
    · rw [if_neg hck, es_drop]
      rcases hH with h0 | ⟨b, off, rfl, hb, hcc⟩
      · rw [h0]; exact .inl (by simp)
      · refine .inr ⟨b, off + lo * 2, by simp [Addr.add_lit], hb, fun j u hu => ?_⟩
        rw [List.getElem?_drop] at hu
        rw [Nat.add_assoc]; exact hcc _ u hu
/-- The next one for a node, as far as the leader knows. -/
def Nd.nx (n : Nd) (to_ : Nat) : Int := match to_ with | 0 => n.x0 | 1 => n.x1 | _ => n.x2
def zeroM : Mg := ⟨0, 0, 0, 0, 0, 0, 0, false, .slice none 0 0, { data := #[] }⟩
def Nd.snapM (n : Nd) (to_ : Nat) : Mg := { zeroM with kind := 5, fr := n.id, dst := to_, term := n.term, index := n.base, lt := n.bt, snap := n.snap }
def Nd.fromN (n : Nd) (to_ : Nat) : Nat := min (n.nx to_ - 1 - n.base).toNat n.log.length
def Nd.cnt (n : Nd) (to_ : Nat) : Nat := min (n.fromN to_ + 8) n.log.length - n.fromN to_
def Nd.addM (n : Nd) (to_ : Nat) (e : Value) : Mg := { zeroM with kind := 3, fr := n.id, dst := to_, term := n.term, index := n.nx to_ - 1, lt := (n.tA (n.nx to_ - 1)).1, cm := n.cm, ent := e }
theorem DrV.nxc {w : World} {P : Nat → Prop} {g : Nat} {n : Nd} {L M : Value} {S : List Mg} (h : DrV w P g n L S M) (to_ : Nat) (ht : to_ < 3) : w.cell? ⟨g, 13 + to_, none⟩ = some (.int .i64 (n.nx to_)) := by
  obtain ⟨_, _, _, _, _, _, _, _, _, _, _, _, _, a, b, c, _⟩ := h.all
  match to_, ht with
  | 0, _ => exact a
  | 1, _ => exact b
  | 2, _ => exact c
theorem DrV.drew {w : World} {P : Nat → Prop} {g : Nat} {n : Nd} {L M : Value} {S : List Mg} (h : DrV w P g n L S M) : DrV w.drew P g n L S M := h.grow (only_drew (only_refl w none))
set_option maxRecDepth 100000 in
set_option maxHeartbeats 4000000 in
theorem owe_snap (w : World) (P : Nat → Prop) (g : Nat) (n : Nd) (S : List Mg) (k : Nat) (hk3 : k < 3) (hD : Dr w P g n S) (hS : S.length ≤ 1048576) (hx : n.nx k ≤ n.base) :
    Calls Try.prog 45 #[.pointer (some ⟨g, 0, none⟩), .int .i64 k] w fun e w' => e = .returned (.tuple #[]) ∧ Dr w' P g n (S ++ [n.snapM k]) ∧ Kept P w w' := by
  have HD0 := Lib.hid hD
  have SD : Hid (∀ W, Dr W P g n S → Calls Try.prog 61 #[.pointer (some ⟨g, 0, none⟩), .int .i64 k, (Mg.mk 5 0 0 0 n.base n.bt 0 false (.slice none 0 0) n.snap).val] W fun e w' => e = .returned (.tuple #[]) ∧ Dr w' P g n (S ++ [n.snapM k]) ∧ Kept P W w') := fun W h => send_any W P g n S k _ h ⟨none, 0, 0, rfl⟩ hS
  unfold Mg.val at SD
  obtain ⟨L, M, hD⟩ := hD
  obtain ⟨nx, hnx⟩ : ∃ x, n.nx k = x := ⟨_, rfl⟩
  have cx := hD.nxc k hk3
  rw [hnx] at cx hx
  have t0 : (0 : Int) ≤ (k : Int) := by omega
  have t1 : (k : Int) < 3 := by omega
  have HK := Lib.hid hk3
  obtain ⟨c0, c1, c2, c3, c4, c5, _⟩ := hD.all
  clear hD hnx hk3 hS
  go_enter Try.func45, Try.ntmps45
  go_upto_region 2 with fail
  refine wp_region_late [(18, fun V => V.cell? ⟨g, 3, none⟩ = some (.int .i64 n.base) ∧ V.cell? ⟨g, 4, none⟩ = some (.int .i64 n.bt) ∧ V.cell? ⟨g, 5, none⟩ = some (.string n.snap))] (by kernel_rfl) ?_
  refine wpAnyT_pure (i := 0) (oi := { dst := some 23, op := Op.move (Operand.tmp 0), type := 83, pos := "draft.go:53", after := #[], guard := none }) (v := ?_) rfl (by kernel_rfl) (by kernel_rfl) (by kernel_rfl) (by kernel_rfl) (fun _ _ _ h => h) (Or.inl ⟨by rfl, ?_⟩) (holds1 (fun _ => (show w.drew.cell? ⟨g, 3, none⟩ = some (.int .i64 n.base) ∧ w.drew.cell? ⟨g, 4, none⟩ = some (.int .i64 n.bt) ∧ w.drew.cell? ⟨g, 5, none⟩ = some (.string n.snap) from ⟨c3, c4, c5⟩))) ?_
  rotate_left
  · (intro W; go_simp; try with_reducible rfl)
  try simp only [Act.put, List.setIfInBounds_toArray, List.set_cons_zero, List.set_cons_succ]
  refine wpAnyT_pure (i := 1) (oi := { dst := some 24, op := Op.move (Operand.tmp 1), type := 3, pos := "draft.go:53", after := #[], guard := none }) (v := ?_) rfl (by kernel_rfl) (by kernel_rfl) (by kernel_rfl) (by kernel_rfl) (fun _ _ _ h => h) (Or.inl ⟨by rfl, ?_⟩) (holds1 (fun _ => (show w.drew.cell? ⟨g, 3, none⟩ = some (.int .i64 n.base) ∧ w.drew.cell? ⟨g, 4, none⟩ = some (.int .i64 n.bt) ∧ w.drew.cell? ⟨g, 5, none⟩ = some (.string n.snap) from ⟨c3, c4, c5⟩))) ?_
  rotate_left
  · (intro W; go_simp; try with_reducible rfl)
  try simp only [Act.put, List.setIfInBounds_toArray, List.set_cons_zero, List.set_cons_succ]
  refine wpAnyT_pure (i := 2) (oi := { dst := some 25, op := Op.move (Operand.tmp 0), type := 83, pos := "draft.go:53", after := #[], guard := none }) (v := ?_) rfl (by kernel_rfl) (by kernel_rfl) (by kernel_rfl) (by kernel_rfl) (fun _ _ _ h => h) (Or.inl ⟨by rfl, ?_⟩) (holds1 (fun _ => (show w.drew.cell? ⟨g, 3, none⟩ = some (.int .i64 n.base) ∧ w.drew.cell? ⟨g, 4, none⟩ = some (.int .i64 n.bt) ∧ w.drew.cell? ⟨g, 5, none⟩ = some (.string n.snap) from ⟨c3, c4, c5⟩))) ?_
  rotate_left
  · (intro W; go_simp; try with_reducible rfl)
  try simp only [Act.put, List.setIfInBounds_toArray, List.set_cons_zero, List.set_cons_succ]
  refine wpAnyT_pure (i := 3) (oi := { dst := some 26, op := Op.nilCheck (Operand.tmp 25), type := 0, pos := "draft.go:53", after := #[{ on := 2, ground := Ground.data }], guard := none }) (v := ?_) rfl (by kernel_rfl) (by kernel_rfl) (by kernel_rfl) (by kernel_rfl) (fun _ _ _ h => h) (Or.inl ⟨by rfl, ?_⟩) (holds1 (fun _ => (show w.drew.cell? ⟨g, 3, none⟩ = some (.int .i64 n.base) ∧ w.drew.cell? ⟨g, 4, none⟩ = some (.int .i64 n.bt) ∧ w.drew.cell? ⟨g, 5, none⟩ = some (.string n.snap) from ⟨c3, c4, c5⟩))) ?_
  rotate_left
  · (intro W; go_simp; try with_reducible rfl)
  try simp only [Act.put, List.setIfInBounds_toArray, List.set_cons_zero, List.set_cons_succ]
  refine wpAnyT_pure (i := 4) (oi := { dst := some 27, op := Op.fieldAddr 87 (Operand.tmp 26) 0, type := 0, pos := "draft.go:53", after := #[{ on := 3, ground := Ground.data }], guard := none }) (v := ?_) rfl (by kernel_rfl) (by kernel_rfl) (by kernel_rfl) (by kernel_rfl) (fun _ _ _ h => h) (Or.inl ⟨by rfl, ?_⟩) (holds1 (fun _ => (show w.drew.cell? ⟨g, 3, none⟩ = some (.int .i64 n.base) ∧ w.drew.cell? ⟨g, 4, none⟩ = some (.int .i64 n.bt) ∧ w.drew.cell? ⟨g, 5, none⟩ = some (.string n.snap) from ⟨c3, c4, c5⟩))) ?_
  rotate_left
  · (intro W; go_simp; try with_reducible rfl)
  try simp only [Act.put, List.setIfInBounds_toArray, List.set_cons_zero, List.set_cons_succ]
  refine wpAnyT_pure (i := 5) (oi := { dst := some 28, op := Op.fieldAddr 37 (Operand.tmp 27) 3, type := 0, pos := "draft.go:53", after := #[{ on := 4, ground := Ground.data }], guard := none }) (v := ?_) rfl (by kernel_rfl) (by kernel_rfl) (by kernel_rfl) (by kernel_rfl) (fun _ _ _ h => h) (Or.inl ⟨by rfl, ?_⟩) (holds1 (fun _ => (show w.drew.cell? ⟨g, 3, none⟩ = some (.int .i64 n.base) ∧ w.drew.cell? ⟨g, 4, none⟩ = some (.int .i64 n.bt) ∧ w.drew.cell? ⟨g, 5, none⟩ = some (.string n.snap) from ⟨c3, c4, c5⟩))) ?_
  rotate_left
  · (intro W; go_simp; try with_reducible rfl)
  try simp only [Act.put, List.setIfInBounds_toArray, List.set_cons_zero, List.set_cons_succ]
  refine wpAnyT_take 5 18 (i := 6) (oi := { dst := some 29, op := Op.load 3 (Operand.tmp 28), type := 3, pos := "draft.go:53", after := #[{ on := 5, ground := Ground.data }], guard := none }) (v := ?_) (.head _) rfl (by kernel_rfl) (by kernel_rfl) (by kernel_rfl) (by kernel_rfl) (by kernel_rfl) (by kernel_rfl) (by rfl) (fun _ _ _ h => h) (by rfl) ?_ (holds1 (fun _ => (show w.drew.cell? ⟨g, 3, none⟩ = some (.int .i64 n.base) ∧ w.drew.cell? ⟨g, 4, none⟩ = some (.int .i64 n.bt) ∧ w.drew.cell? ⟨g, 5, none⟩ = some (.string n.snap) from ⟨c3, c4, c5⟩))) ?_
  rotate_left
  · (intro W hSw; (try dsimp only at hSw); go_simp; try with_reducible rfl)
  try simp only [Act.put, List.setIfInBounds_toArray, List.set_cons_zero, List.set_cons_succ]
  refine wpAnyT_pure (i := 7) (oi := { dst := some 30, op := Op.move (Operand.tmp 0), type := 83, pos := "draft.go:53", after := #[], guard := none }) (v := ?_) rfl (by kernel_rfl) (by kernel_rfl) (by kernel_rfl) (by kernel_rfl) (fun _ _ _ h => h) (Or.inl ⟨by rfl, ?_⟩) (holds1 (fun _ => (show w.drew.cell? ⟨g, 3, none⟩ = some (.int .i64 n.base) ∧ w.drew.cell? ⟨g, 4, none⟩ = some (.int .i64 n.bt) ∧ w.drew.cell? ⟨g, 5, none⟩ = some (.string n.snap) from ⟨c3, c4, c5⟩))) ?_
  rotate_left
  · (intro W; go_simp; try with_reducible rfl)
  try simp only [Act.put, List.setIfInBounds_toArray, List.set_cons_zero, List.set_cons_succ]
  refine wpAnyT_pure (i := 8) (oi := { dst := some 31, op := Op.nilCheck (Operand.tmp 30), type := 0, pos := "draft.go:53", after := #[{ on := 7, ground := Ground.data }], guard := none }) (v := ?_) rfl (by kernel_rfl) (by kernel_rfl) (by kernel_rfl) (by kernel_rfl) (fun _ _ _ h => h) (Or.inl ⟨by rfl, ?_⟩) (holds1 (fun _ => (show w.drew.cell? ⟨g, 3, none⟩ = some (.int .i64 n.base) ∧ w.drew.cell? ⟨g, 4, none⟩ = some (.int .i64 n.bt) ∧ w.drew.cell? ⟨g, 5, none⟩ = some (.string n.snap) from ⟨c3, c4, c5⟩))) ?_
  rotate_left
  · (intro W; go_simp; try with_reducible rfl)
  try simp only [Act.put, List.setIfInBounds_toArray, List.set_cons_zero, List.set_cons_succ]
  refine wpAnyT_pure (i := 9) (oi := { dst := some 32, op := Op.fieldAddr 87 (Operand.tmp 31) 0, type := 0, pos := "draft.go:53", after := #[{ on := 8, ground := Ground.data }], guard := none }) (v := ?_) rfl (by kernel_rfl) (by kernel_rfl) (by kernel_rfl) (by kernel_rfl) (fun _ _ _ h => h) (Or.inl ⟨by rfl, ?_⟩) (holds1 (fun _ => (show w.drew.cell? ⟨g, 3, none⟩ = some (.int .i64 n.base) ∧ w.drew.cell? ⟨g, 4, none⟩ = some (.int .i64 n.bt) ∧ w.drew.cell? ⟨g, 5, none⟩ = some (.string n.snap) from ⟨c3, c4, c5⟩))) ?_
  rotate_left
  · (intro W; go_simp; try with_reducible rfl)
  try simp only [Act.put, List.setIfInBounds_toArray, List.set_cons_zero, List.set_cons_succ]
  refine wpAnyT_pure (i := 10) (oi := { dst := some 33, op := Op.fieldAddr 37 (Operand.tmp 32) 4, type := 0, pos := "draft.go:53", after := #[{ on := 9, ground := Ground.data }], guard := none }) (v := ?_) rfl (by kernel_rfl) (by kernel_rfl) (by kernel_rfl) (by kernel_rfl) (fun _ _ _ h => h) (Or.inl ⟨by rfl, ?_⟩) (holds1 (fun _ => (show w.drew.cell? ⟨g, 3, none⟩ = some (.int .i64 n.base) ∧ w.drew.cell? ⟨g, 4, none⟩ = some (.int .i64 n.bt) ∧ w.drew.cell? ⟨g, 5, none⟩ = some (.string n.snap) from ⟨c3, c4, c5⟩))) ?_
  rotate_left
  · (intro W; go_simp; try with_reducible rfl)
  try simp only [Act.put, List.setIfInBounds_toArray, List.set_cons_zero, List.set_cons_succ]
  refine wpAnyT_take 5 18 (i := 11) (oi := { dst := some 34, op := Op.load 3 (Operand.tmp 33), type := 3, pos := "draft.go:53", after := #[{ on := 10, ground := Ground.data }], guard := none }) (v := ?_) (.head _) rfl (by kernel_rfl) (by kernel_rfl) (by kernel_rfl) (by kernel_rfl) (by kernel_rfl) (by kernel_rfl) (by rfl) (fun _ _ _ h => h) (by rfl) ?_ (holds1 (fun _ => (show w.drew.cell? ⟨g, 3, none⟩ = some (.int .i64 n.base) ∧ w.drew.cell? ⟨g, 4, none⟩ = some (.int .i64 n.bt) ∧ w.drew.cell? ⟨g, 5, none⟩ = some (.string n.snap) from ⟨c3, c4, c5⟩))) ?_
  rotate_left
  · (intro W hSw; (try dsimp only at hSw); go_simp; try with_reducible rfl)
  try simp only [Act.put, List.setIfInBounds_toArray, List.set_cons_zero, List.set_cons_succ]
  refine wpAnyT_pure (i := 12) (oi := { dst := some 35, op := Op.move (Operand.tmp 0), type := 83, pos := "draft.go:53", after := #[], guard := none }) (v := ?_) rfl (by kernel_rfl) (by kernel_rfl) (by kernel_rfl) (by kernel_rfl) (fun _ _ _ h => h) (Or.inl ⟨by rfl, ?_⟩) (holds1 (fun _ => (show w.drew.cell? ⟨g, 3, none⟩ = some (.int .i64 n.base) ∧ w.drew.cell? ⟨g, 4, none⟩ = some (.int .i64 n.bt) ∧ w.drew.cell? ⟨g, 5, none⟩ = some (.string n.snap) from ⟨c3, c4, c5⟩))) ?_
  rotate_left
  · (intro W; go_simp; try with_reducible rfl)
  try simp only [Act.put, List.setIfInBounds_toArray, List.set_cons_zero, List.set_cons_succ]
  refine wpAnyT_pure (i := 13) (oi := { dst := some 36, op := Op.nilCheck (Operand.tmp 35), type := 0, pos := "draft.go:53", after := #[{ on := 12, ground := Ground.data }], guard := none }) (v := ?_) rfl (by kernel_rfl) (by kernel_rfl) (by kernel_rfl) (by kernel_rfl) (fun _ _ _ h => h) (Or.inl ⟨by rfl, ?_⟩) (holds1 (fun _ => (show w.drew.cell? ⟨g, 3, none⟩ = some (.int .i64 n.base) ∧ w.drew.cell? ⟨g, 4, none⟩ = some (.int .i64 n.bt) ∧ w.drew.cell? ⟨g, 5, none⟩ = some (.string n.snap) from ⟨c3, c4, c5⟩))) ?_
  rotate_left
  · (intro W; go_simp; try with_reducible rfl)
  try simp only [Act.put, List.setIfInBounds_toArray, List.set_cons_zero, List.set_cons_succ]
  refine wpAnyT_pure (i := 14) (oi := { dst := some 37, op := Op.fieldAddr 87 (Operand.tmp 36) 0, type := 0, pos := "draft.go:53", after := #[{ on := 13, ground := Ground.data }], guard := none }) (v := ?_) rfl (by kernel_rfl) (by kernel_rfl) (by kernel_rfl) (by kernel_rfl) (fun _ _ _ h => h) (Or.inl ⟨by rfl, ?_⟩) (holds1 (fun _ => (show w.drew.cell? ⟨g, 3, none⟩ = some (.int .i64 n.base) ∧ w.drew.cell? ⟨g, 4, none⟩ = some (.int .i64 n.bt) ∧ w.drew.cell? ⟨g, 5, none⟩ = some (.string n.snap) from ⟨c3, c4, c5⟩))) ?_
  rotate_left
  · (intro W; go_simp; try with_reducible rfl)
  try simp only [Act.put, List.setIfInBounds_toArray, List.set_cons_zero, List.set_cons_succ]
  refine wpAnyT_pure (i := 15) (oi := { dst := some 38, op := Op.fieldAddr 37 (Operand.tmp 37) 5, type := 0, pos := "draft.go:53", after := #[{ on := 14, ground := Ground.data }], guard := none }) (v := ?_) rfl (by kernel_rfl) (by kernel_rfl) (by kernel_rfl) (by kernel_rfl) (fun _ _ _ h => h) (Or.inl ⟨by rfl, ?_⟩) (holds1 (fun _ => (show w.drew.cell? ⟨g, 3, none⟩ = some (.int .i64 n.base) ∧ w.drew.cell? ⟨g, 4, none⟩ = some (.int .i64 n.bt) ∧ w.drew.cell? ⟨g, 5, none⟩ = some (.string n.snap) from ⟨c3, c4, c5⟩))) ?_
  rotate_left
  · (intro W; go_simp; try with_reducible rfl)
  try simp only [Act.put, List.setIfInBounds_toArray, List.set_cons_zero, List.set_cons_succ]
  refine wpAnyT_take 5 18 (i := 16) (oi := { dst := some 39, op := Op.load 9 (Operand.tmp 38), type := 9, pos := "draft.go:53", after := #[{ on := 15, ground := Ground.data }], guard := none }) (v := ?_) (.head _) rfl (by kernel_rfl) (by kernel_rfl) (by kernel_rfl) (by kernel_rfl) (by kernel_rfl) (by kernel_rfl) (by rfl) (fun _ _ _ h => h) (by rfl) ?_ (holds1 (fun _ => (show w.drew.cell? ⟨g, 3, none⟩ = some (.int .i64 n.base) ∧ w.drew.cell? ⟨g, 4, none⟩ = some (.int .i64 n.bt) ∧ w.drew.cell? ⟨g, 5, none⟩ = some (.string n.snap) from ⟨c3, c4, c5⟩))) ?_
  rotate_left
  · (intro W hSw; (try dsimp only at hSw); go_simp; try with_reducible rfl)
  try simp only [Act.put, List.setIfInBounds_toArray, List.set_cons_zero, List.set_cons_succ]
  refine wpAnyT_pure (i := 17) (oi := { dst := some 40, op := Op.build 25 #[(0, Operand.const (Value.int IntKind.i64 5)), (4, Operand.tmp 29), (5, Operand.tmp 34), (9, Operand.tmp 39)], type := 25, pos := "draft.go:53", after := #[{ on := 6, ground := Ground.data }, { on := 11, ground := Ground.data }, { on := 16, ground := Ground.data }], guard := none }) (v := ?_) rfl (by kernel_rfl) (by kernel_rfl) (by kernel_rfl) (by kernel_rfl) (fun _ _ _ h => h) (Or.inl ⟨by rfl, ?_⟩) (holds1 (fun _ => (show w.drew.cell? ⟨g, 3, none⟩ = some (.int .i64 n.base) ∧ w.drew.cell? ⟨g, 4, none⟩ = some (.int .i64 n.bt) ∧ w.drew.cell? ⟨g, 5, none⟩ = some (.string n.snap) from ⟨c3, c4, c5⟩))) ?_
  rotate_left
  · (intro W; go_simp; try with_reducible rfl)
  try simp only [Act.put, List.setIfInBounds_toArray, List.set_cons_zero, List.set_cons_succ]
  refine wpAnyT_ready (rs := [18]) (by kernel_rfl) (by simp) (AllT.cons (o := { dst := some 41, op := Op.call { callee := Callee.value (Operand.func 61), args := #[Operand.tmp 23, Operand.tmp 24, Operand.tmp 40], argTypes := #[83, 3, 25] }, type := 0, pos := "draft.go:53", after := #[{ on := 0, ground := Ground.data }, { on := 1, ground := Ground.data }, { on := 17, ground := Ground.data }], guard := none }) rfl (fun K hK => ?_) AllT.nil)
  go_simp
  go_at_call 61
  obtain ⟨L, M, hD⟩ := HD0.out
  refine (SD.out _ ⟨L, M, hD.drew⟩).mono ?_
  rintro _ w2 ⟨rfl, hD2, hk2⟩
  have HD2 := Lib.hid hD2
  have HK2 := Lib.hid ((hD.kept (only_drew (only_refl w none))).trans hk2)
  clear hD hD2 hk2
  refine hK.out _ _ (holds1 (late_no (by kernel_rfl))) ?_
  clear hK K
  try simp only [Act.put, List.setIfInBounds_toArray, List.set_cons_zero, List.set_cons_succ]
  refine wpAnyT_done (by kernel_rfl) ?_ _
  go_wp2_with fail
  (try simp only [Exit.inBlock, Exit.then])
  refine bodyPost_ret (results_none rfl _ _ _) rfl ?_
  exact ⟨rfl, HD2.out, HK2.out⟩
end Go.Proofs.Ytjhnipnocjoelaa
