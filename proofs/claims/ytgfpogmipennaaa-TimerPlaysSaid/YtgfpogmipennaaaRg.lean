/- The reference's New, Cancel, Next, Due. No condition of the program's own. -/
import Derived.Test.YtgfpogmipennaaaRf
namespace Go.Proofs.Ytgfpogmipennaaa
open Go.RowKit Go.Deep
theorem del_take_in {S : List It} {i : Nat} {x : It} (h : S[i]? = some x) {id : Int} (hx : x.1 ≠ id) : del id (S.take (i + 1)) = del id (S.take i) ++ [x] := by
  rw [List.take_add_one, h]; simp [del, hx]
theorem del_take_out {S : List It} {i : Nat} {x : It} (h : S[i]? = some x) {id : Int} (hx : x.1 = id) : del id (S.take (i + 1)) = del id (S.take i) := by
  rw [List.take_add_one, h]; simp [del, hx]
theorem del_short (S : List It) (id : Int) : decide ((del id S).length < S.length) = isIn id S := by
  rw [Bool.eq_iff_iff, decide_eq_true_iff, isIn_iff]
  have hle : (del id S).length ≤ S.length := List.length_filter_le _ _
  constructor
  · intro h
    have : del id S ≠ S := fun e => by rw [e] at h; omega
    cases hc : isIn id S with
    | true => exact isIn_iff.1 hc
    | false => exact absurd (del_none hc) this
  · rintro ⟨y, hy, e⟩
    rcases Nat.lt_or_ge (del id S).length S.length with h | h
    · exact h
    · have : del id S = S := List.filter_sublist.eq_of_length (by show (del id S).length = S.length; omega)
      have hy2 : y ∈ del id S := by rw [this]; exact hy
      exact absurd e (mem_del.1 hy2).2
theorem row_slice_w {w : World} {base e s n : Nat} {v : Value} {xs : List Value} (h : w.ownsRow base e s v n xs) : ∃ A c, v = .slice A n c := row_slice h
/-- The block's row set anew. -/
theorem RS.store {w w1 : World} {Bx : Nat} {A : Option Addr} {c : Nat} {S S' : List It} {A' : Option Addr} {n' c' base : Nat} (h : RS w Bx A c S) (g : w.grownBy w1 none) (hb : w.heap.size ≤ base) (o : w1.ownsRow base 61 2 (.slice A' n' c') n' (pc S')) :
    RG w (w1.setCell ⟨Bx, 0, none⟩ (.slice A' n' c')) Bx A S' A' c' := by
  obtain ⟨v, hn⟩ := Vw.own o
  subst hn
  have h1 := h.keep g
  have hne : ∀ b off sp, A' = some ⟨b, off, sp⟩ → b ≠ Bx := fun b off sp e e2 => by
    have := (Has.own_w o).2.1 b off sp e
    have := h.lt
    omega
  have so : w1.grownBy (w1.setCell ⟨Bx, 0, none⟩ (.slice A' S'.length c')) (some Bx) := cell_only (only_refl _ _) _ _
  refine ⟨⟨heap_set1 h1.blk 0 _, ⟨?_, v.cap, v.nil⟩, fun b off sp e => ?_⟩, only_step (only_none g _) so (fun k hk => .inl hk), fun b off sp e => .inr ?_⟩
  · have hs : (w1.setCell ⟨Bx, 0, none⟩ (.slice A' S'.length c')).heap.size = w1.heap.size := by simp [World.setCell]
    rw [hs]
    rcases v.has with h0 | ⟨b, off, hA, hbl, hc⟩
    · exact .inl h0
    · exact .inr ⟨b, off, hA, hbl, fun j u hu => (World.cell?_of_block (heap_other w1 (hne b off none hA) _ _)).trans (hc j u hu)⟩
  · have hs : (w1.setCell ⟨Bx, 0, none⟩ (.slice A' S'.length c')).heap.size = w1.heap.size := by simp [World.setCell]
    rw [hs]
    exact row_lt o b (by rw [e]; rfl)
  · have := (Has.own_w o).2.1 b off sp e
    omega
set_option maxRecDepth 100000 in
set_option maxHeartbeats 1000000 in
theorem rcancel (Bx : Nat) (id : Int) (A : Option Addr) (c : Nat) (S : List It) (w : World) (h : RS w Bx A c S) (hl : S.length ≤ 1099511627770) :
    Calls Try.prog 17 #[.pointer (some ⟨Bx, 0, none⟩), .int .i64 id] w fun e w' => e = .returned (.bool (isIn id S)) ∧ ∃ A' c', RG w w' Bx A (del id S) A' c' := by
  have H := Lib.hid h
  have D0 : Hid (w.ownsRow w.heap.size 61 2 (.slice none 0 0) (del id (S.take 0)).length (pc (del id (S.take 0)))) := Lib.hid (World.ownsRow_nil w _ _ 2)
  have G0 : Hid (w.grownBy w none) := Lib.hid (only_refl _ _)
  clear h
  go_enter Try.func17, Try.ntmps17
  go_wp2_with fail
  go_loopw [5, 6] (fun sl si wr => ∃ (i : Nat), si = .int .i64 i ∧ i ≤ S.length ∧ Hid (wr.ownsRow w.heap.size 61 2 sl (del id (S.take i)).length (pc (del id (S.take i)))) ∧ Hid (w.grownBy wr none)) (fun _ si _ => S.length - (intOf si).toNat)
  case atStart => exact ⟨0, rfl, Nat.zero_le _, D0, G0⟩
  case round =>
    clear D0 G0
    obtain ⟨i, rfl, hi, O, G⟩ := hrel
    have R := H.out.keep G.out
    have cB := R.cell
    have t0 : (0 : Int) ≤ (i : Int) := by omega
    by_cases t1 : (i : Int) < (S.length : Int)
    · have hes : IntKind.i64.wrap ((i : Int) + 1) = (i : Int) + 1 := by rw [IntKind.wrap_i64]; omega
      obtain ⟨x, hx⟩ : ∃ x, S[i]? = some x := ⟨S[i]'(by omega), by simp⟩
      obtain ⟨b, off, rfl, _, cx1, cx2⟩ := R.vw.has.rng hx
      have HX := Lib.hid hx
      have dl : (del id (S.take i)).length ≤ 1099511627770 := Nat.le_trans (List.length_filter_le _ _) (by rw [List.length_take]; omega)
      have DL := Lib.hid dl
      by_cases hxi : x.1 = id
      · have u1 : (x.1 == id) = true := by rw [beq_iff_eq]; exact hxi
        have E := Lib.hid (del_take_out hx hxi)
        clear hx R dl
        go_wp2_with fail
        go_roundw
        case rel => exact ⟨i + 1, by go_num, by omega, by rw [E.out]; exact O, G⟩
        case measure => simp [intOf]; omega
      · have u1 : (x.1 == id) = false := by rw [beq_eq_false_iff_ne]; exact hxi
        have E := Lib.hid (del_take_in hx hxi)
        have O2 := Lib.hid (O.out.kept (World.grownBy_alloc wr (.cells #[.int .i64 x.1, .int .i64 x.2] 61) none) (by cases u5.ownBlock <;> simp))
        have S2 := Lib.hid (src_rit wr x 61)
        have z2 : w.heap.size ≤ (wr.alloc (.cells #[.int .i64 x.1, .int .i64 x.2] 61)).heap.size := Nat.le_trans G.out.size (World.grownBy_alloc wr _ none).size
        have L2 : Hid ((del id (S.take i)).length + 1 ≤ 2199023255552) := Lib.hid (by omega)
        have G2 := Lib.hid (only_alloc G.out (.cells #[.int .i64 x.1, .int .i64 x.2] 61))
        clear hx R dl
        go_wp2_with (at_builtin; refine app_rit rfl _ _ 37 rfl w.heap.size u5 (del id (S.take i)).length (pc (del id (S.take i))) rfl O2.out _ 1 (pc [x]) rfl S2.out L2.out z2 ?_; intro v3 w3 g3; rw [← pc_append] at g3; have G3 := Lib.hid g3; clear g3)
        go_roundw
        case rel =>
          refine ⟨i + 1, by go_num, by omega, Lib.hid ?_, Lib.hid (only_step G2.out G3.out.only (fun k hk => .inr (row_ge O.out k hk)))⟩
          have := G3.out.own
          rw [E.out, List.length_append]
          exact this
        case measure => simp [intOf]; omega
    · obtain rfl : i = S.length := by omega
      obtain ⟨X, cX, rfl⟩ := row_slice O.out
      rw [List.take_length] at O ⊢
      have zB := R.thaw
      have ST := Lib.hid (H.out.store G.out (Nat.le_refl _) O.out)
      have u1 : decide ((((del id S).length : Nat) : Int) < ((S.length : Nat) : Int)) = isIn id S := by
        rw [← del_short]; exact decide_eq_decide.2 (by omega)
      have u2 : decide ((del id S).length < S.length) = isIn id S := del_short S id
      obtain ⟨n', hn'⟩ : ∃ n', n' = (del id S).length := ⟨_, rfl⟩
      rw [← hn'] at ST u1 u2 ⊢
      obtain ⟨r, hr⟩ : ∃ r, r = isIn id S := ⟨_, rfl⟩
      rw [← hr] at u1 u2
      have HR := Lib.hid hr
      clear hn' hr O R t1
      go_wp2_with fail
      go_ret
      exact ⟨by rw [← HR.out]; first | rfl | (congr 2), X, cX, ST.out⟩
theorem rnew (w : World) : Calls Try.prog 12 #[] w fun e w' => ∃ Bx, e = .returned (.pointer (some ⟨Bx, 0, none⟩)) ∧ w.heap.size = Bx ∧ RS w' Bx none 0 [] ∧ w.grownBy w' none := by
  have G := World.grownBy_alloc w (.cells #[.slice none 0 0] 39) none
  have N := heap_alloc_new w (.cells #[.slice none 0 0] 39)
  have HG := Lib.hid G
  have HN := Lib.hid N
  clear G N
  go_enter Try.func12, Try.ntmps12
  go_wp2_with fail
  go_ret
  exact ⟨w.heap.size, rfl, rfl, ⟨HN.out, ⟨.inl rfl, Nat.le_refl _, fun _ => rfl⟩, fun b off sp e => by cases e⟩, HG.out⟩
theorem rnext (Bx : Nat) (A : Option Addr) (c : Nat) (S : List It) (w : World) (h : RS w Bx A c S) :
    Calls Try.prog 22 #[.pointer (some ⟨Bx, 0, none⟩)] w fun e w' => e = .returned (.tuple #[.int .i64 ((S.head?.map (·.2)).getD 0), .bool (!S.isEmpty)]) ∧ w = w' := by
  have cB := h.cell
  cases S with
  | nil =>
    have cB : w.cell? ⟨Bx, 0, none⟩ = some (.slice A 0 c) := cB
    clear h
    go_enter Try.func22, Try.ntmps22
    go_wp2_with fail
    go_ret2
    exact ⟨rfl, rfl⟩
  | cons y r =>
    obtain ⟨b, off, rfl, _, c1, c2⟩ := h.vw.has.rng (i := 0) (x := y) rfl
    simp only [Nat.zero_mul, Nat.add_zero] at c1 c2
    have t1 : ((((y :: r).length : Nat) : Int) == 0) = false := by rw [beq_eq_false_iff_ne, List.length_cons]; omega
    have t2 : (0 : Int) < (((y :: r).length : Nat) : Int) := by rw [List.length_cons]; omega
    obtain ⟨n, hn⟩ : ∃ n, n = (y :: r).length := ⟨_, rfl⟩
    rw [← hn] at t1 t2 cB
    clear h hn
    go_enter Try.func22, Try.ntmps22
    go_wp2_with fail
    go_ret2
    exact ⟨rfl, rfl⟩
end Go.Proofs.Ytgfpogmipennaaa
