/- The walk of OpsDots: it returns true for every input. No condition. -/
import Derived.Test.YtcmpeohooiehcaaOcd
import Derived.Test.YtcmpeohooiehcaaApp
namespace Go.Proofs.Ytcmpeohooiehcaa
open Go.RowKit Go.Deep Go.ChangeShapes

theorem less_is (x y : Int × Int × Int) (r : Bool) (hr : r = true ↔ dless x y) (w : World) :
    Calls Try.prog 22 #[.agg #[.int .i64 x.1, .int .i64 x.2.1, .int .i64 x.2.2], .agg #[.int .i64 y.1, .int .i64 y.2.1, .int .i64 y.2.2]] w fun e w' => e = .returned (.bool r) ∧ w.grownBy w' none := by
  obtain ⟨x1, x2, x3⟩ := x
  obtain ⟨y1, y2, y3⟩ := y
  show Calls Try.prog _ #[.agg #[.int .i64 x1, .int .i64 x2, .int .i64 x3], .agg #[.int .i64 y1, .int .i64 y2, .int .i64 y3]] w _
  have hd : r = true ↔ (x1 < y1 ∨ x1 = y1 ∧ (x2 < y2 ∨ x2 = y2 ∧ x3 < y3)) := hr
  clear hr
  by_cases e1 : x1 = y1
  · have n1 : (x1 != y1) = false := by simp [e1]
    by_cases e2 : x2 = y2
    · have n2 : (x2 != y2) = false := by simp [e2]
      obtain rfl : r = decide (x3 < y3) := by
        rw [Bool.eq_iff_iff, hd, decide_eq_true_eq]; omega
      clear hd
      go_enter Try.func22, Try.ntmps22
      go_wp2_with fail
      go_ret
      exact ⟨rfl, only_alloc (World.grownBy_alloc w _ none) _⟩
    · have n2 : (x2 != y2) = true := by simp [e2]
      obtain rfl : r = decide (x2 < y2) := by
        rw [Bool.eq_iff_iff, hd, decide_eq_true_eq]; omega
      clear hd
      go_enter Try.func22, Try.ntmps22
      go_wp2_with fail
      go_ret
      exact ⟨rfl, only_alloc (World.grownBy_alloc w _ none) _⟩
  · have n1 : (x1 != y1) = true := by simp [e1]
    obtain rfl : r = decide (x1 < y1) := by
      rw [Bool.eq_iff_iff, hd, decide_eq_true_eq]; omega
    clear hd
    go_enter Try.func22, Try.ntmps22
    go_wp2_with fail
    go_ret
    exact ⟨rfl, only_alloc (World.grownBy_alloc w _ none) _⟩

def dotOf (n : Int) : Int × Int × Int := (n % 2, 1 + n.tdiv 2 % 2, 1 + n.tdiv 4 % 4)
def is_ (l : List Int) : List Value := l.map (Value.int .i64)

theorem own_slice_w {w : World} {base e s n : Nat} {v : Value} {xs : List Value} (h : w.ownsRow base e s v n xs) : ∃ A c, v = .slice A n c := by
  rcases h.2 with ⟨hv, h0⟩ | ⟨g, cap, _, hv, _⟩
  · exact ⟨none, 0, by rw [hv, h0]⟩
  · exact ⟨_, cap, hv⟩
theorem own_form_w {w : World} {base e s n c : Nat} {A : Option Addr} {xs : List Value} (h : w.ownsRow base e s (.slice A n c) n xs) (hn : 0 < n) : ∃ g, A = some ⟨g, 0, none⟩ ∧ base ≤ g ∧ g < w.heap.size ∧ n ≤ c ∧ ∀ j u, xs[j]? = some u → w.cell? ⟨g, j, none⟩ = some u := by
  have hc := fun g => h.cells (g := g)
  rcases h.2 with ⟨_, h0⟩ | ⟨g, cap, cur, hv, hb, hg, h1, h2, _⟩
  · omega
  · injection hv with e1 e2 e3
    refine ⟨g, e1, hb, (Array.getElem?_eq_some_iff.1 hg).1, by omega, fun j u hu => ?_⟩
    have := hc g (by rw [e1]; rfl) j u hu
    rw [Addr.add_lit, Nat.zero_add] at this
    exact this
theorem cut_later {G T : Prop} (main : (Unit → T) → G) (pf : T) : G := main fun _ => pf
theorem tdiv_in (n m : Int) (hm : 0 < m) (h1 : -9223372036854775808 ≤ n) (h2 : n ≤ 9223372036854775807) : -9223372036854775808 ≤ n.tdiv m ∧ n.tdiv m ≤ 9223372036854775807 := by
  have := Int.natAbs_tdiv_le_natAbs n m
  by_cases h0 : 0 ≤ n
  · have := Int.tdiv_nonneg h0 (Int.le_of_lt hm); omega
  · have h3 : n.tdiv m = -((-n).tdiv m) := by rw [Int.neg_tdiv, Int.neg_neg]
    have := Int.tdiv_nonneg (show 0 ≤ -n by omega) (Int.le_of_lt hm)
    omega
/-- append onto a row of dots of the call's own. -/
theorem app_dots {w : World} {ops : Array Oper} {rest : List Oper} {o : Oper} {a : Act} {Q : Exit → Act → World → Prop} (hgd : o.guard = none) (s x : Operand) (tx : TypeId)
    (ho : o.op = .call { callee := .builtin .append, args := #[s, x], argTypes := #[24, tx] })
    (base : Nat) (v : Value) (n : Nat) (xs : List Value) (hs : a.eval s = v) (hown : w.ownsRow base 23 3 v n xs) (u : Value) (m : Nat) (news : List Value) (hu : a.eval x = u) (hsrc : Src Try.prog 3 tx u m news w)
    (hlen : n + m ≤ 1099511627776) (hbase : base ≤ w.heap.size)
    (h : ∀ v' w', GrewW w w' base 23 3 v v' (n + m) (xs ++ news) → wpList Try.prog ops Q rest (a.put o.dst v') w') : wpList Try.prog ops Q (o :: rest) a w := by
  obtain ⟨i, hi, hzz⟩ := Option.map_eq_some_iff.1 Try.info_dot
  simp only [Prod.mk.injEq] at hzz
  obtain ⟨hz, hsz, hb⟩ := hzz
  exact wpList_append_wide w hgd s x 24 tx ho base 23 i _ 24 3 Try.underlying24 hi hz hsz hb rfl v n xs hs hown u m news hu hsrc (by unfold maxLen; omega) (by omega) hbase h
theorem rises_snoc (L : List (Int × Int × Int)) (i : Nat) (y : Int × Int × Int) (hy : L[i]? = some y) : rises (L.take (i + 1)) ↔ rises (L.take i) ∧ ∀ k x, i = k + 1 → L[k]? = some x → dless x y := by
  have tk : ∀ n k x, (L.take n)[k]? = some x ↔ k < n ∧ L[k]? = some x := fun n k x => by
    rw [List.getElem?_take]
    by_cases h : k < n
    · rw [if_pos h]; simp [h]
    · rw [if_neg h]; simp [h]
  constructor
  · intro h
    refine ⟨fun k x y' hx hy' => ?_, fun k x hk hx => ?_⟩
    · rw [tk] at hx hy'
      exact h k x y' ((tk _ _ _).2 ⟨by omega, hx.2⟩) ((tk _ _ _).2 ⟨by omega, hy'.2⟩)
    · subst hk
      exact h k x y ((tk _ _ _).2 ⟨by omega, hx⟩) ((tk _ _ _).2 ⟨by omega, hy⟩)
  · rintro ⟨h1, h2⟩ k x y' hx hy'
    rw [tk] at hx hy'
    by_cases hk : k + 1 < i
    · exact h1 k x y' ((tk _ _ _).2 ⟨by omega, hx.2⟩) ((tk _ _ _).2 ⟨by omega, hy'.2⟩)
    · have : i = k + 1 := by omega
      have hyy := hy'.2
      rw [← this, hy] at hyy
      cases hyy
      exact h2 k x this hx.2
theorem own_ne {w : World} {B e s n : Nat} {v : Value} {xs : List Value} (h : w.ownsRow (B + 1) e s v n xs) : v.ownBlock ≠ some B := by
  rcases h.2 with ⟨hv, _⟩ | ⟨g, cap, cur, hv, hg, h2⟩
  · rw [hv]; simp [Value.ownBlock]
  · rw [hv]; simp [Value.ownBlock]; omega
theorem own_ge {w : World} {B e s n : Nat} {v : Value} {xs : List Value} (h : w.ownsRow B e s v n xs) : ∀ k, v.ownBlock = some k → B ≤ k := fun k hk => by
  rcases h.2 with ⟨hv, _⟩ | ⟨g, cap, cur, hv, hg, h2⟩
  · rw [hv] at hk; simp [Value.ownBlock] at hk
  · rw [hv] at hk; simp [Value.ownBlock] at hk; omega
theorem Has.own_w {w : World} {base e s n c : Nat} {A : Option Addr} {xs : List Value} (h : w.ownsRow base e s (.slice A n c) n xs) : Has w w.heap.size A xs := by
  by_cases h0 : 0 < n
  · obtain ⟨g, e, _, hg, _, hc⟩ := own_form_w h h0
    exact .inr ⟨g, 0, e, hg, fun j u hu => by rw [Nat.zero_add]; exact hc j u hu⟩
  · refine .inl (List.eq_nil_of_length_eq_zero ?_)
    rw [h.1, show n = 0 by omega, Nat.zero_mul]
def opCells (v : Value) : Array Value := #[.int .i64 0, .int .i64 1, .int .i64 1, .int .i64 0, .int .i64 1, .int .i64 3, .string { data := #[107] }, .string { data := #[] }, .int .i64 0, .int .i64 0, v]
set_option maxRecDepth 100000 in
set_option maxHeartbeats 4000000 in
theorem dots_core (A : Option Addr) (c : Nat) (l : List Int) (w : World) (h : Has w w.heap.size A (is_ l)) (hb : ∀ n ∈ l, -9223372036854775808 ≤ n ∧ n ≤ 9223372036854775807) (hl : l.length ≤ 12) :
    Calls Try.prog 8 #[.slice A l.length c] w fun e w' => e = .returned (.bool true) ∧ w.grownBy w' none := by
  have t0 : ¬ (12 : Int) < (l.length : Int) := by omega
  have HA := Lib.hid h
  have HB := Lib.hid hb
  clear h hb
  go_enter Try.func8, Try.ntmps8
  go_wp2_with fail
  refine (known_any _).mono ?_
  rintro _ w1 ⟨rfl, g1⟩
  go_wp2_with fail
  go_loopw [4, 5] (fun s4 si wr => ∃ (i : Nat) (rb : Bool) (v : Value), i ≤ l.length ∧ si = .int .i64 i ∧ s4 = .bool rb ∧ Hid (rb = true ↔ rises ((l.map dotOf).take i)) ∧
      Hid (wr.heap[w1.heap.size]? = some (.cells (opCells v) 26)) ∧ Hid (wr.ownsRow (w1.heap.size + 1) 23 3 v i (dc ((l.map dotOf).take i))) ∧ w1.heap.size < wr.heap.size ∧ Hid (w.grownBy wr none))
    (fun _ si _ => l.length - (intOf si).toNat)
  case atStart => exact ⟨0, true, .slice none 0 0, Nat.zero_le _, rfl, rfl, ⟨fun _ k x y hx => by simp at hx, fun _ => rfl⟩, heap_alloc_new _ _, World.ownsRow_nil _ _ _ 3, by show _ < (w1.heap.push _).size; rw [Array.size_push]; omega, only_alloc g1 _⟩
  case round =>
    obtain ⟨i, rb, v, hi, rfl, rfl, HR, HO, HV, hsz, hG⟩ := hrel
    by_cases hlt : i < l.length
    · have u1 : (i : Int) < (l.length : Int) := by omega
      have u0 : (0 : Int) ≤ (i : Int) := by omega
      have hes : IntKind.i64.wrap ((i : Int) + 1) = (i : Int) + 1 := by rw [IntKind.wrap_i64]; omega
      obtain ⟨n, hn⟩ : ∃ n, l[i]? = some n := ⟨_, List.getElem?_eq_getElem hlt⟩
      have hnb := HB.out n (List.mem_of_getElem? hn)
      obtain ⟨b, off, rfl, hb, hc⟩ : ∃ b off, A = some ⟨b, off, none⟩ ∧ b < w.heap.size ∧ w.cell? ⟨b, off + i, none⟩ = some (.int .i64 n) := by
        rcases HA.out with h0 | ⟨b, off, hA, hb, hc⟩
        · have := congrArg List.length h0; simp [is_] at this; rw [this] at hlt; simp at hlt
        · exact ⟨b, off, hA, hb, hc i _ (by simp [is_, hn])⟩
      have SV : ∀ V, w.grownBy V none → Hid (V.cell? ⟨b, off + i, none⟩ = some (.int .i64 n) ∧ w.grownBy V none) := fun V hV => by
        exact ⟨(World.cell?_of_block (hV.block b hb (by simp))).trans hc, hV⟩
      have d0 := only_drew hG.out
      obtain ⟨p2, hp2⟩ : ∃ p, p = n.tdiv 2 := ⟨_, rfl⟩
      obtain ⟨p4, hp4⟩ : ∃ p, p = n.tdiv 4 := ⟨_, rfl⟩
      have q2 := tdiv_in n 2 (by omega) hnb.1 hnb.2
      have q4 := tdiv_in n 4 (by omega) hnb.1 hnb.2
      have z2 : IntKind.i64.wrap (n.tdiv 2) = p2 := by rw [IntKind.wrap_i64]; omega
      have z4 : IntKind.i64.wrap (n.tdiv 4) = p4 := by rw [IntKind.wrap_i64]; omega
      rw [← hp2] at q2
      rw [← hp4] at q4
      have y2 : IntKind.i64.wrap (1 + p2 % 2) = 1 + p2 % 2 := by rw [IntKind.wrap_i64]; omega
      have y4 : IntKind.i64.wrap (1 + p4 % 4) = 1 + p4 % 4 := by rw [IntKind.wrap_i64]; omega
      have HD : Hid (dotOf n = (n % 2, 1 + p2 % 2, 1 + p4 % 4)) := by rw [hp2, hp4]; rfl
      have N0 : ∀ W, Hid (Calls Try.prog 15 #[.int .i64 n, .int .i64 2] W fun e w' => e = .returned (.int .i64 (n % 2)) ∧ W = w') := fun W => within_any n 2 hnb.1 hnb.2 (by omega) (by omega) W
      have N1 : ∀ W, Hid (Calls Try.prog 15 #[.int .i64 p2, .int .i64 2] W fun e w' => e = .returned (.int .i64 (p2 % 2)) ∧ W = w') := fun W => within_any p2 2 q2.1 q2.2 (by omega) (by omega) W
      have N2 : ∀ W, Hid (Calls Try.prog 15 #[.int .i64 p4, .int .i64 4] W fun e w' => e = .returned (.int .i64 (p4 % 4)) ∧ W = w') := fun W => within_any p4 4 q4.1 q4.2 (by omega) (by omega) W
      clear hc hp2 hp4 q2 q4
      go_wp2_with fail
      apply cut_later
      · intro key
        go_region_held3 (fun V => V.cell? ⟨b, off + i, none⟩ = some (.int .i64 n) ∧ w.grownBy V none) (first | exact (SV _ d0).out | exact (SV _ (only_drew (only_alloc hG.out _))).out) ((first
            | (go_at_call_of 15 n; refine (N0 _).out.mono ?_; rintro e wa ⟨rfl, rfl⟩)
            | (go_at_call_of 15 p2; refine (N1 _).out.mono ?_; rintro e wa ⟨rfl, rfl⟩)
            | (go_at_call_of 15 p4; refine (N2 _).out.mono ?_; rintro e wa ⟨rfl, rfl⟩)))
        all_goals exact key ()
      obtain ⟨a, ha⟩ : ∃ a, a = n % 2 := ⟨_, rfl⟩
      obtain ⟨b2, hb2⟩ : ∃ a, a = 1 + p2 % 2 := ⟨_, rfl⟩
      obtain ⟨b4, hb4⟩ : ∃ a, a = 1 + p4 % 4 := ⟨_, rfl⟩
      rw [← ha, ← hb2, ← hb4] at HD
      rw [← ha, ← hb2, ← hb4]
      clear ha hb2 hb4 N0 N1 N2 z2 z4 y2 y4 SV d0
      obtain ⟨V, hV⟩ : ∃ V, V = (wr.alloc (.cells #[.int .i64 a, .int .i64 b2, .int .i64 b4] 23)).drew := ⟨_, rfl⟩
      rw [← hV]
      have gV : wr.grownBy V none := by rw [hV]; exact only_drew (World.grownBy_alloc _ _ none)
      have HO1 : V.heap[w1.heap.size]? = some (.cells (opCells v) 26) := (gV.block _ hsz (by simp)).trans HO.out
      have HV1 : Hid (V.ownsRow (w1.heap.size + 1) 23 3 v i (dc ((l.map dotOf).take i))) := HV.out.kept gV (by cases v.ownBlock <;> simp)
      have HDb : V.heap[wr.heap.size]? = some (.cells #[.int .i64 a, .int .i64 b2, .int .i64 b4] 23) := by rw [hV]; exact heap_alloc_new wr _
      have hszV : wr.heap.size < V.heap.size := by rw [hV]; show _ < (wr.heap.push _).size; rw [Array.size_push]; omega
      have hGV : Hid (w.grownBy V none) := only_step hG.out gV (fun _ h => by cases h)
      have HN := Lib.hid hn
      have NW : ∀ (rb' : Bool), (rb' = true ↔ rises ((l.map dotOf).take i) ∧ ∀ k x, i = k + 1 → (l.map dotOf)[k]? = some x → dless x (a, b2, b4)) → Hid (rb' = true ↔ rises ((l.map dotOf).take (i + 1))) := fun rb' h => by
        rw [rises_snoc _ i (a, b2, b4) (by rw [List.getElem?_map, hn, ← HD.out]; rfl)]; exact h
      have TK : Hid (dc ((l.map dotOf).take i) ++ dc [(a, b2, b4)] = dc ((l.map dotOf).take (i + 1))) := by
        rw [← dc_append, List.take_add_one, List.getElem?_map, hn, ← HD.out]; rfl
      clear hV gV HO HV hn
      obtain ⟨Av, cv, rfl⟩ := own_slice_w HV1.out
      by_cases hpos : 0 < i
      · have v1 : (0 : Int) < (i : Int) := by omega
        obtain ⟨k, hk⟩ : ∃ k, i = k + 1 := ⟨i - 1, by omega⟩
        have hed : IntKind.i64.wrap ((i : Int) - 1) = (k : Int) := by rw [IntKind.wrap_i64]; omega
        have k0 : (0 : Int) ≤ (k : Int) := by omega
        have k1 : (k : Int) < (i : Int) := by omega
        obtain ⟨x, hx⟩ : ∃ x, (l.map dotOf)[k]? = some x := ⟨_, List.getElem?_eq_getElem (by rw [List.length_map]; omega)⟩
        have HX := Lib.hid hx
        have HK := Lib.hid hk
        obtain ⟨g, e0, hgb, hgs, _, hgc⟩ := own_form_w HV1.out hpos
        subst e0
        have x3 := dc_at ((l.map dotOf).take i) k x (by rw [List.getElem?_take, if_pos (by omega)]; exact hx)
        have y1 := hgc _ _ x3.1
        have y2 := hgc _ _ x3.2.1
        have y3 := hgc _ _ x3.2.2
        have SV : ∀ U, V.grownBy U none → Hid (U.cell? ⟨w1.heap.size, 10, none⟩ = some (.slice (some ⟨g, 0, none⟩) i cv) ∧ U.cell? ⟨g, k * 3, none⟩ = some (.int .i64 x.1) ∧ U.cell? ⟨g, k * 3 + 1, none⟩ = some (.int .i64 x.2.1) ∧ U.cell? ⟨g, k * 3 + 2, none⟩ = some (.int .i64 x.2.2) ∧ U.cell? ⟨wr.heap.size, 0, none⟩ = some (.int .i64 a) ∧ U.cell? ⟨wr.heap.size, 1, none⟩ = some (.int .i64 b2) ∧ U.cell? ⟨wr.heap.size, 2, none⟩ = some (.int .i64 b4) ∧ V.grownBy U none) := fun U hU => by
          have o : ∀ b j, b < V.heap.size → U.cell? ⟨b, j, none⟩ = V.cell? ⟨b, j, none⟩ := fun b j hb => World.cell?_of_block (hU.block b hb (by simp))
          exact ⟨(o _ _ (by omega)).trans (by unfold World.cell?; rw [HO1]; rfl), (o _ _ hgs).trans y1, (o _ _ hgs).trans y2, (o _ _ hgs).trans y3, (o _ _ hszV).trans (by unfold World.cell?; rw [HDb]; rfl), (o _ _ hszV).trans (by unfold World.cell?; rw [HDb]; rfl), (o _ _ hszV).trans (by unfold World.cell?; rw [HDb]; rfl), hU⟩
        have d0 : V.grownBy V.drew none := only_drew (only_refl V none)
        clear x3 y1 y2 y3 hgc hx hk
        by_cases hl : dless x (a, b2, b4)
        · have LS : ∀ W, Hid (Calls Try.prog 22 #[.agg #[.int .i64 x.1, .int .i64 x.2.1, .int .i64 x.2.2], .agg #[.int .i64 a, .int .i64 b2, .int .i64 b4]] W fun e w' => e = .returned (.bool true) ∧ W.grownBy w' none) := fun W => less_is x (a, b2, b4) true (iff_yes hl) W
          go_wp2_with fail
          go_region_held3 (fun U => U.cell? ⟨w1.heap.size, 10, none⟩ = some (.slice (some ⟨g, 0, none⟩) i cv) ∧ U.cell? ⟨g, k * 3, none⟩ = some (.int .i64 x.1) ∧ U.cell? ⟨g, k * 3 + 1, none⟩ = some (.int .i64 x.2.1) ∧ U.cell? ⟨g, k * 3 + 2, none⟩ = some (.int .i64 x.2.2) ∧ U.cell? ⟨wr.heap.size, 0, none⟩ = some (.int .i64 a) ∧ U.cell? ⟨wr.heap.size, 1, none⟩ = some (.int .i64 b2) ∧ U.cell? ⟨wr.heap.size, 2, none⟩ = some (.int .i64 b4) ∧ V.grownBy U none) (first | exact (SV _ (by assumption)).out) ((first
            | (go_at_call 22; refine (LS _).out.mono ?_; rintro e wa ⟨rfl, ga⟩; have da : V.grownBy wa none := only_step d0 ga (fun _ h => by cases h))))
          have hW := da
          clear SV LS
          have eO : Hid (wa.heap[w1.heap.size]? = some (.cells (opCells (.slice (some ⟨g, 0, none⟩) i cv)) 26)) := (hW.block _ (by omega) (by simp)).trans HO1
          have eV : Hid (wa.ownsRow (w1.heap.size + 1) 23 3 (.slice (some ⟨g, 0, none⟩) i cv) i (dc ((l.map dotOf).take i))) := HV1.out.kept hW (by cases (Value.slice (some ⟨g, 0, none⟩) i cv).ownBlock <;> simp)
          have eD : wa.heap[wr.heap.size]? = some (.cells #[.int .i64 a, .int .i64 b2, .int .i64 b4] 23) := (hW.block _ hszV (by simp)).trans HDb
          have c10 : wa.cell? ⟨w1.heap.size, 10, none⟩ = some (.slice (some ⟨g, 0, none⟩) i cv) := by unfold World.cell?; rw [eO.out]; rfl
          have cd0 : wa.cell? ⟨wr.heap.size, 0, none⟩ = some (.int .i64 a) := by unfold World.cell?; rw [eD]; rfl
          have cd1 : wa.cell? ⟨wr.heap.size, 1, none⟩ = some (.int .i64 b2) := by unfold World.cell?; rw [eD]; rfl
          have cd2 : wa.cell? ⟨wr.heap.size, 2, none⟩ = some (.int .i64 b4) := by unfold World.cell?; rw [eD]; rfl
          have gW : Hid (w.grownBy wa none) := only_step hGV.out hW (fun _ h => by cases h)
          have zW : V.heap.size ≤ wa.heap.size := hW.size
          have hs1 : Hid (Src Try.prog 3 24 (.slice (some ⟨wa.heap.size, 0, none⟩) 1 1) 1 (dc [(a, b2, b4)]) (wa.alloc (.cells #[.int .i64 a, .int .i64 b2, .int .i64 b4] 23))) :=
            Src.ofSlice _ Try.underlying24 _ 1 1 _ rfl (fun j u hu => by
              rw [Addr.add_lit, Nat.zero_add]; exact cell_new _ _ _ j u (by rw [← hu, ← Array.getElem?_toList]; rfl)) (dc_one _)
          have eV1 : Hid ((wa.alloc (.cells #[.int .i64 a, .int .i64 b2, .int .i64 b4] 23)).ownsRow (w1.heap.size + 1) 23 3 (.slice (some ⟨g, 0, none⟩) i cv) i (dc ((l.map dotOf).take i))) := eV.out.kept (World.grownBy_alloc _ _ none) (by cases (Value.slice (some ⟨g, 0, none⟩) i cv).ownBlock <;> simp)
          have eO1 : Hid ((wa.alloc (.cells #[.int .i64 a, .int .i64 b2, .int .i64 b4] 23)).heap[w1.heap.size]? = some (.cells (opCells (.slice (some ⟨g, 0, none⟩) i cv)) 26)) := ((World.grownBy_alloc wa _ none).block _ (by omega) (by simp)).trans eO.out
          clear eD eV hW
          go_wp2_with (at_builtin; go_loud (refine app_dots rfl _ _ 24 rfl (w1.heap.size + 1) (.slice (some ⟨g, 0, none⟩) i cv) i _ rfl eV1.out (.slice (some ⟨wa.heap.size, 0, none⟩) 1 1) 1 _ rfl hs1.out (by omega) (by show _ ≤ (wa.heap.push _).size; rw [Array.size_push]; omega) ?_); intro v4 w4 g4; rw [TK.out] at g4; obtain ⟨A4, c4, rfl⟩ := own_slice_w g4.own; have e4 : Hid (w4.heap[w1.heap.size]? = some (.cells (opCells (.slice (some ⟨g, 0, none⟩) i cv)) 26)) := (g4.only.block _ (by show _ < (wa.heap.push _).size; rw [Array.size_push]; omega) (own_ne eV1.out).symm).trans eO1.out; have f10 : w4.frozen? ⟨w1.heap.size, 10, none⟩ = false := (by unfold World.frozen?; rw [e4.out]; simp); have k10 : w4.cell? ⟨w1.heap.size, 10, none⟩ = some (.slice (some ⟨g, 0, none⟩) i cv) := (by unfold World.cell?; rw [e4.out]; rfl); have g5 : Hid (w.grownBy w4 none) := only_step (only_alloc gW.out _) g4.only (fun k hk => .inr (by have := own_ge eV1.out k hk; have := g1.size; omega)); have o4 := Lib.hid g4.own; have z4 := g4.only.size; clear g4)
          have z5 : wa.heap.size < w4.heap.size := by have h : (wa.heap.push (.cells #[.int .i64 a, .int .i64 b2, .int .i64 b4] 23)).size ≤ w4.heap.size := z4; rw [Array.size_push] at h; omega
          refine ⟨⟨i + 1, rb, .slice A4 (i + 1) c4, by omega, by go_num, rfl, NW _ ?_, heap_setCell_same _ _ _ _ _ _ e4.out, o4.out.kept (only_set (only_refl w4 (some w1.heap.size)) (.inl rfl) _) (.inr (own_ne o4.out)), by rw [World.size_setCell]; omega, only_set g5.out (.inr g1.size) _⟩, ?_⟩
          · exact ⟨fun h => ⟨HR.out.1 h, fun k2 x2 hk2 hx2 => by obtain rfl : k2 = k := by (have := HK.out; omega)
                                                                 rw [HX.out] at hx2; cases hx2; exact hl⟩, fun h => HR.out.2 h.1⟩
          · simp [intOf]; omega
        · have LS : ∀ W, Hid (Calls Try.prog 22 #[.agg #[.int .i64 x.1, .int .i64 x.2.1, .int .i64 x.2.2], .agg #[.int .i64 a, .int .i64 b2, .int .i64 b4]] W fun e w' => e = .returned (.bool false) ∧ W.grownBy w' none) := fun W => less_is x (a, b2, b4) false (iff_not hl) W
          go_wp2_with fail
          go_region_held3 (fun U => U.cell? ⟨w1.heap.size, 10, none⟩ = some (.slice (some ⟨g, 0, none⟩) i cv) ∧ U.cell? ⟨g, k * 3, none⟩ = some (.int .i64 x.1) ∧ U.cell? ⟨g, k * 3 + 1, none⟩ = some (.int .i64 x.2.1) ∧ U.cell? ⟨g, k * 3 + 2, none⟩ = some (.int .i64 x.2.2) ∧ U.cell? ⟨wr.heap.size, 0, none⟩ = some (.int .i64 a) ∧ U.cell? ⟨wr.heap.size, 1, none⟩ = some (.int .i64 b2) ∧ U.cell? ⟨wr.heap.size, 2, none⟩ = some (.int .i64 b4) ∧ V.grownBy U none) (first | exact (SV _ (by assumption)).out) ((first
            | (go_at_call 22; refine (LS _).out.mono ?_; rintro e wa ⟨rfl, ga⟩; have da : V.grownBy wa none := only_step d0 ga (fun _ h => by cases h))))
          have hW := da
          clear SV LS
          have eO : Hid (wa.heap[w1.heap.size]? = some (.cells (opCells (.slice (some ⟨g, 0, none⟩) i cv)) 26)) := (hW.block _ (by omega) (by simp)).trans HO1
          have eV : Hid (wa.ownsRow (w1.heap.size + 1) 23 3 (.slice (some ⟨g, 0, none⟩) i cv) i (dc ((l.map dotOf).take i))) := HV1.out.kept hW (by cases (Value.slice (some ⟨g, 0, none⟩) i cv).ownBlock <;> simp)
          have eD : wa.heap[wr.heap.size]? = some (.cells #[.int .i64 a, .int .i64 b2, .int .i64 b4] 23) := (hW.block _ hszV (by simp)).trans HDb
          have c10 : wa.cell? ⟨w1.heap.size, 10, none⟩ = some (.slice (some ⟨g, 0, none⟩) i cv) := by unfold World.cell?; rw [eO.out]; rfl
          have cd0 : wa.cell? ⟨wr.heap.size, 0, none⟩ = some (.int .i64 a) := by unfold World.cell?; rw [eD]; rfl
          have cd1 : wa.cell? ⟨wr.heap.size, 1, none⟩ = some (.int .i64 b2) := by unfold World.cell?; rw [eD]; rfl
          have cd2 : wa.cell? ⟨wr.heap.size, 2, none⟩ = some (.int .i64 b4) := by unfold World.cell?; rw [eD]; rfl
          have gW : Hid (w.grownBy wa none) := only_step hGV.out hW (fun _ h => by cases h)
          have zW : V.heap.size ≤ wa.heap.size := hW.size
          have hs1 : Hid (Src Try.prog 3 24 (.slice (some ⟨wa.heap.size, 0, none⟩) 1 1) 1 (dc [(a, b2, b4)]) (wa.alloc (.cells #[.int .i64 a, .int .i64 b2, .int .i64 b4] 23))) :=
            Src.ofSlice _ Try.underlying24 _ 1 1 _ rfl (fun j u hu => by
              rw [Addr.add_lit, Nat.zero_add]; exact cell_new _ _ _ j u (by rw [← hu, ← Array.getElem?_toList]; rfl)) (dc_one _)
          have eV1 : Hid ((wa.alloc (.cells #[.int .i64 a, .int .i64 b2, .int .i64 b4] 23)).ownsRow (w1.heap.size + 1) 23 3 (.slice (some ⟨g, 0, none⟩) i cv) i (dc ((l.map dotOf).take i))) := eV.out.kept (World.grownBy_alloc _ _ none) (by cases (Value.slice (some ⟨g, 0, none⟩) i cv).ownBlock <;> simp)
          have eO1 : Hid ((wa.alloc (.cells #[.int .i64 a, .int .i64 b2, .int .i64 b4] 23)).heap[w1.heap.size]? = some (.cells (opCells (.slice (some ⟨g, 0, none⟩) i cv)) 26)) := ((World.grownBy_alloc wa _ none).block _ (by omega) (by simp)).trans eO.out
          clear eD eV hW
          go_wp2_with (at_builtin; go_loud (refine app_dots rfl _ _ 24 rfl (w1.heap.size + 1) (.slice (some ⟨g, 0, none⟩) i cv) i _ rfl eV1.out (.slice (some ⟨wa.heap.size, 0, none⟩) 1 1) 1 _ rfl hs1.out (by omega) (by show _ ≤ (wa.heap.push _).size; rw [Array.size_push]; omega) ?_); intro v4 w4 g4; rw [TK.out] at g4; obtain ⟨A4, c4, rfl⟩ := own_slice_w g4.own; have e4 : Hid (w4.heap[w1.heap.size]? = some (.cells (opCells (.slice (some ⟨g, 0, none⟩) i cv)) 26)) := (g4.only.block _ (by show _ < (wa.heap.push _).size; rw [Array.size_push]; omega) (own_ne eV1.out).symm).trans eO1.out; have f10 : w4.frozen? ⟨w1.heap.size, 10, none⟩ = false := (by unfold World.frozen?; rw [e4.out]; simp); have k10 : w4.cell? ⟨w1.heap.size, 10, none⟩ = some (.slice (some ⟨g, 0, none⟩) i cv) := (by unfold World.cell?; rw [e4.out]; rfl); have g5 : Hid (w.grownBy w4 none) := only_step (only_alloc gW.out _) g4.only (fun k hk => .inr (by have := own_ge eV1.out k hk; have := g1.size; omega)); have o4 := Lib.hid g4.own; have z4 := g4.only.size; clear g4)
          have z5 : wa.heap.size < w4.heap.size := by have h : (wa.heap.push (.cells #[.int .i64 a, .int .i64 b2, .int .i64 b4] 23)).size ≤ w4.heap.size := z4; rw [Array.size_push] at h; omega
          refine ⟨⟨i + 1, false, .slice A4 (i + 1) c4, by omega, by go_num, rfl, NW _ ?_, heap_setCell_same _ _ _ _ _ _ e4.out, o4.out.kept (only_set (only_refl w4 (some w1.heap.size)) (.inl rfl) _) (.inr (own_ne o4.out)), by rw [World.size_setCell]; omega, only_set g5.out (.inr g1.size) _⟩, ?_⟩
          · exact ⟨fun h => (by cases h), fun h => absurd (h.2 k x HK.out HX.out) hl⟩
          · simp [intOf]; omega
      · have v1 : ¬ (0 : Int) < (i : Int) := by omega
        have r0 : V.grownBy V.drew none := only_drew (only_refl V none)
        go_wp2_with fail
        refine wp_region_held_drew (S := fun _ => True) (by kernel_rfl) trivial (fun hHeld => ?_)
        refine wpAnyH_take (i := 0) (oi := { dst := some 41, op := Op.move (Operand.tmp 5), type := 3, pos := "more.go:81", after := #[], guard := none }) (v := ?_) rfl (by kernel_rfl) (by kernel_rfl) (by kernel_rfl) (fun _ _ _ h => h) (Or.inl ⟨by rfl, ?_⟩) hHeld ?_
        rotate_left
        · (intro W hSw; (try dsimp only at hSw); go_simp; try with_reducible rfl)
        try simp only [Act.put, List.setIfInBounds_toArray, List.set_cons_zero, List.set_cons_succ]
        refine wpAnyH_take (i := 1) (oi := { dst := some 42, op := Op.binOp BinOp.gtr 3 (Operand.tmp 41) (Operand.const (Value.int IntKind.i64 0)) 3, type := 4, pos := "more.go:81", after := #[{ on := 0, ground := Ground.data }], guard := none }) (v := ?_) rfl (by kernel_rfl) (by kernel_rfl) (by kernel_rfl) (fun _ _ _ h => h) (Or.inl ⟨by rfl, ?_⟩) hHeld ?_
        rotate_left
        · (intro W hSw; (try dsimp only at hSw); go_simp; try with_reducible rfl)
        try simp only [Act.put, List.setIfInBounds_toArray, List.set_cons_zero, List.set_cons_succ]
        refine wpAnyH_take (i := 2) (oi := { dst := some 43, op := Op.move (Operand.tmp 42), type := 4, pos := "more.go:81", after := #[{ on := 1, ground := Ground.data }], guard := none }) (v := ?_) rfl (by kernel_rfl) (by kernel_rfl) (by kernel_rfl) (fun _ _ _ h => h) (Or.inl ⟨by rfl, ?_⟩) hHeld ?_
        rotate_left
        · (intro W hSw; (try dsimp only at hSw); go_simp; try with_reducible rfl)
        try simp only [Act.put, List.setIfInBounds_toArray, List.set_cons_zero, List.set_cons_succ]
        refine wpAnyH_take (i := 3) (oi := { dst := some 44, op := Op.fieldAddr 26 (Operand.tmp 3) 8, type := 0, pos := "more.go:81", after := #[{ on := 2, ground := Ground.guard }], guard := some (2, true) }) (v := undef) rfl (by kernel_rfl) (by kernel_rfl) (by kernel_rfl) (fun _ _ _ h => h) (Or.inr ⟨by rfl, rfl⟩) hHeld ?_
        try simp only [Act.put, List.setIfInBounds_toArray, List.set_cons_zero, List.set_cons_succ]
        refine wpAnyH_take (i := 4) (oi := { dst := some 45, op := Op.load 24 (Operand.tmp 44), type := 24, pos := "more.go:81", after := #[{ on := 3, ground := Ground.data }, { on := 2, ground := Ground.guard }], guard := some (2, true) }) (v := undef) rfl (by kernel_rfl) (by kernel_rfl) (by kernel_rfl) (fun _ _ _ h => h) (Or.inr ⟨by rfl, rfl⟩) hHeld ?_
        try simp only [Act.put, List.setIfInBounds_toArray, List.set_cons_zero, List.set_cons_succ]
        refine wpAnyH_take (i := 5) (oi := { dst := some 46, op := Op.move (Operand.tmp 5), type := 3, pos := "more.go:81", after := #[{ on := 2, ground := Ground.guard }], guard := some (2, true) }) (v := undef) rfl (by kernel_rfl) (by kernel_rfl) (by kernel_rfl) (fun _ _ _ h => h) (Or.inr ⟨by rfl, rfl⟩) hHeld ?_
        try simp only [Act.put, List.setIfInBounds_toArray, List.set_cons_zero, List.set_cons_succ]
        refine wpAnyH_take (i := 6) (oi := { dst := some 47, op := Op.binOp BinOp.sub 3 (Operand.tmp 46) (Operand.const (Value.int IntKind.i64 1)) 3, type := 3, pos := "more.go:81", after := #[{ on := 5, ground := Ground.data }, { on := 2, ground := Ground.guard }], guard := some (2, true) }) (v := undef) rfl (by kernel_rfl) (by kernel_rfl) (by kernel_rfl) (fun _ _ _ h => h) (Or.inr ⟨by rfl, rfl⟩) hHeld ?_
        try simp only [Act.put, List.setIfInBounds_toArray, List.set_cons_zero, List.set_cons_succ]
        refine wpAnyH_take (i := 7) (oi := { dst := some 48, op := Op.indexAddr 24 (Operand.tmp 45) (Operand.tmp 47), type := 0, pos := "more.go:81", after := #[{ on := 4, ground := Ground.data }, { on := 6, ground := Ground.data }, { on := 2, ground := Ground.guard }], guard := some (2, true) }) (v := undef) rfl (by kernel_rfl) (by kernel_rfl) (by kernel_rfl) (fun _ _ _ h => h) (Or.inr ⟨by rfl, rfl⟩) hHeld ?_
        try simp only [Act.put, List.setIfInBounds_toArray, List.set_cons_zero, List.set_cons_succ]
        refine wpAnyH_take (i := 8) (oi := { dst := some 49, op := Op.load 23 (Operand.tmp 48), type := 23, pos := "more.go:81", after := #[{ on := 7, ground := Ground.data }, { on := 2, ground := Ground.guard }], guard := some (2, true) }) (v := undef) rfl (by kernel_rfl) (by kernel_rfl) (by kernel_rfl) (fun _ _ _ h => h) (Or.inr ⟨by rfl, rfl⟩) hHeld ?_
        try simp only [Act.put, List.setIfInBounds_toArray, List.set_cons_zero, List.set_cons_succ]
        refine wpAnyH_take (i := 9) (oi := { dst := some 50, op := Op.load 23 (Operand.tmp 6), type := 23, pos := "more.go:81", after := #[{ on := 2, ground := Ground.guard }], guard := some (2, true) }) (v := undef) rfl (by kernel_rfl) (by kernel_rfl) (by kernel_rfl) (fun _ _ _ h => h) (Or.inr ⟨by rfl, rfl⟩) hHeld ?_
        try simp only [Act.put, List.setIfInBounds_toArray, List.set_cons_zero, List.set_cons_succ]
        refine wpAnyH_take (i := 10) (oi := { dst := some 51, op := Op.call { callee := Callee.value (Operand.func 22), args := #[Operand.tmp 49, Operand.tmp 50], argTypes := #[23, 23] }, type := 4, pos := "more.go:81", after := #[{ on := 8, ground := Ground.data }, { on := 9, ground := Ground.data }, { on := 2, ground := Ground.chain }, { on := 2, ground := Ground.guard }], guard := some (2, true) }) (v := undef) rfl (by kernel_rfl) (by kernel_rfl) (by kernel_rfl) (fun _ _ _ h => h) (Or.inr ⟨by rfl, rfl⟩) hHeld ?_
        try simp only [Act.put, List.setIfInBounds_toArray, List.set_cons_zero, List.set_cons_succ]
        refine wpAnyH_take (i := 11) (oi := { dst := some 52, op := Op.unOp UnOp.not 4 (Operand.tmp 51), type := 4, pos := "more.go:81", after := #[{ on := 10, ground := Ground.data }, { on := 2, ground := Ground.guard }], guard := some (2, true) }) (v := undef) rfl (by kernel_rfl) (by kernel_rfl) (by kernel_rfl) (fun _ _ _ h => h) (Or.inr ⟨by rfl, rfl⟩) hHeld ?_
        try simp only [Act.put, List.setIfInBounds_toArray, List.set_cons_zero, List.set_cons_succ]
        refine wpAnyH_take (i := 12) (oi := { dst := some 53, op := Op.pick (Operand.tmp 43) (Operand.tmp 52) (Operand.const (Value.bool false)), type := 4, pos := "more.go:81", after := #[{ on := 2, ground := Ground.data }, { on := 11, ground := Ground.data }], guard := none }) (v := ?_) rfl (by kernel_rfl) (by kernel_rfl) (by kernel_rfl) (fun _ _ _ h => h) (Or.inl ⟨by rfl, ?_⟩) hHeld ?_
        rotate_left
        · (intro W hSw; (try dsimp only at hSw); go_simp; try with_reducible rfl)
        try simp only [Act.put, List.setIfInBounds_toArray, List.set_cons_zero, List.set_cons_succ]
        refine wpAnyH_done (by kernel_rfl) ?_ _
        obtain ⟨wa, hwa⟩ : ∃ x, x = V.drew := ⟨_, rfl⟩
        rw [← hwa]
        have hW : V.grownBy wa none := by rw [hwa]; exact r0
        clear hwa r0
        have eO : Hid (wa.heap[w1.heap.size]? = some (.cells (opCells (.slice Av i cv)) 26)) := (hW.block _ (by omega) (by simp)).trans HO1
        have eV : Hid (wa.ownsRow (w1.heap.size + 1) 23 3 (.slice Av i cv) i (dc ((l.map dotOf).take i))) := HV1.out.kept hW (by cases (Value.slice Av i cv).ownBlock <;> simp)
        have eD : wa.heap[wr.heap.size]? = some (.cells #[.int .i64 a, .int .i64 b2, .int .i64 b4] 23) := (hW.block _ hszV (by simp)).trans HDb
        have c10 : wa.cell? ⟨w1.heap.size, 10, none⟩ = some (.slice Av i cv) := by unfold World.cell?; rw [eO.out]; rfl
        have cd0 : wa.cell? ⟨wr.heap.size, 0, none⟩ = some (.int .i64 a) := by unfold World.cell?; rw [eD]; rfl
        have cd1 : wa.cell? ⟨wr.heap.size, 1, none⟩ = some (.int .i64 b2) := by unfold World.cell?; rw [eD]; rfl
        have cd2 : wa.cell? ⟨wr.heap.size, 2, none⟩ = some (.int .i64 b4) := by unfold World.cell?; rw [eD]; rfl
        have gW : Hid (w.grownBy wa none) := only_step hGV.out hW (fun _ h => by cases h)
        have zW : V.heap.size ≤ wa.heap.size := hW.size
        have hs1 : Hid (Src Try.prog 3 24 (.slice (some ⟨wa.heap.size, 0, none⟩) 1 1) 1 (dc [(a, b2, b4)]) (wa.alloc (.cells #[.int .i64 a, .int .i64 b2, .int .i64 b4] 23))) :=
          Src.ofSlice _ Try.underlying24 _ 1 1 _ rfl (fun j u hu => by
            rw [Addr.add_lit, Nat.zero_add]; exact cell_new _ _ _ j u (by rw [← hu, ← Array.getElem?_toList]; rfl)) (dc_one _)
        have eV1 : Hid ((wa.alloc (.cells #[.int .i64 a, .int .i64 b2, .int .i64 b4] 23)).ownsRow (w1.heap.size + 1) 23 3 (.slice Av i cv) i (dc ((l.map dotOf).take i))) := eV.out.kept (World.grownBy_alloc _ _ none) (by cases (Value.slice Av i cv).ownBlock <;> simp)
        have eO1 : Hid ((wa.alloc (.cells #[.int .i64 a, .int .i64 b2, .int .i64 b4] 23)).heap[w1.heap.size]? = some (.cells (opCells (.slice Av i cv)) 26)) := ((World.grownBy_alloc wa _ none).block _ (by omega) (by simp)).trans eO.out
        clear eD eV hW
        go_wp2_with (at_builtin; go_loud (refine app_dots rfl _ _ 24 rfl (w1.heap.size + 1) (.slice Av i cv) i _ rfl eV1.out (.slice (some ⟨wa.heap.size, 0, none⟩) 1 1) 1 _ rfl hs1.out (by omega) (by show _ ≤ (wa.heap.push _).size; rw [Array.size_push]; omega) ?_); intro v4 w4 g4; rw [TK.out] at g4; obtain ⟨A4, c4, rfl⟩ := own_slice_w g4.own; have e4 : Hid (w4.heap[w1.heap.size]? = some (.cells (opCells (.slice Av i cv)) 26)) := (g4.only.block _ (by show _ < (wa.heap.push _).size; rw [Array.size_push]; omega) (own_ne eV1.out).symm).trans eO1.out; have f10 : w4.frozen? ⟨w1.heap.size, 10, none⟩ = false := (by unfold World.frozen?; rw [e4.out]; simp); have k10 : w4.cell? ⟨w1.heap.size, 10, none⟩ = some (.slice Av i cv) := (by unfold World.cell?; rw [e4.out]; rfl); have g5 : Hid (w.grownBy w4 none) := only_step (only_alloc gW.out _) g4.only (fun k hk => .inr (by have := own_ge eV1.out k hk; have := g1.size; omega)); have o4 := Lib.hid g4.own; have z4 := g4.only.size; clear g4)
        have z5 : wa.heap.size < w4.heap.size := by have h : (wa.heap.push (.cells #[.int .i64 a, .int .i64 b2, .int .i64 b4] 23)).size ≤ w4.heap.size := z4; rw [Array.size_push] at h; omega
        refine ⟨⟨i + 1, rb, .slice A4 (i + 1) c4, by omega, by go_num, rfl, NW _ ?_, heap_setCell_same _ _ _ _ _ _ e4.out, o4.out.kept (only_set (only_refl w4 (some w1.heap.size)) (.inl rfl) _) (.inr (own_ne o4.out)), by rw [World.size_setCell]; omega, only_set g5.out (.inr g1.size) _⟩, ?_⟩
        · exact ⟨fun h => ⟨HR.out.1 h, fun k x hk => absurd hk (by omega)⟩, fun h => HR.out.2 h.1⟩
        · simp [intOf]; omega
    · have u1 : ¬ (i : Int) < (l.length : Int) := by omega
      obtain rfl : i = l.length := by omega
      rw [List.take_of_length_le (by rw [List.length_map]; omega)] at HR HV
      obtain ⟨Av, cv, rfl⟩ := own_slice_w HV.out
      have c0 : wr.cell? ⟨w1.heap.size, 0, none⟩ = some (.int .i64 0) := by unfold World.cell?; rw [HO.out]; rfl
      have c1 : wr.cell? ⟨w1.heap.size, 1, none⟩ = some (.int .i64 1) := by unfold World.cell?; rw [HO.out]; rfl
      have c2 : wr.cell? ⟨w1.heap.size, 2, none⟩ = some (.int .i64 1) := by unfold World.cell?; rw [HO.out]; rfl
      have c3 : wr.cell? ⟨w1.heap.size, 3, none⟩ = some (.int .i64 0) := by unfold World.cell?; rw [HO.out]; rfl
      have c4 : wr.cell? ⟨w1.heap.size, 4, none⟩ = some (.int .i64 1) := by unfold World.cell?; rw [HO.out]; rfl
      have c5 : wr.cell? ⟨w1.heap.size, 5, none⟩ = some (.int .i64 3) := by unfold World.cell?; rw [HO.out]; rfl
      have c6 : wr.cell? ⟨w1.heap.size, 6, none⟩ = some (.string { data := #[107] }) := by unfold World.cell?; rw [HO.out]; rfl
      have c7 : wr.cell? ⟨w1.heap.size, 7, none⟩ = some (.string { data := #[] }) := by unfold World.cell?; rw [HO.out]; rfl
      have c8 : wr.cell? ⟨w1.heap.size, 8, none⟩ = some (.int .i64 0) := by unfold World.cell?; rw [HO.out]; rfl
      have c9 : wr.cell? ⟨w1.heap.size, 9, none⟩ = some (.int .i64 0) := by unfold World.cell?; rw [HO.out]; rfl
      have c10 : wr.cell? ⟨w1.heap.size, 10, none⟩ = some (.slice Av l.length cv) := by unfold World.cell?; rw [HO.out]; rfl
      have CK := check_rem Av cv (l.map dotOf) rb HR.out wr (Has.own_w HV.out)
      unfold dotsP at CK
      rw [List.length_map] at CK
      clear HR HV HO
      by_cases h8 : 8 < l.length
      · have v8 : (8 : Int) < (l.length : Int) := by omega
        rw [if_pos h8] at CK
        have CK' := Lib.hid CK
        clear CK h8
        go_wp2_with fail
        refine CK'.out.mono ?_
        rintro _ w9 ⟨rfl, g9⟩
        go_wp2_with fail
        go_ret
        exact ⟨rfl, only_step hG.out g9 (fun _ h => by cases h)⟩
      · have v8 : ¬ (8 : Int) < (l.length : Int) := by omega
        rw [if_neg h8] at CK
        clear h8
        cases rb
        · have CK' := Lib.hid CK
          clear CK
          go_wp2_with fail
          refine CK'.out.mono ?_
          rintro _ w9 ⟨rfl, g9⟩
          go_wp2_with fail
          go_ret
          exact ⟨rfl, only_step hG.out g9 (fun _ h => by cases h)⟩
        · have CK' := Lib.hid CK
          clear CK
          go_wp2_with fail
          refine CK'.out.mono ?_
          rintro _ w9 ⟨rfl, g9⟩
          go_wp2_with fail
          go_ret
          exact ⟨rfl, only_step hG.out g9 (fun _ h => by cases h)⟩

theorem opsDots_walk (A : Option Addr) (c : Nat) (l : List Int) (w : World) (h : Has w w.heap.size A (is_ l)) (hb : ∀ n ∈ l, -9223372036854775808 ≤ n ∧ n ≤ 9223372036854775807) :
    Calls Try.prog 8 #[.slice A l.length c] w fun e w' => e = .returned (.bool true) ∧ w.grownBy w' none := by
  by_cases hl : l.length ≤ 12
  · exact dots_core A c l w h hb hl
  · have t0 : (12 : Int) < (l.length : Int) := by omega
    clear h hb
    go_enter Try.func8, Try.ntmps8
    go_wp2_with fail
    refine (known_any _).mono ?_
    rintro _ w1 ⟨rfl, g1⟩
    go_wp2_with fail
    go_ret
    exact ⟨rfl, g1⟩
end Go.Proofs.Ytcmpeohooiehcaa
