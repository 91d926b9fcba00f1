/- A row without a number: plain facts; ranges.Less. No condition of the program's own. -/
import Derived.Test.YtnljccmchmclnaaRx
namespace Go.Proofs.Ytnljccmchmclnaa
open Go.RowKit Go.Deep

def two (r : E2) (n : Int) : List E2 := [(r.1, n), (n + 1, r.2)]
def gd (y : E2) : Bool := decide (y.1 < y.2)
def lessP (l : List E2) (k : Nat) (n : Int) (r : E2) : List E2 := l.take k ++ (two r n).filter gd ++ l.drop (k + 1)
theorem split_at (l : List E2) (k : Nat) (r : E2) (hr : l[k]? = some r) : l = l.take k ++ r :: l.drop (k + 1) := by
  obtain ⟨hk, rfl⟩ := List.getElem?_eq_some_iff.1 hr
  rw [← List.drop_eq_getElem_cons hk, List.take_append_drop]
theorem two_ok (r : E2) (n : Int) (hr : okR r) (h1 : r.1 ≤ n) (h2 : n < r.2) :
    RW ((two r n).filter gd) ∧ (∀ x, mem ((two r n).filter gd) x ↔ (r.1 ≤ x ∧ x < r.2) ∧ x ≠ n) ∧ rlen ((two r n).filter gd) = r.2 - r.1 - 1 ∧ (∀ y ∈ (two r n).filter gd, r.1 ≤ y.1 ∧ y.2 ≤ r.2) ∧ ((two r n).filter gd).length ≤ 2 := by
  unfold okR at hr
  have e : (two r n).filter gd = (if r.1 < n then [(r.1, n)] else []) ++ (if n + 1 < r.2 then [(n + 1, r.2)] else []) := by
    unfold two gd
    by_cases a : r.1 < n <;> by_cases b : n + 1 < r.2 <;> simp [a, b]
  rw [e]
  by_cases a : r.1 < n
  · by_cases b : n + 1 < r.2
    · rw [if_pos a, if_pos b]
      refine ⟨RW.app.2 ⟨RW.one ⟨hr.1, a, by show n ≤ _; omega⟩, RW.one ⟨by show 0 ≤ n + 1; omega, b, hr.2.2⟩, fun x hx y hy => ?_⟩, fun x => ?_, ?_, ?_, by simp⟩
      · simp at hx hy; subst hx hy; show n < n + 1; omega
      · rw [mem_app, mem_cons, mem_cons, mem_nil]; simp only [or_false]; omega
      · rw [rlen_app]; simp only [rlen]; omega
      · intro y hy; simp at hy; rcases hy with rfl | rfl
        · exact ⟨Int.le_refl _, by show n ≤ _; omega⟩
        · exact ⟨by show _ ≤ n + 1; omega, Int.le_refl _⟩
    · rw [if_pos a, if_neg b]
      refine ⟨RW.app.2 ⟨RW.one ⟨hr.1, a, by show n ≤ _; omega⟩, RW.nil, fun x hx y hy => by cases hy⟩, fun x => ?_, ?_, ?_, by simp⟩
      · rw [mem_app, mem_cons, mem_nil]; simp only [or_false]; omega
      · rw [rlen_app]; simp only [rlen]; omega
      · intro y hy; simp at hy; subst hy
        exact ⟨Int.le_refl _, by show n ≤ _; omega⟩
  · by_cases b : n + 1 < r.2
    · rw [if_neg a, if_pos b]
      refine ⟨RW.app.2 ⟨RW.nil, RW.one ⟨by show 0 ≤ n + 1; omega, b, hr.2.2⟩, fun x hx => by cases hx⟩, fun x => ?_, ?_, ?_, by simp⟩
      · rw [mem_app, mem_cons, mem_nil]; simp only [false_or, or_false]; omega
      · rw [rlen_app]; simp only [rlen]; omega
      · intro y hy; simp at hy; subst hy
        exact ⟨by show _ ≤ n + 1; omega, Int.le_refl _⟩
    · rw [if_neg a, if_neg b]
      refine ⟨RW.nil, fun x => ?_, ?_, ?_, by simp⟩
      · rw [List.nil_append, mem_nil]; exact ⟨fun h => h.elim, fun h => by obtain ⟨⟨q1, q2⟩, q3⟩ := h; omega⟩
      · rw [List.nil_append]; simp only [rlen]; omega
      · intro y hy; cases hy
structure LessOk (l L : List E2) (n : Int) : Prop where
  rw_ : RW L
  mem_ : ∀ x, mem L x ↔ mem l x ∧ x ≠ n
  len : rlen L = rlen l - 1
  nL : L.length ≤ l.length + 1
theorem less_ok (l : List E2) (k : Nat) (n : Int) (r : E2) (hw : RW l) (hr : l[k]? = some r) (h1 : r.1 ≤ n) (h2 : n < r.2) : LessOk l (lessP l k n r) n := by
  have e := split_at l k r hr
  have hw' := hw
  rw [e] at hw'
  obtain ⟨a, b, c⟩ := RW.app.1 hw'
  obtain ⟨d, f, g⟩ := RW.cons.1 b
  obtain ⟨t1, t2, t3, t4, t5⟩ := two_ok r n d h1 h2
  have hlt : ∀ x ∈ l.take k, x.2 < r.1 := fun x hx => c x hx r (by simp)
  unfold lessP
  refine ⟨RW.app.2 ⟨RW.app.2 ⟨a, t1, fun x hx y hy => ?_⟩, g, fun x hx y hy => ?_⟩, fun x => ?_, ?_, ?_⟩
  · have := hlt x hx; have := (t4 y hy).1; omega
  · rcases List.mem_append.1 hx with hx | hx
    · exact c x hx y (by simp [hy])
    · have := (t4 x hx).2; have := f y hy; omega
  · have hl : mem l x ↔ mem (l.take k) x ∨ (r.1 ≤ x ∧ x < r.2) ∨ mem (l.drop (k + 1)) x := by
      have := mem_app (l.take k) (r :: l.drop (k + 1)) x
      rw [← e, mem_cons] at this; exact this
    rw [mem_app, mem_app, t2 x, hl]
    have p1 : mem (l.take k) x → x ≠ n := fun ⟨y, hy, _, hy2⟩ => by have := hlt y hy; omega
    have p2 : mem (l.drop (k + 1)) x → x ≠ n := fun ⟨y, hy, hy1, _⟩ => by have := f y hy; omega
    constructor
    · rintro ((q | q) | q)
      · exact ⟨.inl q, p1 q⟩
      · exact ⟨.inr (.inl q.1), q.2⟩
      · exact ⟨.inr (.inr q), p2 q⟩
    · rintro ⟨q | q | q, z⟩
      · exact .inl (.inl q)
      · exact .inl (.inr ⟨q, z⟩)
      · exact .inr q
  · have := congrArg rlen e
    rw [rlen_app, rlen] at this
    rw [rlen_app, rlen_app, t3, this]; omega
  · have := congrArg List.length e
    simp only [List.length_append, List.length_cons] at this ⊢
    omega
theorem run_make_cap {P : Program} (w : World) (t e : TypeId) (z : Value) (s bytes : Nat) (ht : P.underlying t = some (.slice e)) (hinfo : (P.info? e).map (fun i => (i.zero, i.size, i.bytes)) = some (some z, s, bytes))
    (kl kc : IntKind) (k n : Nat) (hk : k ≤ n) (hbytes : bytes * n ≤ 281474976710656) (h63 : n ≤ maxLen) :
    (Instr.makeSlice t (.int kl (k : Int)) (.int kc (n : Int))).run P w = .ok (.slice (some ⟨w.heap.size, 0, none⟩) k n) (w.alloc (.cells (madeCells z.cells (n * s)) e)) := by
  obtain ⟨i, hi, hzz⟩ := Option.map_eq_some_iff.1 hinfo
  simp only [Prod.mk.injEq] at hzz
  obtain ⟨hz, hs, hb⟩ := hzz
  subst hs; subst hb
  have h63' : (n : Int) ≤ 9223372036854775807 := by
    have h := h63
    simp [maxLen] at h
    omega
  have hb' : (i.bytes : Int) * (n : Int) ≤ 281474976710656 := by
    have h : ((i.bytes * n : Nat) : Int) ≤ 281474976710656 := by omega
    rwa [Int.natCast_mul] at h
  have hr := run_make (P := P) w t e i z ht hi hz kl kc k n (by omega) (by omega) hb' h63'
  simp only [Int.toNat_natCast] at hr
  exact hr
/-- The row of four cells. -/
def L4 (w : World) (B : Nat) (r : E2) (n : Int) : Prop := w.heap[B]? = some (.cells #[.int .i64 r.1, .int .i64 n, .int .i64 (n + 1), .int .i64 r.2] 24 (0, 0))
theorem L4.at_ {w : World} {B : Nat} {r : E2} {n : Int} (h : L4 w B r n) {j : Nat} {y : E2} (hy : (two r n)[j]? = some y) : w.cell? ⟨B, j * 2, none⟩ = some (.int .i64 y.1) ∧ w.cell? ⟨B, j * 2 + 1, none⟩ = some (.int .i64 y.2) := by
  match j, hy with
  | 0, hy => cases hy; exact ⟨cell_of_heap h 0 _ rfl, cell_of_heap h 1 _ rfl⟩
  | 1, hy => cases hy; exact ⟨cell_of_heap h 2 _ rfl, cell_of_heap h 3 _ rfl⟩
theorem size_al (a : World) (o : Obj) : (a.alloc o).heap.size = a.heap.size + 1 := by show (a.heap.push _).size = _; rw [Array.size_push]
theorem filt_snoc (m : List E2) (j : Nat) (y : E2) (hy : m[j]? = some y) : (m.take (j + 1)).filter gd = (m.take j).filter gd ++ (if gd y then [y] else []) := by
  rw [List.take_add_one, hy, List.filter_append]
  congr 1
  show List.filter gd [y] = _
  simp only [List.filter]
  split <;> simp_all
/-- What has been put out so far. -/
structure Li (w : World) (B : Nat) (v : Value) (m : Nat) (L : List E2) (r : E2) (n : Int) (V : World) : Prop where
  own : V.ownsRow w.heap.size 24 2 v m (pc L)
  only : w.grownBy V none
  ne : v.ownBlock ≠ some B
  l4 : L4 V B r n
theorem Li.keep {w : World} {B : Nat} {v : Value} {m : Nat} {L : List E2} {r : E2} {n : Int} {V V' : World} (h : Li w B v m L r n V) (g : V.grownBy V' none) : Li w B v m L r n V' :=
  ⟨h.own.kept g (by cases v.ownBlock <;> simp), grow2 h.only g, h.ne, (g.block B (Array.getElem?_eq_some_iff.1 h.l4).1 (by simp)).trans h.l4⟩
theorem Li.of {w : World} {B : Nat} {v v' : Value} {m m' : Nat} {L L' : List E2} {r : E2} {n : Int} {V V' : World} (h : Li w B v m L r n V) (g : GrewW V V' w.heap.size 24 2 v v' m' (pc L')) : Li w B v' m' L' r n V' := by
  have lt := (Array.getElem?_eq_some_iff.1 h.l4).1
  refine ⟨g.own, only_step h.only g.only (fun k hk => .inr (own_ge h.own k hk)), ?_, (g.only.block B lt (fun e => h.ne e.symm)).trans h.l4⟩
  rcases g.at_ with e | ⟨k, e, hk⟩
  · rw [e]; exact h.ne
  · rw [e]; intro q; injection q with q; omega
set_option maxRecDepth 100000 in
set_option maxHeartbeats 4000000 in
theorem less_hit (A : Option Addr) (c : Nat) (l : List E2) (n : Int) (k : Nat) (r : E2) (w : World) (h : Vw w w.heap.size A c l) (hl : l.length ≤ 1000000) (hk : At l n k) (hr : l[k]? = some r) (ok : okR r) :
    Calls Try.prog 15 #[.slice A l.length c, .int .i64 n] w fun e w' => ∃ A' c', e = .returned (.tuple #[.slice A' (lessP l k n r).length c', .bool true]) ∧ Lv w' A' c' (lessP l k n r) ∧ w.grownBy w' none := by
  have hlt : k < l.length := (List.getElem?_eq_some_iff.1 hr).1
  have HF := Lib.hid (find_hit A c l n k w h hl hk hlt)
  have HA := Lib.hid h
  have HR := Lib.hid hr
  have hn := hk.hi r hr
  unfold okR at ok
  have u1 : (k : Int) < (l.length : Int) := by omega
  have u0 : (0 : Int) ≤ (k : Int) := by omega
  have y1 : IntKind.i64.wrap ((l.length : Int) + 1) = (((l.length + 1 : Nat)) : Int) := by rw [IntKind.wrap_i64]; omega
  have y2 : IntKind.i64.wrap (n + 1) = n + 1 := by rw [IntKind.wrap_i64]; omega
  clear h hk hr
  go_enter Try.func15, Try.ntmps15
  go_wp2_with fail
  refine HF.out.mono ?_
  rintro _ w1 ⟨rfl, g1⟩
  have G1 := Lib.hid g1
  clear HF g1
  obtain ⟨q, hq⟩ : ∃ q : Nat, q = l.length + 1 := ⟨_, rfl⟩
  rw [← hq] at y1
  have HQ := Lib.hid hq
  have MK : ∀ W, (Instr.makeSlice 26 (.int .i64 (k : Int)) (.int .i64 (q : Int))).run Try.prog W = .ok (.slice (some ⟨W.heap.size, 0, none⟩) k q) (W.alloc (.cells (madeCells (Value.agg #[.int .i64 0, .int .i64 0]).cells (q * 2)) 24)) := fun W =>
    run_make_cap W 26 24 (.agg #[.int .i64 0, .int .i64 0]) 2 16 Try.underlying26 Try.info_range .i64 .i64 k q (by omega) (by omega) (by unfold maxLen; omega)
  obtain ⟨row, hrow⟩ : ∃ row, row = madeCells (Value.agg #[.int .i64 0, .int .i64 0]).cells (q * 2) := ⟨_, rfl⟩
  have hrs : row.size = q * 2 := by rw [hrow]; exact size_madeCells _ _
  rw [← hrow] at MK
  obtain ⟨b, off, e0, hb, _, _⟩ := (HA.out.up G1.out).has.rng HR.out
  have HX := Lib.hid ((HA.out.up G1.out).has.front (k * 2))
  subst e0
  have hsrc : ∀ j v, (pc (l.take k))[j]? = some v → (w1.alloc (.cells row 24)).cell? ((⟨b, off, none⟩ : Addr).add j) = some v := fun j v hv => by
    rw [Addr.add_lit]
    rcases HX.out with h0 | ⟨b', off', e0, hb', hc⟩
    · rw [pc_take, h0] at hv; simp at hv
    · injection e0 with e; injection e with e1 e2
      subst e1 e2
      rw [pc_take] at hv
      exact (World.cell?_alloc_lt _ _ _ hb').trans (hc j v hv)
  have hlen : (pc (l.take k)).length = k * 2 := by rw [pc_len, List.length_take]; omega
  have mk : l.length.min k = k := Nat.min_eq_right (by omega)
  have CP := run_copy_wide (P := Try.prog) (w1.alloc (.cells row 24)) 26 26 3 24 2 w1.heap.size 0 k q ⟨b, off, none⟩ l.length c row 24 (pc (l.take k)) Try.underlying26 (by rfl) (heap_alloc_new w1 _) (by rw [hlen, mk]) hsrc (by rw [hlen, hrs]; omega) (pc_one _)
  rw [World.setRow_alloc_new, mk] at CP
  obtain ⟨row2, hrow2⟩ : ∃ x, x = (row.toList.take 0 ++ pc (l.take k) ++ row.toList.drop (0 + (pc (l.take k)).length)).toArray := ⟨_, rfl⟩
  rw [← hrow2] at CP
  have hs2 : row2.size = q * 2 := by rw [hrow2]; simp [hlen, hrs]; omega
  have ht2 : row2.toList.take (k * 2) = pc (l.take k) := by rw [hrow2]; simp [← hlen]
  have O2 : Hid ((w1.alloc (.cells row2 24)).ownsRow w.heap.size 24 2 (.slice (some ⟨w1.heap.size, 0, none⟩) k q) k (pc (l.take k))) :=
    Lib.hid ⟨hlen, .inr ⟨w1.heap.size, q, row2, rfl, G1.out.size, heap_alloc_new w1 _, by omega, by unfold maxLen; omega, hs2, ht2⟩⟩
  have G2 := Lib.hid (only_alloc G1.out (.cells row2 24))
  obtain ⟨w2, hw2⟩ : ∃ w2, w2 = w1.alloc (.cells row2 24) := ⟨_, rfl⟩
  have z2 : w1.heap.size < w2.heap.size := by rw [hw2]; show _ < (w1.heap.push _).size; rw [Array.size_push]; omega
  rw [← hw2] at CP O2 G2
  have SV : ∀ V, w2.grownBy V none → Hid (V.cell? ⟨b, off + k * 2, none⟩ = some (.int .i64 r.1) ∧ V.cell? ⟨b, off + k * 2 + 1, none⟩ = some (.int .i64 r.2) ∧ w2.grownBy V none) := fun V hV => by
    obtain ⟨b', off', e0, hb', y1, y2⟩ := (HA.out.up (grow2 G2.out hV)).has.rng HR.out
    obtain ⟨rfl, rfl⟩ : b = b' ∧ off = off' := by injection e0 with e; injection e with e1 e2; exact ⟨e1, e2⟩
    exact ⟨y1, y2, hV⟩
  have d0 : w2.grownBy w2.drew none := only_drew (only_refl _ _)
  clear mk hq hrow hrs hsrc hlen hrow2 hs2 ht2 hw2
  go_wp2_with fail
  go_region_held3 (fun V => V.cell? ⟨b, off + k * 2, none⟩ = some (.int .i64 r.1) ∧ V.cell? ⟨b, off + k * 2 + 1, none⟩ = some (.int .i64 r.2) ∧ w2.grownBy V none) (first | exact (SV _ (by assumption)).out | exact (SV _ (only_drew (by assumption))).out | exact (SV _ (World.grownBy_alloc _ _ none)).out | exact (SV _ (only_drew (World.grownBy_alloc _ _ none))).out) (fail)
  have LI0 : Hid (Li w w2.heap.size (.slice (some ⟨w1.heap.size, 0, none⟩) k q) k (l.take k ++ ((two r n).take 0).filter gd) r n (w2.alloc (.cells #[.int .i64 r.1, .int .i64 n, .int .i64 (n + 1), .int .i64 r.2] 24)).drew) := Lib.hid (by
    rw [show l.take k ++ ((two r n).take 0).filter gd = l.take k by simp]
    exact ⟨O2.out.kept (only_drew (World.grownBy_alloc _ _ none)) (by simp [Value.ownBlock]), grow2 G2.out (only_drew (World.grownBy_alloc _ _ none)), by simp only [Value.ownBlock, ne_eq, Option.some.injEq]; omega, heap_alloc_new w2 _⟩)
  obtain ⟨B, hB⟩ : ∃ B, B = w2.heap.size := ⟨_, rfl⟩
  obtain ⟨w3, hw3⟩ : ∃ w3, w3 = (w2.alloc (.cells #[.int .i64 r.1, .int .i64 n, .int .i64 (n + 1), .int .i64 r.2] 24)).drew := ⟨_, rfl⟩
  rw [← hB, ← hw3] at LI0
  rw [← hB, ← hw3]
  obtain ⟨p, hp⟩ : ∃ p : Nat, p = k + 1 := ⟨_, rfl⟩
  have y3 : IntKind.i64.wrap ((k : Int) + 1) = (p : Int) := by rw [IntKind.wrap_i64]; omega
  have HP := Lib.hid hp
  obtain ⟨A2, sl, v2⟩ := slice_lo HA.out p (by omega)
  have V2 := Lib.hid v2
  clear hB hw3 SV d0 CP MK O2 G2 z2 hp v2
  go_wp2_with fail
  go_loopw [8, 44] (fun so sj wr => ∃ (j m : Nat) (Ao : Option Addr) (co : Nat), j ≤ 2 ∧ m ≤ l.length + j ∧ sj = .int .i64 j ∧ so = .slice Ao m co ∧ Hid (Li w B (.slice Ao m co) m (l.take k ++ ((two r n).take j).filter gd) r n wr)) (fun _ sj _ => 2 - (intOf sj).toNat)
  case atStart => exact ⟨0, k, _, _, by omega, by omega, rfl, rfl, LI0.out⟩
  case round =>
    obtain ⟨j, m, Ao, co, hj, hm, rfl, rfl, LI⟩ := hrel
    by_cases hlt2 : j < 2
    · have v1 : (j : Int) < 2 := by omega
      have v0 : (0 : Int) ≤ (j : Int) := by omega
      have hes : IntKind.i64.wrap ((j : Int) + 1) = (j : Int) + 1 := by rw [IntKind.wrap_i64]; omega
      obtain ⟨y, hy⟩ : ∃ y, (two r n)[j]? = some y := ⟨_, List.getElem?_eq_getElem hlt2⟩
      obtain ⟨r1, r2⟩ := LI.out.l4.at_ hy
      have HY := Lib.hid hy
      clear hy
      by_cases hg : y.1 < y.2
      · have HN : Hid (l.take k ++ ((two r n).take j).filter gd ++ [y] = l.take k ++ ((two r n).take (j + 1)).filter gd) := Lib.hid (by rw [filt_snoc _ j y HY.out, if_pos (show gd y = true from decide_eq_true hg), List.append_assoc])
        have g1 := World.grownBy_alloc wr (.cells #[.int .i64 y.1, .int .i64 y.2] 24) none
        have g2 := only_alloc g1 (.cells #[.int .i64 y.1, .int .i64 y.2] 24)
        have LI2 := Lib.hid (LI.out.keep g2)
        have S1 := Lib.hid (src_one (wr.alloc (.cells #[.int .i64 y.1, .int .i64 y.2] 24)) y)
        rw [size_al] at S1
        have zb : w.heap.size ≤ ((wr.alloc (.cells #[.int .i64 y.1, .int .i64 y.2] 24)).alloc (.cells #[.int .i64 y.1, .int .i64 y.2] 24)).heap.size := LI2.out.only.size
        obtain ⟨L, hL⟩ : ∃ L, L = l.take k ++ ((two r n).take j).filter gd := ⟨_, rfl⟩
        rw [← hL] at HN LI2
        clear g1 g2 hL
        go_wp2_with (at_builtin; go_loud (refine app_r rfl _ _ 26 rfl w.heap.size (.slice Ao m co) m (pc L) rfl LI2.out.own _ 1 (pc [y]) rfl S1.out (by omega) zb ?_); intro v9 w9 g9; rw [← pc_append, HN.out] at g9; have L9 := Lib.hid (LI2.out.of g9); obtain ⟨A9, c9, rfl⟩ := own_slice_w g9.own; clear g9)
        refine ⟨⟨j + 1, m + 1, A9, c9, by omega, by omega, by go_num, rfl, L9⟩, ?_⟩
        simp [intOf]; omega
      · have HN : Hid (l.take k ++ ((two r n).take j).filter gd = l.take k ++ ((two r n).take (j + 1)).filter gd) := Lib.hid (by rw [filt_snoc _ j y HY.out, if_neg (by simp [gd]; omega), List.append_nil])
        have L9 := Lib.hid (LI.out.keep (World.grownBy_alloc wr (.cells #[.int .i64 y.1, .int .i64 y.2] 24) none))
        rw [HN.out] at L9
        go_wp2_with fail
        refine ⟨⟨j + 1, m, Ao, co, by omega, by omega, by go_num, rfl, L9⟩, ?_⟩
        simp [intOf]; omega
    · have v1 : ¬ (j : Int) < 2 := by omega
      rw [List.take_of_length_le (show (two r n).length ≤ j by show 2 ≤ j; omega)] at LI
      have HL : Hid (l.take k ++ (two r n).filter gd ++ l.drop p = lessP l k n r) := Lib.hid (by rw [HP.out]; rfl)
      have hpl : p ≤ l.length := by have := HP.out; omega
      have S2 := Lib.hid (Src.all (V2.out.keep LI.out.only (Nat.le_refl _)) (l.length - p) (by rw [List.length_drop]))
      have zb := LI.out.only.size
      obtain ⟨L, hL⟩ : ∃ L, L = l.take k ++ (two r n).filter gd := ⟨_, rfl⟩
      obtain ⟨L2, hL2⟩ : ∃ L2, L2 = lessP l k n r := ⟨_, rfl⟩
      rw [← hL, ← hL2] at HL
      rw [← hL] at LI
      have HL2 := Lib.hid hL2
      clear hL hL2
      go_wp2_with (at_builtin; go_loud (refine app_r rfl _ _ 26 rfl w.heap.size (.slice Ao m co) m (pc L) rfl LI.out.own (.slice A2 (l.length - p) (c - p)) (l.length - p) (pc (l.drop p)) rfl S2.out (by omega) zb ?_); intro v9 w9 g9; rw [← pc_append, HL.out] at g9; have L9 := Lib.hid (LI.out.of g9); obtain ⟨A9, c9, rfl⟩ := own_slice_w g9.own; clear g9)
      go_ret2
      rw [← HL2.out]
      obtain ⟨vv, ee⟩ := Vw.own L9.out.own
      exact ⟨A9, c9, by rw [← ee]; rfl, Lv.of vv, L9.out.only⟩
end Go.Proofs.Ytnljccmchmclnaa
