/- Len and Take of package ranges. No condition of the program's own. -/
import Derived.Test.YtnljccmchmclnaaRn
import Derived.Test.YtnljccmchmclnaaRt
namespace Go.Proofs.Ytnljccmchmclnaa
open Go.RowKit Go.Deep

theorem rlen_snoc (l : List E2) (i : Nat) (r : E2) (hr : l[i]? = some r) : rlen (l.take (i + 1)) = rlen (l.take i) + (r.2 - r.1) := by
  rw [List.take_add_one, hr, rlen_app]; show _ + ((r.2 - r.1) + 0) = _; omega
theorem rlen_take_bound (l : List E2) (h : ∀ r ∈ l, okR r) (i : Nat) : rlen (l.take i) ≤ l.length * 1073741824 := by
  have := rlen_bound (l.take i) (fun r hr => h r (List.mem_of_mem_take hr))
  have h2 : (l.take i).length ≤ l.length := by rw [List.length_take]; omega
  omega
set_option maxRecDepth 100000 in
set_option maxHeartbeats 4000000 in
theorem len_any (A : Option Addr) (c : Nat) (l : List E2) (w : World) (h : Vw w w.heap.size A c l) (hl : l.length ≤ 1000000) (hw : RW l) :
    Calls Try.prog 12 #[.slice A l.length c] w fun e w' => e = .returned (.int .i64 (rlen l)) ∧ w.grownBy w' none := by
  have HA := Lib.hid h
  have HW := Lib.hid hw
  clear h hw
  go_enter Try.func12, Try.ntmps12
  go_wp2_with fail
  go_loopw [3, 8] (fun sn si wr => ∃ (i : Nat) (n : Int), i ≤ l.length ∧ si = .int .i64 i ∧ sn = .int .i64 n ∧ Hid (n = rlen (l.take i)) ∧ Hid (w.grownBy wr none)) (fun _ si _ => l.length - (intOf si).toNat)
  case atStart => exact ⟨0, 0, Nat.zero_le _, rfl, rfl, rfl, only_refl _ _⟩
  case round =>
    obtain ⟨i, n, hi, rfl, rfl, HN, hG⟩ := hrel
    by_cases hlt : i < l.length
    · have u1 : (i : Int) < (l.length : Int) := by omega
      have u0 : (0 : Int) ≤ (i : Int) := by omega
      have hes : IntKind.i64.wrap ((i : Int) + 1) = (i : Int) + 1 := by rw [IntKind.wrap_i64]; omega
      obtain ⟨r, hr⟩ : ∃ r, l[i]? = some r := ⟨_, List.getElem?_eq_getElem hlt⟩
      obtain ⟨b, off, e0, hb, r1, r2⟩ := (HA.out.up hG.out).has.rng hr
      have okr := HW.out.ok r (List.mem_of_getElem? hr)
      unfold okR at okr
      have b1 := rlen_take_bound l HW.out.ok i
      have b2 := rlen_take_bound l HW.out.ok (i + 1)
      have b3 := rlen_nn _ (HW.out.take i)
      have hs := rlen_snoc l i r hr
      rw [← HN.out] at b1 b3 hs
      have HS : Hid (n + (r.2 - r.1) = rlen (l.take (i + 1))) := Lib.hid hs.symm
      have w1 : IntKind.i64.wrap (r.2 - r.1) = r.2 - r.1 := by rw [IntKind.wrap_i64]; omega
      have w2 : IntKind.i64.wrap (n + (r.2 - r.1)) = n + (r.2 - r.1) := by rw [IntKind.wrap_i64]; omega
      have g1 := Lib.hid (grow2 hG.out (World.grownBy_alloc wr (.cells #[.int .i64 r.1, .int .i64 r.2] 24) none))
      subst e0
      clear hr hs
      go_wp2_with fail
      refine ⟨⟨i + 1, n + (r.2 - r.1), by omega, by go_num, rfl, HS, g1⟩, ?_⟩
      simp [intOf]; omega
    · have u1 : ¬ (i : Int) < (l.length : Int) := by omega
      have HE : Hid (rlen l = n) := Lib.hid (by rw [HN.out, List.take_of_length_le (by omega)])
      go_wp2_with fail
      go_ret
      exact ⟨by rw [HE.out]; rfl, hG.out⟩
theorem len_lv {w : World} {A : Option Addr} {c : Nat} {l : List E2} (h : Lv w A c l) (hl : l.length ≤ 1000000) (hw : RW l) {V : World} (g : w.grownBy V none) :
    Calls Try.prog 12 #[.slice A l.length c] V fun e w' => e = .returned (.int .i64 (rlen l)) ∧ w.grownBy w' none :=
  (len_any A c l V (h V g) hl hw).mono fun _ _ h => ⟨h.1, grow2 g h.2⟩
theorem list_vw {w : World} {lim : Nat} {A : Option Addr} {c n : Nat} {l : List E2} (h : Vw w lim A c l) (hn : n = l.length) (hlim : lim ≤ w.heap.size) (hl : l.length ≤ 1073741824) :
    Calls Try.prog 20 #[.slice A n c] w (GotR w l) := by
  subst hn
  exact list_any A c l w ((h.more hlim).has) (by omega)
theorem Vw.front {w : World} {lim : Nat} {A : Option Addr} {c : Nat} {l : List E2} (h : Vw w lim A c l) (k : Nat) : Vw w lim A c (l.take k) :=
  ⟨by rw [pc_take]; exact h.has.front _, by have := h.cap; rw [List.length_take]; omega, h.nil⟩
theorem list_gl {w : World} {A : Option Addr} {c n : Nat} {l : List E2} (h : Lv w A c l) (hn : n = l.length) (hl : l.length ≤ 1073741824) {V : World} (g : w.grownBy V none) :
    Calls Try.prog 20 #[.slice A n c] V (GotL w l) :=
  (list_vw (h V g) hn (Nat.le_refl _) hl).mono fun _ _ h => got_lv h g
theorem own_put {w : World} {base s n g c : Nat} {e : TypeId} {xs : List Value} (h : w.ownsRow base e s (.slice (some ⟨g, 0, none⟩) n c) n xs) (u : Value) :
    (w.setCell ⟨g, 0, none⟩ u).ownsRow base e s (.slice (some ⟨g, 0, none⟩) n c) n (xs.set 0 u) ∧ w.frozen? ⟨g, 0, none⟩ = false := by
  rcases h.2 with ⟨hv, _⟩ | ⟨g', cap, cur, hv, hb, hg, h1, h2, h3, h4⟩
  · injection hv with e; cases e
  · injection hv with e1 e2 e3
    injection e1 with e1
    injection e1 with e1
    subst e1 e3
    refine ⟨⟨by rw [List.length_set]; exact h.1, .inr ⟨g, c, _, rfl, hb, set_heap hg 0 u, h1, h2, by simp [h3], ?_⟩⟩, ?_⟩
    · rw [Array.toList_setIfInBounds, ← h4, List.take_set]
    · unfold World.frozen?; rw [show w.heap[(⟨g, 0, none⟩ : Addr).block]? = _ from hg]; simp
theorem pc_set (r : E2) (l : List E2) (f : Int) : (pc (r :: l)).set 0 (.int .i64 f) = pc ((f, r.2) :: l) := rfl
def GotT (w : World) (T S : List E2) (e : Ending) (w' : World) : Prop := ∃ A1 c1 A2 c2, e = .returned (.tuple #[.slice A1 T.length c1, .slice A2 S.length c2, .int .i64 0]) ∧ Lv w' A1 c1 T ∧ Lv w' A2 c2 S ∧ w.grownBy w' none
theorem ret3 {fn : Func} {t u v : Tmp} (h : fn.results = #[.tmp t, .tmp u, .tmp v]) (tmps : Array Value) (P : Program) (w : World) :
    (results fn tmps).run P w = .ok (.tuple #[tmps.getD t undef, tmps.getD u undef, tmps.getD v undef]) w := by simp [results, h]
set_option maxRecDepth 100000 in
set_option maxHeartbeats 8000000 in
theorem take_any (A : Option Addr) (c : Nat) (l : List E2) (k : Int) (w : World) (h : Vw w w.heap.size A c l) (hl : l.length ≤ 1000000) (hw : RW l) (hk : 0 ≤ k) (hk2 : k ≤ rlen l) :
    Calls Try.prog 13 #[.slice A l.length c, .int .i64 k] w (GotT w (takeP l k).1 (takeP l k).2) := by
  have HA := Lib.hid h
  have HW := Lib.hid hw
  have LN := Lib.hid (len_any A c l w h hl hw)
  have kb := rlen_bound l hw.ok
  obtain ⟨q, hq⟩ : ∃ q, q = rlen l := ⟨_, rfl⟩
  rw [← hq] at hk2 LN kb
  have t1 : ¬ q < k := by omega
  clear h hw hq
  go_enter Try.func13, Try.ntmps13
  go_wp2_with fail
  refine LN.out.mono ?_
  rintro _ w1 ⟨rfl, g1⟩
  have G1 := Lib.hid g1
  clear g1 LN
  go_wp2_with fail
  go_loopw [1, 7] (fun sk si wr => ∃ (i : Nat) (m : Int), i ≤ l.length ∧ 0 ≤ m ∧ m ≤ k ∧ si = .int .i64 i ∧ sk = .int .i64 m ∧ Hid (takeP l k = (l.take i ++ (takeP (l.drop i) m).1, (takeP (l.drop i) m).2)) ∧ Hid (w.grownBy wr none)) (fun _ si _ => l.length - (intOf si).toNat)
  case atStart => exact ⟨0, k, Nat.zero_le _, hk, Int.le_refl _, rfl, rfl, rfl, G1.out⟩
  case round =>
    obtain ⟨i, m, hi, m0, mk, rfl, rfl, HT, hG⟩ := hrel
    by_cases hgo : ∃ r : E2, l[i]? = some r ∧ r.2 - r.1 ≤ m
    · obtain ⟨r, hr, hrm⟩ := hgo
      have hlt : i < l.length := (List.getElem?_eq_some_iff.1 hr).1
      have u1 : (i : Int) < (l.length : Int) := by omega
      have u0 : (0 : Int) ≤ (i : Int) := by omega
      have hes : IntKind.i64.wrap ((i : Int) + 1) = (i : Int) + 1 := by rw [IntKind.wrap_i64]; omega
      obtain ⟨b, off, e0, hb, r1, r2⟩ := (HA.out.up hG.out).has.rng hr
      have okr := HW.out.ok r (List.mem_of_getElem? hr)
      unfold okR at okr
      have HN := Lib.hid (take_skip l i k m HT.out r hr hrm)
      have w1 : IntKind.i64.wrap (r.2 - r.1) = r.2 - r.1 := by rw [IntKind.wrap_i64]; omega
      have w2 : IntKind.i64.wrap (m - (r.2 - r.1)) = m - (r.2 - r.1) := by rw [IntKind.wrap_i64]; omega
      have q1 : ∀ n, (wr.drewN n).cell? ⟨b, off + i * 2, none⟩ = some (.int .i64 r.1) := fun _ => r1
      have q2 : ∀ n, (wr.drewN n).cell? ⟨b, off + i * 2 + 1, none⟩ = some (.int .i64 r.2) := fun _ => r2
      subst e0
      clear hr r1 r2
      go_wp2_with fail
      go_quiet (fail)
      go_wp2_with fail
      go_quiet (fail)
      go_wp2_with fail
      refine ⟨⟨i + 1, m - (r.2 - r.1), by omega, by omega, by omega, by go_num, rfl, HN, only_drewN hG.out _⟩, ?_⟩
      simp [intOf]; omega
    · by_cases hlt : i < l.length
      · obtain ⟨r, hr⟩ : ∃ r, l[i]? = some r := ⟨_, List.getElem?_eq_getElem hlt⟩
        have hrm : ¬ r.2 - r.1 ≤ m := fun h => hgo ⟨r, hr, h⟩
        have u1 : (i : Int) < (l.length : Int) := by omega
        have u2 : ((i : Int) == (l.length : Int)) = false := by simp; omega
        have u0 : (0 : Int) ≤ (i : Int) := by omega
        obtain ⟨b, off, e0, hb, r1, r2⟩ := (HA.out.up hG.out).has.rng hr
        have okr := HW.out.ok r (List.mem_of_getElem? hr)
        unfold okR at okr
        have w1 : IntKind.i64.wrap (r.2 - r.1) = r.2 - r.1 := by rw [IntKind.wrap_i64]; omega
        have q1 : ∀ n, (wr.drewN n).cell? ⟨b, off + i * 2, none⟩ = some (.int .i64 r.1) := fun _ => r1
        have q2 : ∀ n, (wr.drewN n).cell? ⟨b, off + i * 2 + 1, none⟩ = some (.int .i64 r.2) := fun _ => r2
        subst e0
        by_cases hm : 0 < m
        · have HR := Lib.hid (take_cut l i k m HT.out r hr hrm hm)
          have u3 : ¬ m ≤ 0 := by omega
          have HQ := Lib.hid hr
          clear hr r1 r2 hgo
          have w3i : IntKind.i64.wrap (r.1 + m) = r.1 + m := by rw [IntKind.wrap_i64]; omega
          go_wp2_with fail
          go_quiet (fail)
          go_wp2_with fail
          obtain ⟨w3, hw3⟩ : ∃ w3, w3 = wr.drewN nq := ⟨_, rfl⟩
          have gw3 := only_drewN hG.out nq
          have p1 := q1 nq
          rw [← hw3] at gw3 p1 ⊢
          have sci := slice_cut HA.out i hi
          obtain ⟨A2, sl, v2⟩ := slice_lo HA.out i hi
          have SV : ∀ V, w3.grownBy V none → Hid (V.cell? ⟨b, off + i * 2, none⟩ = some (.int .i64 r.1) ∧ w3.grownBy V none) := fun V hV => by
            obtain ⟨b', off', e0, hb', y1, y2⟩ := (HA.out.up (grow2 gw3 hV)).has.rng HQ.out
            obtain ⟨rfl, rfl⟩ : b = b' ∧ off = off' := by injection e0 with e; injection e with e1 e2; exact ⟨e1, e2⟩
            exact ⟨y1, hV⟩
          clear hw3 q1 q2
          have e0 : w3.grownBy w3.drew none := only_drew (only_refl _ _)
          have gX : w.grownBy (w3.alloc (.cells #[.int .i64 r.1, .int .i64 (r.1 + m)] 24)).drew none := only_drew (only_alloc gw3 _)
          have SX : Hid (Src Try.prog 2 26 (.slice (some ⟨b, off, none⟩) i i) i (pc (l.take i)) (w3.alloc (.cells #[.int .i64 r.1, .int .i64 (r.1 + m)] 24)).drew) := Lib.hid ((HA.out.up gX).src i i hi)
          have S1 : Hid (Src Try.prog 2 26 (.slice (some ⟨w3.heap.size, 0, none⟩) 1 1) 1 (pc [(r.1, r.1 + m)]) (w3.alloc (.cells #[.int .i64 r.1, .int .i64 (r.1 + m)] 24)).drew) := Lib.hid (Src.ofSlice _ Try.underlying26 _ 1 1 _ rfl (fun j u hu => by
            rw [Addr.add_lit, Nat.zero_add]; exact cell_newd _ _ _ j u (by rw [← hu, ← Array.getElem?_toList]; rfl)) (pc_one _)
          )
          have zX : w.heap.size ≤ (w3.alloc (.cells #[.int .i64 r.1, .int .i64 (r.1 + m)] 24)).drew.heap.size := gX.size
          have E3 : Hid (w3.grownBy (w3.alloc (.cells #[.int .i64 r.1, .int .i64 (r.1 + m)] 24)).drew none) := Lib.hid (only_drew (World.grownBy_alloc _ _ none))
          have GW := Lib.hid gw3
          have V2 := Lib.hid v2
          clear gw3 gX v2
          go_region_held3 (fun V => V.cell? ⟨b, off + i * 2, none⟩ = some (.int .i64 r.1) ∧ w3.grownBy V none) (first | exact (SV _ (by assumption)).out | exact (SV _ (only_drew (by assumption))).out) ((first
            | (refine step_app_moves (by rfl) _ _ 26 (by rfl) w.heap.size (some ⟨b, off, none⟩) i (pc (l.take i)) (by rfl) SX.out (.slice (some ⟨w3.heap.size, 0, none⟩) 1 1) 1 (pc [(r.1, r.1 + m)]) (by omega) (by rfl) S1.out (by omega) zX ?_; rintro v5 w5 ⟨o5, g5, far5⟩; rw [← pc_append] at o5; have O5 := Lib.hid o5; have FAR5 := Lib.hid far5; have G5 := Lib.hid (grow2 E3.out g5); have g5 := grow2 E3.out g5; clear o5 far5)))
          go_wp2_with fail
          obtain ⟨A5, c5, rfl⟩ := own_slice_w O5.out
          have LT : Hid ((l.take i ++ [(r.1, r.1 + m)]).length = i + 1) := Lib.hid (by simp; omega)
          have hdr : l.drop i = r :: l.drop (i + 1) := by
            obtain ⟨hh, rr⟩ := List.getElem?_eq_some_iff.1 HQ.out
            rw [List.drop_eq_getElem_cons hh, rr]
          have g05 := grow2 GW.out G5.out
          have Y5 := (V2.out.keep g05 (Nat.le_refl _)).more g05.size
          refine (list_vw Y5 (by rw [List.length_drop]) (Nat.le_refl _) (by rw [List.length_drop]; omega)).mono ?_
          rintro _ w6 ⟨v6, rfl, o6, g6⟩
          obtain ⟨A6, c6, rfl⟩ := own_slice_w o6
          obtain ⟨g, rfl, hg1, hg2, _, hc⟩ := own_form_w o6 (by rw [List.length_drop]; omega)
          rw [hdr] at o6 hc ⊢
          have P6 : w6.cell? ⟨g, 0, none⟩ = some (.int .i64 r.1) := hc 0 (.int .i64 r.1) rfl
          obtain ⟨o7, f7⟩ := own_put o6 (.int .i64 (r.1 + m))
          rw [pc_set] at o7
          have gr := Lib.hid (only_step g6 (set_only (only_refl w6 (some g)) 0 (.int .i64 (r.1 + m))) (fun k hk => by cases hk; exact .inr hg1))
          obtain ⟨n6, hn6⟩ : ∃ n, n = (r :: l.drop (i + 1)).length := ⟨_, rfl⟩
          have n6p : (0 : Int) < (n6 : Int) := by rw [hn6, List.length_cons]; omega
          rw [← hn6] at o7 ⊢
          have LS : Hid (((r.1 + m, r.2) :: l.drop (i + 1)).length = n6) := Lib.hid (by rw [hn6]; rfl)
          have O7 := Lib.hid o7
          clear o6 hc o7 hdr Y5 g6 hn6
          go_wp2_with fail
          refine bodyPost_ret (ret3 rfl _ _ _) rfl ?_
          rw [HR.out]
          unfold GotT
          simp only []
          rw [LT.out, LS.out]
          exact ⟨A5, c5, some ⟨g, 0, none⟩, c6, rfl, Lv.of ((Vw.own O5.out).1.up gr.out), Lv.of (Vw.own O7.out).1, grow2 g05 gr.out⟩
        · have HR := Lib.hid (take_stop l i k m HT.out (.inr ⟨by omega, r, hr, hrm⟩))
          have u3 : m ≤ 0 := by omega
          clear hr r1 r2 hgo
          go_wp2_with fail
          go_quiet (fail)
          go_wp2_with fail
          obtain ⟨w3, hw3⟩ : ∃ w3, w3 = wr.drewN nq := ⟨_, rfl⟩
          have gw3 := only_drewN hG.out nq
          rw [← hw3] at gw3 ⊢
          clear hw3
          have sh := slice_hi HA.out i hi
          obtain ⟨A2, sl, v2⟩ := slice_lo HA.out i hi
          have X1 := Lib.hid (Lv.of (((HA.out.up gw3)).front i))
          have X2 := Lib.hid (Lv.of ((v2.keep gw3 (Nat.le_refl _)).more gw3.size))
          have C1 : ∀ V, w3.grownBy V none → Hid (Calls Try.prog 20 #[.slice (some ⟨b, off, none⟩) i c] V (GotL w3 (l.take i))) := fun V hV => list_gl X1.out (by rw [List.length_take]; omega) (by rw [List.length_take]; omega) hV
          have C2 : ∀ V, w3.grownBy V none → Hid (Calls Try.prog 20 #[.slice A2 (l.length - i) (c - i)] V (GotL V (l.drop i))) := fun V hV => list_gl (X2.out.on hV) (by rw [List.length_drop]; try omega) (by rw [List.length_drop]; omega) (only_refl V none)
          obtain ⟨T, hT⟩ : ∃ T, T = l.take i := ⟨_, rfl⟩
          obtain ⟨S, hS⟩ : ∃ S, S = l.drop i := ⟨_, rfl⟩
          rw [← hT, ← hS] at HR
          rw [← hT] at C1
          rw [← hS] at C2
          have GW := Lib.hid gw3
          have e0 : w3.grownBy w3.drew none := only_drew (only_refl _ _)
          have e1 : w3.grownBy w3 none := only_refl _ _
          clear v2 gw3 hT hS
          go_region_held3 (fun V => w3.grownBy V none) (first | assumption | exact only_drew (by assumption)) ((first
            | ((fail_if_success (have := L_1)); refine (C1 _ (by assumption)).out.mono ?_; rintro e w_1 ⟨A_1, c_1, rfl, l_1, g_1⟩; have L_1 := Lib.hid l_1; have H_1 := Lib.hid g_1; clear l_1)
            | ((fail_if_success (have := L_2)); refine (C2 _ (by assumption)).out.mono ?_; rintro e w_2 ⟨A_2, c_2, rfl, l_2, g_2⟩; have L_2 := Lib.hid l_2; have H_2 := Lib.hid g_2; have g_2 := grow2 (by assumption : w3.grownBy _ none) g_2; clear l_2)))
          go_wp2_with fail
          refine bodyPost_ret (ret3 rfl _ _ _) rfl ?_
          rw [HR.out]
          exact ⟨_, _, _, _, rfl, L_1.out.on H_2.out, L_2.out, grow2 GW.out (by assumption)⟩
      · obtain rfl : i = l.length := by omega
        have u1 : ¬ (l.length : Int) < (l.length : Int) := by omega
        have u0 : (0 : Int) ≤ (l.length : Int) := by omega
        have HR := Lib.hid (take_stop l l.length k m HT.out (.inl rfl))
        clear hgo
        go_wp2_with fail
        go_quiet (fail)
        go_wp2_with fail
        obtain ⟨w3, hw3⟩ : ∃ w3, w3 = wr.drewN nq := ⟨_, rfl⟩
        have gw3 := only_drewN hG.out nq
        rw [← hw3] at gw3 ⊢
        clear hw3
        have sh := slice_hi HA.out l.length hi
        obtain ⟨A2, sl, v2⟩ := slice_lo HA.out l.length hi
        simp only [Nat.sub_self] at sl
        have X1 := Lib.hid (Lv.of (((HA.out.up gw3)).front l.length))
        have X2 := Lib.hid (Lv.of ((v2.keep gw3 (Nat.le_refl _)).more gw3.size))
        have C1 : ∀ V, w3.grownBy V none → Hid (Calls Try.prog 20 #[.slice A l.length c] V (GotL w3 (l.take l.length))) := fun V hV => list_gl X1.out (by rw [List.length_take]; omega) (by rw [List.length_take]; omega) hV
        have C2 : ∀ V, w3.grownBy V none → Hid (Calls Try.prog 20 #[.slice A2 0 (c - l.length)] V (GotL V (l.drop l.length))) := fun V hV => list_gl (X2.out.on hV) (by rw [List.length_drop]; try omega) (by rw [List.length_drop]; omega) (only_refl V none)
        obtain ⟨T, hT⟩ : ∃ T, T = l.take l.length := ⟨_, rfl⟩
        obtain ⟨S, hS⟩ : ∃ S, S = l.drop l.length := ⟨_, rfl⟩
        rw [← hT, ← hS] at HR
        rw [← hT] at C1
        rw [← hS] at C2
        have GW := Lib.hid gw3
        have e0 : w3.grownBy w3.drew none := only_drew (only_refl _ _)
        have e1 : w3.grownBy w3 none := only_refl _ _
        clear v2 gw3 hT hS
        go_region_held3 (fun V => w3.grownBy V none) (first | assumption | exact only_drew (by assumption)) ((first
          | ((fail_if_success (have := L_1)); refine (C1 _ (by assumption)).out.mono ?_; rintro e w_1 ⟨A_1, c_1, rfl, l_1, g_1⟩; have L_1 := Lib.hid l_1; have H_1 := Lib.hid g_1; clear l_1)
          | ((fail_if_success (have := L_2)); refine (C2 _ (by assumption)).out.mono ?_; rintro e w_2 ⟨A_2, c_2, rfl, l_2, g_2⟩; have L_2 := Lib.hid l_2; have H_2 := Lib.hid g_2; have g_2 := grow2 (by assumption : w3.grownBy _ none) g_2; clear l_2)))
        go_wp2_with fail
        refine bodyPost_ret (ret3 rfl _ _ _) rfl ?_
        rw [HR.out]
        exact ⟨_, _, _, _, rfl, L_1.out.on H_2.out, L_2.out, grow2 GW.out (by assumption)⟩
end Go.Proofs.Ytnljccmchmclnaa
