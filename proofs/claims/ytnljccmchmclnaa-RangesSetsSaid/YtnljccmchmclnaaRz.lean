/- Less of a number that is not there; the walk of RangesEach: it returns true for every input. No condition. -/
import Derived.Test.YtnljccmchmclnaaRw
import Derived.Test.YtnljccmchmclnaaRy
namespace Go.Proofs.Ytnljccmchmclnaa
open Go.RowKit Go.Deep

theorem at_of (l : List E2) (x : Int) (hw : RW l) (h : mem l x) : ∃ k r, At l x k ∧ l[k]? = some r ∧ okR r ∧ r.1 ≤ x ∧ x < r.2 := by
  obtain ⟨r, hr, h1, h2⟩ := h
  obtain ⟨k, hk⟩ := List.getElem?_of_mem hr
  have hkl := (List.getElem?_eq_some_iff.1 hk).1
  refine ⟨k, r, ⟨by omega, fun j y hy hj hin => ?_, fun y hy => ?_⟩, hk, hw.ok r hr, h1, h2⟩
  · obtain ⟨hjl, rfl⟩ := List.getElem?_eq_some_iff.1 hy
    have := List.pairwise_iff_getElem.1 hw.far j k hjl hkl hj
    rw [(List.getElem?_eq_some_iff.1 hk).2] at this
    omega
  · rw [hk] at hy; cases hy; exact ⟨h1, h2⟩
theorem at_none (l : List E2) (x : Int) (h : ¬ mem l x) : At l x l.length :=
  ⟨Nat.le_refl _, fun _ y hy _ hin => h ⟨y, List.mem_of_getElem? hy, hin⟩, fun y hy => by simp at hy⟩
theorem rlen_zero (l : List E2) (hw : RW l) (h : rlen l = 0) : l = [] := by
  cases l with
  | nil => rfl
  | cons r l =>
    obtain ⟨a, _, c⟩ := RW.cons.1 hw
    have := rlen_nn l c
    have := a.2.1
    rw [rlen] at h; omega
theorem one_of (l : List E2) (hw : RW l) (h : rlen l = 1) : ∃ x, l = [(x, x + 1)] := by
  cases l with
  | nil => rw [rlen] at h; omega
  | cons r l =>
    obtain ⟨a, _, c⟩ := RW.cons.1 hw
    have := rlen_nn l c
    have := a.2.1
    rw [rlen] at h
    obtain rfl := rlen_zero l c (by omega)
    refine ⟨r.1, ?_⟩
    obtain ⟨p, q⟩ := r
    simp only at h this ⊢
    rw [show q = p + 1 by rw [rlen] at h; omega]
theorem mem_one (x y : Int) : mem [(x, x + 1)] y ↔ y = x := by rw [mem_cons, mem_nil]; simp only [or_false]; omega
theorem take_one (R S : List E2) (x : Int) (h : TakeOk R [(x, x + 1)] S 1) {k : Nat} {r : E2} (ok : LessOk R (lessP R k x r) x) : lessP R k x r = S := by
  refine rext _ _ ok.rw_ h.s fun y => ?_
  rw [ok.mem_ y, h.mem_ y, mem_one]
  have hx : mem [(x, x + 1)] x := (mem_one x x).2 rfl
  constructor
  · rintro ⟨q | q, z⟩
    · exact absurd q z
    · exact q
  · intro q
    have := h.lt x y hx q
    exact ⟨.inr q, by omega⟩
/-- What is left, and the last that was taken. -/
structure Est (l R : List E2) (last : Int) (i : Nat) : Prop where
  rr : RW R
  len : rlen R = rlen l - i
  lt : ∀ x, mem R x → last < x
  nR : R.length ≤ 20
theorem Est.start {l : List E2} (h : RW l) (hl : l.length ≤ 20) : Est l l (-1) 0 :=
  ⟨h, by simp, fun x ⟨r, hr, h1, _⟩ => by have := (h.ok r hr).1; omega, hl⟩
theorem Est.step {l R S : List E2} {last x : Int} {i : Nat} (h : Est l R last i) (t : TakeOk R [(x, x + 1)] S 1) : Est l S x (i + 1) :=
  ⟨t.s, by rw [t.lenS, h.len]; omega, fun y hy => t.lt x y ((mem_one x x).2 rfl) hy, by have := t.nS; have := h.nR; omega⟩
theorem Est.less {l R S : List E2} {last x : Int} {i : Nat} (h : Est l R last i) (t : TakeOk R [(x, x + 1)] S 1) : last < x := h.lt x ((t.mem_ x).2 (.inl ((mem_one x x).2 rfl)))
theorem less_lv {w : World} {A : Option Addr} {c : Nat} {R S : List E2} {x : Int} (h : Lv w A c R) (hl : R.length ≤ 1000000) (hw : RW R) (t : TakeOk R [(x, x + 1)] S 1) {V : World} (g : w.grownBy V none) :
    Calls Try.prog 15 #[.slice A R.length c, .int .i64 x] V fun e w' => ∃ A' c', e = .returned (.tuple #[.slice A' S.length c', .bool true]) ∧ Lv w' A' c' S ∧ V.grownBy w' none := by
  obtain ⟨k, r, hk, hr, ok, h1, h2⟩ := at_of R x hw ((t.mem_ x).2 (.inl ((mem_one x x).2 rfl)))
  have e := take_one R S x t (less_ok R k x r hw hr h1 h2)
  have := less_hit A c R x k r V (h V g) hl hk hr ok
  rwa [e] at this
set_option maxRecDepth 100000 in
set_option maxHeartbeats 8000000 in
theorem rangesEach_walk (A0 : Option Addr) (c0 : Nat) (ns : List Int) (w : World) (h : Has w w.heap.size A0 (is_ ns)) (hb : ∀ n ∈ ns, -9223372036854775808 ≤ n ∧ n ≤ 9223372036854775807) :
    Calls Try.prog 6 #[.slice A0 ns.length c0] w fun e w' => e = .returned (.bool true) ∧ w.grownBy w' none := by
  have HA := Lib.hid h
  have HB := Lib.hid hb
  clear h hb
  go_enter Try.func6, Try.ntmps6
  go_wp2_with fail
  refine (known_any _).mono ?_
  rintro _ w1 ⟨rfl, g1⟩
  have G1 := Lib.hid g1
  go_wp2_with fail
  refine (of_lv A0 c0 ns w1 (HA.out.up G1.out) HB.out).mono ?_
  rintro _ w2 ⟨Al, cl, l, rfl, ll, ok, g2⟩
  have LL := Lib.hid ll
  have OL := Lib.hid ok
  have al : l.length ≤ 20 := ok.len
  have G2 := Lib.hid (grow2 g1 g2)
  have LN := Lib.hid (len_lv ll (by omega) ok.rw_ (only_refl w2 none))
  have kb := rlen_bound l ok.rw_.ok
  have kc := rlen_nn l ok.rw_
  obtain ⟨q, hq⟩ : ∃ q, q = rlen l := ⟨_, rfl⟩
  rw [← hq] at LN kb kc
  have HQ := Lib.hid hq
  clear ll ok g1 g2 HA HB G1 hq
  go_wp2_with fail
  refine LN.out.mono ?_
  rintro _ w3 ⟨rfl, g3⟩
  have LL := Lib.hid (LL.out.on g3)
  have G3 := Lib.hid (grow2 G2.out g3)
  clear g3 G2 LN
  go_wp2_with fail
  go_loopw [5, 6, 7, 8] (fun sa sb sl si wr => ∃ (i : Nat) (R : List E2) (last : Int) (Aa : Option Addr) (ca : Nat) (Ab : Option Addr) (cb : Nat), (i : Int) ≤ q ∧ si = .int .i64 i ∧ sl = .int .i64 last ∧ sa = .slice Aa R.length ca ∧ sb = .slice Ab R.length cb ∧ Hid (Est l R last i) ∧ Hid (Lv wr Aa ca R) ∧ Hid (Lv wr Ab cb R) ∧ Hid (w3.grownBy wr none)) (fun _ _ _ si _ => (q - intOf si).toNat)
  case atStart => exact ⟨0, l, -1, Al, cl, Al, cl, by simpa using kc, rfl, rfl, rfl, rfl, Est.start OL.out.rw_ al, LL.out, LL.out, only_refl _ _⟩
  case round =>
    obtain ⟨i, R, last, Aa, ca, Ab, cb, hi, rfl, rfl, rfl, rfl, HE, LA, LB, hG⟩ := hrel
    have NR := HE.out.nR
    have hlen := HE.out.len
    rw [← HQ.out] at hlen
    by_cases hlt : (i : Int) < q
    · have u0 : (0 : Int) ≤ (i : Int) := by omega
      have hes : IntKind.i64.wrap ((i : Int) + 1) = (i : Int) + 1 := by rw [IntKind.wrap_i64]; omega
      have TK0 := take_ok R 1 HE.out.rr (by omega) (by omega)
      have TC0 := take_lv LA.out (by omega) HE.out.rr 1 (by omega) (by omega) (only_refl wr none)
      obtain ⟨T, hT⟩ : ∃ T, T = (takeP R 1).1 := ⟨_, rfl⟩
      obtain ⟨S, hS⟩ : ∃ S, S = (takeP R 1).2 := ⟨_, rfl⟩
      rw [← hT, ← hS] at TK0 TC0
      obtain ⟨x, rfl⟩ := one_of T TK0.t TK0.lenT
      have TK := Lib.hid TK0
      have TC := Lib.hid TC0
      have NS := TK0.nS
      have xb := TK0.t.ok (x, x + 1) (by simp)
      have xlast := HE.out.less TK0
      have v1 : ¬ x ≤ last := by omega
      unfold okR at xb
      simp only at xb
      have hex : IntKind.i64.wrap (x + 1) = x + 1 := by rw [IntKind.wrap_i64]; omega
      clear hT hS TK0 TC0 xlast hlen
      go_wp2_with fail
      refine TC.out.mono ?_
      rintro _ w5 ⟨At, ct, As, cs, rfl, lt, ls, g5⟩
      have LT := Lib.hid lt
      have LS := Lib.hid ls
      have LB := Lib.hid (LB.out.on g5)
      have G5 := Lib.hid (grow2 hG.out g5)
      obtain ⟨bt, offt, et, t1, t2⟩ := lt.at_ (i := 0) (x := (x, x + 1)) rfl (only_refl w5 none)
      rw [Nat.zero_mul, Nat.add_zero] at t1 t2
      simp only at t1 t2
      have q1 : ∀ n, (w5.drewN n).cell? ⟨bt, offt, none⟩ = some (.int .i64 x) := fun _ => t1
      have q2 : ∀ n, (w5.drewN n).cell? ⟨bt, offt + 1, none⟩ = some (.int .i64 (x + 1)) := fun _ => t2
      subst et
      clear lt ls g5 TC t1 t2 hG LA
      go_wp2_with fail
      go_quiet (fail)
      go_wp2_with fail
      obtain ⟨w6, hw6⟩ : ∃ w6, w6 = w5.drewN nq := ⟨_, rfl⟩
      have g6 : w5.grownBy w6 none := by rw [hw6]; exact only_drewN (only_refl w5 none) nq
      rw [← hw6]
      have LS := Lib.hid (LS.out.on g6)
      have G6 := Lib.hid (grow2 G5.out g6)
      have LC := Lib.hid (less_lv (LB.out.on g6) (by omega) HE.out.rr TK.out (only_refl w6 none))
      have HE2 := Lib.hid (HE.out.step TK.out)
      clear q1 q2 hw6 g6 LB LT G5
      refine LC.out.mono ?_
      rintro _ w7 ⟨A7, c7, rfl, l7, g7⟩
      have LS := Lib.hid (LS.out.on g7)
      have L7 := Lib.hid l7
      have G7 := Lib.hid (grow2 G6.out g7)
      clear l7 g7 LC G6
      go_wp2_with fail
      refine (same_lv L7.out LS.out (by omega) true (by simp) (only_refl _ _)).mono ?_
      rintro _ w8 ⟨rfl, g8⟩
      have LS := Lib.hid (LS.out.on g8)
      have L8 := Lib.hid (L7.out.on g8)
      have G8 := Lib.hid (grow2 G7.out g8)
      clear g8 G7 L7
      go_wp2_with fail
      refine ⟨⟨i + 1, S, x, As, cs, A7, c7, by omega, by go_num, rfl, rfl, rfl, HE2, LS, L8, G8⟩, ?_⟩
      simp [intOf]; omega
    · obtain rfl := rlen_zero R HE.out.rr (by omega)
      have EC := Lib.hid (err_lv LA.out (by simp) HE.out.rr 1 (by show (0 : Int) < 1; omega) (only_refl wr none))
      clear hlen NR
      go_wp2_with fail
      refine EC.out.mono ?_
      rintro _ w5 ⟨rfl, g5⟩
      have G5 := Lib.hid (grow2 G3.out (grow2 hG.out g5))
      clear g5 EC
      go_wp2_with fail
      go_ret
      exact ⟨by simp, G5.out⟩
end Go.Proofs.Ytnljccmchmclnaa
