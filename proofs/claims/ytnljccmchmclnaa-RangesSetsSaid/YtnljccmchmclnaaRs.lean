/- The walk of RangesOrders: it returns true for every input. No condition. -/
import Derived.Test.YtnljccmchmclnaaRn
namespace Go.Proofs.Ytnljccmchmclnaa
open Go.RowKit Go.Deep

def addAll (l : List E2) (m : List E2) : List E2 := m.foldl (fun x r => addP x r.1 r.2) l
theorem addAll_ok (m : List E2) : ∀ (l : List E2), RW l → (∀ r ∈ m, okR r) → RW (addAll l m) ∧ (∀ n, mem (addAll l m) n ↔ mem l n ∨ mem m n) ∧ (addAll l m).length ≤ l.length + m.length := by
  induction m with
  | nil => intro l h _; exact ⟨h, fun n => by show mem l n ↔ _; rw [mem_nil, or_false], Nat.le_refl _⟩
  | cons r m ih =>
    intro l h hm
    have hr : okR (r.1, r.2) := hm r (by simp)
    obtain ⟨a, b⟩ := add_ok l r.1 r.2 h hr
    obtain ⟨c, d, e⟩ := ih (addP l r.1 r.2) a (fun x hx => hm x (by simp [hx]))
    refine ⟨c, fun n => ?_, ?_⟩
    · show mem (addAll (addP l r.1 r.2) m) n ↔ _
      rw [d n, b n, mem_cons]
      constructor
      · rintro ((k | k) | k)
        · exact .inl k
        · exact .inr (.inl k)
        · exact .inr (.inr k)
      · rintro (k | k | k)
        · exact .inl (.inl k)
        · exact .inl (.inr k)
        · exact .inr k
    · show (addAll (addP l r.1 r.2) m).length ≤ _
      have := add_len l r.1 r.2
      rw [List.length_cons]; omega
theorem addAll_snoc (l m : List E2) (r : E2) : addAll l (m ++ [r]) = addP (addAll l m) r.1 r.2 := by
  unfold addAll; rw [List.foldl_append]; rfl
theorem addAll_take (l m : List E2) (i : Nat) (r : E2) (hr : m[i]? = some r) : addAll l (m.take (i + 1)) = addP (addAll l (m.take i)) r.1 r.2 := by
  rw [List.take_add_one, hr]; exact addAll_snoc l (m.take i) r
theorem addAll_drop (l m : List E2) (i : Nat) (r : E2) (hr : m[i]? = some r) : addAll l (m.drop i).reverse = addP (addAll l (m.drop (i + 1)).reverse) r.1 r.2 := by
  obtain ⟨hi, rfl⟩ := List.getElem?_eq_some_iff.1 hr
  rw [List.drop_eq_getElem_cons hi, List.reverse_cons]
  exact addAll_snoc l _ _
theorem mem_rev (l : List E2) (n : Int) : mem l.reverse n ↔ mem l n := by unfold mem; simp
theorem ok_take {m : List E2} (h : RW m) (i : Nat) : ∀ r ∈ m.take i, okR r := fun r hr => h.ok r (List.mem_of_mem_take hr)
theorem ok_drop {m : List E2} (h : RW m) (i : Nat) : ∀ r ∈ (m.drop i).reverse, okR r := fun r hr => h.ok r (List.mem_of_mem_drop (List.mem_reverse.1 hr))
theorem Lv.at_ {w : World} {A : Option Addr} {c : Nat} {l : List E2} (h : Lv w A c l) {i : Nat} {x : E2} (hx : l[i]? = some x) {V : World} (g : w.grownBy V none) :
    ∃ b off, A = some ⟨b, off, none⟩ ∧ V.cell? ⟨b, off + i * 2, none⟩ = some (.int .i64 x.1) ∧ V.cell? ⟨b, off + i * 2 + 1, none⟩ = some (.int .i64 x.2) := by
  obtain ⟨b, off, e, _, h1, h2⟩ := (h V g).has.rng hx
  exact ⟨b, off, e, h1, h2⟩

set_option maxRecDepth 100000 in
set_option maxHeartbeats 4000000 in
theorem rangesOrders_walk (A0 : Option Addr) (c0 : Nat) (ns : List Int) (A1 : Option Addr) (c1 : Nat) (ms : List Int) (w : World) (h : Has w w.heap.size A0 (is_ ns)) (hb : ∀ n ∈ ns, -9223372036854775808 ≤ n ∧ n ≤ 9223372036854775807) (h1 : Has w w.heap.size A1 (is_ ms)) (hb1 : ∀ n ∈ ms, -9223372036854775808 ≤ n ∧ n ≤ 9223372036854775807) :
    Calls Try.prog 4 #[.slice A0 ns.length c0, .slice A1 ms.length c1] w fun e w' => e = .returned (.bool true) ∧ w.grownBy w' none := by
  have HA := Lib.hid h
  have HB := Lib.hid hb
  have HA1 := Lib.hid h1
  have HB1 := Lib.hid hb1
  clear h hb h1 hb1
  go_enter Try.func4, Try.ntmps4
  go_wp2_with fail
  refine (known_any _).mono ?_
  rintro _ w1 ⟨rfl, g1⟩
  have G1 := Lib.hid g1
  go_wp2_with fail
  refine (of_lv A0 c0 ns w1 (HA.out.up G1.out) HB.out).mono ?_
  rintro _ w2 ⟨Aa, ca, a, rfl, la, ok, g2⟩
  have LA := Lib.hid la
  have OA := Lib.hid ok
  have al : a.length ≤ 20 := ok.len
  have G2 := Lib.hid (grow2 g1 g2)
  clear la ok g1 g2
  go_wp2_with fail
  refine (of_lv A1 c1 ms w2 (HA1.out.up G2.out) HB1.out).mono ?_
  rintro _ w3 ⟨Ab, cb, b, rfl, lb, ok, g3⟩
  have LB := Lib.hid lb
  have OB := Lib.hid ok
  have bl : b.length ≤ 20 := ok.len
  have LA := Lib.hid (LA.out.on g3)
  have G3 := Lib.hid (grow2 G2.out g3)
  clear lb ok g3 HA HB HA1 HB1 G1 G2
  go_wp2_with fail
  -- x
  go_loopw [7, 9] (fun sx si wr => ∃ (i : Nat) (Ax : Option Addr) (cx : Nat), i ≤ b.length ∧ si = .int .i64 i ∧ sx = .slice Ax (addAll a (b.take i)).length cx ∧ Hid (Lv wr Ax cx (addAll a (b.take i))) ∧ Hid (w3.grownBy wr none)) (fun _ si _ => b.length - (intOf si).toNat)
  case atStart => exact ⟨0, Aa, ca, Nat.zero_le _, rfl, rfl, LA.out, only_refl _ _⟩
  case round =>
    obtain ⟨i, Ax, cx, hi, rfl, rfl, LX, hG⟩ := hrel
    by_cases hlt : i < b.length
    · have u1 : (i : Int) < (b.length : Int) := by omega
      have u0 : (0 : Int) ≤ (i : Int) := by omega
      have hes : IntKind.i64.wrap ((i : Int) + 1) = (i : Int) + 1 := by rw [IntKind.wrap_i64]; omega
      obtain ⟨r, hr⟩ : ∃ r, b[i]? = some r := ⟨_, List.getElem?_eq_getElem hlt⟩
      obtain ⟨bb, off, e0, r1, r2⟩ := LB.out.at_ hr hG.out
      have HN := Lib.hid (addAll_take a b i r hr)
      have okr : okR (r.1, r.2) := OB.out.rw_.ok r (List.mem_of_getElem? hr)
      have hxl := (addAll_ok (b.take i) a OA.out.rw_ (ok_take OB.out.rw_ i)).2.2
      rw [List.length_take] at hxl
      obtain ⟨x, hx⟩ : ∃ x, x = addAll a (b.take i) := ⟨_, rfl⟩
      rw [← hx] at LX HN hxl ⊢
      have AD := Lib.hid (add_lv LX.out (by omega) r.1 r.2 okr (only_refl wr none))
      rw [← HN.out] at AD
      have e0' := Lib.hid e0
      subst e0
      clear hr okr hx
      go_wp2_with fail
      refine AD.out.mono ?_
      rintro _ w5 ⟨A5, c5, rfl, l5, g5⟩
      have L5 := Lib.hid l5
      have G5 := Lib.hid (grow2 hG.out g5)
      clear l5 g5 AD
      go_wp2_with fail
      refine ⟨⟨i + 1, A5, c5, by omega, by go_num, rfl, L5, G5⟩, ?_⟩
      simp [intOf]; omega
    · have u1 : ¬ (i : Int) < (b.length : Int) := by omega
      rw [List.take_of_length_le (show b.length ≤ i by omega)] at LX ⊢
      obtain ⟨xk, xm, xl⟩ := addAll_ok b a OA.out.rw_ OB.out.rw_.ok
      obtain ⟨x, hx⟩ : ∃ x, x = addAll a b := ⟨_, rfl⟩
      rw [← hx] at LX xk xm xl ⊢
      have XK := Lib.hid xk
      have XM := Lib.hid xm
      have LA := Lib.hid (LA.out.on hG.out)
      have LB := Lib.hid (LB.out.on hG.out)
      have G4 := Lib.hid (grow2 G3.out hG.out)
      obtain ⟨w4, hw4⟩ : ∃ w4, w4 = wr := ⟨_, rfl⟩
      rw [← hw4] at LX LA LB G4 ⊢
      have hes : IntKind.i64.wrap ((a.length : Int) - 1) = (a.length : Int) - 1 := by rw [IntKind.wrap_i64]; omega
      clear hx xk xm hG hw4 G3
      go_wp2_with fail
      -- y
      go_loopw [8, 10] (fun sy si wr => ∃ (i : Nat) (Ay : Option Addr) (cy : Nat), i ≤ a.length ∧ si = .int .i64 ((i : Int) - 1) ∧ sy = .slice Ay (addAll b (a.drop i).reverse).length cy ∧ Hid (Lv wr Ay cy (addAll b (a.drop i).reverse)) ∧ Hid (w4.grownBy wr none)) (fun _ si _ => (intOf si + 1).toNat)
      case atStart => exact ⟨a.length, Ab, cb, Nat.le_refl _, rfl, by rw [List.drop_length]; rfl, by rw [List.drop_length]; exact LB.out, only_refl _ _⟩
      case round =>
        obtain ⟨i, Ay, cy, hi, rfl, rfl, LY, hG⟩ := hrel
        by_cases hlt : 0 < i
        · obtain ⟨k, rfl⟩ : ∃ k, i = k + 1 := ⟨i - 1, by omega⟩
          rw [show ((k + 1 : Nat) : Int) - 1 = (k : Int) by omega]
          have u1 : (k : Int) < (a.length : Int) := by omega
          have u0 : (0 : Int) ≤ (k : Int) := by omega
          have hes : IntKind.i64.wrap ((k : Int) - 1) = (k : Int) - 1 := by rw [IntKind.wrap_i64]; omega
          obtain ⟨r, hr⟩ : ∃ r, a[k]? = some r := ⟨_, List.getElem?_eq_getElem (by omega)⟩
          obtain ⟨bb, off, e0, r1, r2⟩ := LA.out.at_ hr hG.out
          have HN := Lib.hid (addAll_drop b a k r hr)
          have okr : okR (r.1, r.2) := OA.out.rw_.ok r (List.mem_of_getElem? hr)
          have hyl := (addAll_ok (a.drop (k + 1)).reverse b OB.out.rw_ (ok_drop OA.out.rw_ (k + 1))).2.2
          rw [List.length_reverse, List.length_drop] at hyl
          obtain ⟨y, hy⟩ : ∃ y, y = addAll b (a.drop (k + 1)).reverse := ⟨_, rfl⟩
          rw [← hy] at LY HN hyl ⊢
          have AD := Lib.hid (add_lv LY.out (by omega) r.1 r.2 okr (only_refl wr none))
          rw [← HN.out] at AD
          subst e0
          clear hr okr hy
          go_wp2_with fail
          refine AD.out.mono ?_
          rintro _ w5 ⟨A5, c5, rfl, l5, g5⟩
          have L5 := Lib.hid l5
          have G5 := Lib.hid (grow2 hG.out g5)
          clear l5 g5 AD
          go_wp2_with fail
          refine ⟨⟨k, A5, c5, by omega, rfl, rfl, L5, G5⟩, ?_⟩
          simp [intOf] <;> omega
        · obtain rfl : i = 0 := by omega
          rw [List.drop_zero] at LY ⊢
          rw [show (((0 : Nat) : Int) - 1) = -1 from rfl]
          obtain ⟨yk, ym, yl⟩ := addAll_ok a.reverse b OB.out.rw_ (fun r hr => OA.out.rw_.ok r (List.mem_reverse.1 hr))
          rw [List.length_reverse] at yl
          have XY : Hid (x = addAll b a.reverse) := Lib.hid (rext _ _ XK.out yk fun n => by rw [XM.out n, ym n, mem_rev]; exact ⟨fun h => h.symm, fun h => h.symm⟩)
          rw [← XY.out] at LY ⊢
          have LX := Lib.hid (LX.out.on hG.out)
          have LA := Lib.hid (LA.out.on hG.out)
          have G5 := Lib.hid (grow2 G4.out hG.out)
          obtain ⟨w6, hw6⟩ : ∃ w6, w6 = wr := ⟨_, rfl⟩
          rw [← hw6] at LX LA LY G5 ⊢
          clear yk ym yl hw6 G4 hG
          go_wp2_with fail
          -- z
          go_loopw [11, 12] (fun sz si wr => ∃ (i : Nat) (Az : Option Addr) (cz : Nat), i ≤ a.length ∧ si = .int .i64 i ∧ sz = .slice Az (addAll x (a.take i)).length cz ∧ Hid (Lv wr Az cz (addAll x (a.take i))) ∧ Hid (w6.grownBy wr none)) (fun _ si _ => a.length - (intOf si).toNat)
          case atStart => exact ⟨0, Ax, cx, Nat.zero_le _, rfl, rfl, LX.out, only_refl _ _⟩
          case round =>
            obtain ⟨i, Az, cz, hi, rfl, rfl, LZ, hG⟩ := hrel
            by_cases hlt : i < a.length
            · have u1 : (i : Int) < (a.length : Int) := by omega
              have u0 : (0 : Int) ≤ (i : Int) := by omega
              have hes : IntKind.i64.wrap ((i : Int) + 1) = (i : Int) + 1 := by rw [IntKind.wrap_i64]; omega
              obtain ⟨r, hr⟩ : ∃ r, a[i]? = some r := ⟨_, List.getElem?_eq_getElem hlt⟩
              obtain ⟨bb, off, e0, r1, r2⟩ := LA.out.at_ hr hG.out
              have HN := Lib.hid (addAll_take x a i r hr)
              have okr : okR (r.1, r.2) := OA.out.rw_.ok r (List.mem_of_getElem? hr)
              have hzl := (addAll_ok (a.take i) x XK.out (ok_take OA.out.rw_ i)).2.2
              rw [List.length_take] at hzl
              obtain ⟨z, hz⟩ : ∃ z, z = addAll x (a.take i) := ⟨_, rfl⟩
              rw [← hz] at LZ HN hzl ⊢
              have AD := Lib.hid (add_lv LZ.out (by omega) r.1 r.2 okr (only_refl wr none))
              rw [← HN.out] at AD
              subst e0
              clear hr okr hz
              go_wp2_with fail
              refine AD.out.mono ?_
              rintro _ w7 ⟨A7, c7, rfl, l7, g7⟩
              have L7 := Lib.hid l7
              have G7 := Lib.hid (grow2 hG.out g7)
              clear l7 g7 AD
              go_wp2_with fail
              refine ⟨⟨i + 1, A7, c7, by omega, by go_num, rfl, L7, G7⟩, ?_⟩
              simp [intOf]; omega
            · have u1 : ¬ (i : Int) < (a.length : Int) := by omega
              rw [List.take_of_length_le (show a.length ≤ i by omega)] at LZ ⊢
              obtain ⟨zk, zm, zl⟩ := addAll_ok a x XK.out OA.out.rw_.ok
              have XZ : Hid (x = addAll x a) := Lib.hid (rext _ _ XK.out zk fun n => by
                rw [zm n, XM.out n]
                exact ⟨fun h => .inl h, fun h => h.elim id .inl⟩)
              rw [← XZ.out] at LZ ⊢
              have LX := Lib.hid (LX.out.on hG.out)
              have LY := Lib.hid (LY.out.on hG.out)
              have G6 := Lib.hid (grow2 G5.out hG.out)
              clear zk zm zl hG G5
              go_wp2_with fail
              refine (same_lv LX.out LY.out (by omega) true (by simp) (only_refl _ _)).mono ?_
              rintro _ w8 ⟨rfl, g8⟩
              have LX := Lib.hid (LX.out.on g8)
              have LZ := Lib.hid (LZ.out.on g8)
              have G8 := Lib.hid (grow2 G6.out g8)
              clear g8 G6
              go_wp2_with fail
              refine (same_lv LX.out LZ.out (by omega) true (by simp) (only_refl _ _)).mono ?_
              rintro _ w9 ⟨rfl, g9⟩
              have G9 := Lib.hid (grow2 G8.out g9)
              go_wp2_with fail
              go_ret
              exact ⟨rfl, G9.out⟩
end Go.Proofs.Ytnljccmchmclnaa
