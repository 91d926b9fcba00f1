/- The walk of SchemaAlike: it returns true for every input. No condition. -/
import Derived.Test.YtjgbflgeicejeaaDoorSst
import Derived.OpenShut
namespace Go.Proofs.YtjgbflgeicejeaaDoor
open Go.RowKit Go.Lib Go.ChangeShapes

def HasB (w : World) (A : Option Addr) (l : List Int) : Prop := l = [] ∨ ∃ b off, A = some ⟨b, off, none⟩ ∧ b < w.heap.size ∧ ∀ j n, l[j]? = some n → w.cell? ⟨b, off + j, none⟩ = some (.int .u8 n)
theorem of_bytes {w : World} {A : Option Addr} {n c : Nat} {zs : List Int} (h : (A = none ∧ n = 0 ∧ c = 0 ∧ zs = []) ∨
    ∃ x, A = some x ∧ n ≤ c ∧ c ≤ maxLen ∧ zs.length = c ∧ (∀ i, i < zs.length → w.cell? (x.add i) = some (.int .u8 (zs.getD i 0))) ∧ ∀ m ∈ zs, (Lit.int .u8 m).wf = true) :
    ∃ l : List Int, l.length = n ∧ HasB w A l ∧ (∀ m ∈ l, 0 ≤ m ∧ m ≤ 255) ∧ n ≤ c ∧ c ≤ maxLen := by
  rcases h with ⟨rfl, rfl, rfl, rfl⟩ | ⟨x, rfl, h1, h2, h3, h4, h5⟩
  · exact ⟨[], rfl, .inl rfl, (fun m hm => by simp at hm), Nat.le_refl _, Nat.zero_le _⟩
  · refine ⟨zs.take n, by rw [List.length_take]; omega, ?_, fun m hm => bounds_u8 (h5 m (List.mem_of_mem_take hm)), h1, h2⟩
    rcases Nat.eq_zero_or_pos n with h0 | h0
    · subst h0; exact .inl (by simp)
    · obtain ⟨b, off, spot⟩ := x
      have hc0 := h4 0 (by omega)
      have hs : spot = none := by simpa [Addr.add] using World.cell?_spot hc0
      subst hs
      have hb : b < w.heap.size := by
        rcases Nat.lt_or_ge b w.heap.size with h | h
        · exact h
        · rw [Addr.add_lit] at hc0
          simp [World.cell?, Array.getElem?_eq_none h] at hc0
      refine .inr ⟨b, off, rfl, hb, fun j u hu => ?_⟩
      rw [List.getElem?_take] at hu
      split at hu
      · rename_i hj
        have hjl : j < zs.length := by omega
        have := h4 j hjl
        rw [Addr.add_lit] at this
        rw [this]
        rw [List.getElem?_eq_getElem hjl] at hu
        injection hu with hu
        simp [List.getD, List.getElem?_eq_getElem hjl, hu]
      · cases hu

theorem tl_blank (k : Nat) (m : List UInt8) : tl (List.replicate k 32 ++ m) = tl m := by
  induction k with
  | zero => rfl
  | succ k ih =>
    rw [List.replicate_succ, List.cons_append]
    unfold tl at ih ⊢
    rw [List.dropWhile_cons_of_pos (p := (· == 32)) rfl]; exact ih
theorem tr_blank (k : Nat) (m : List UInt8) : tr (m ++ List.replicate k 32) = tr m := by
  induction k with
  | zero => simp
  | succ k ih =>
    rw [List.replicate_succ', ← List.append_assoc, tr_snoc, if_pos rfl]; exact ih
theorem tl_none {m : List UInt8} (h : ∀ x ∈ m, x ≠ 32) : tl m = m := by
  cases m with
  | nil => rfl
  | cons x m =>
    unfold tl
    rw [List.dropWhile_cons_of_neg (p := (· == 32)) (by simpa using h x (by simp))]
theorem tr_none {m : List UInt8} (h : ∀ x ∈ m, x ≠ 32) : tr m = m := by
  have := tl_none (m := m.reverse) (fun x hx => h x (List.mem_reverse.1 hx))
  unfold tl at this
  unfold tr
  rw [this, List.reverse_reverse]
theorem tm_none {m : List UInt8} (h : ∀ x ∈ m, x ≠ 32) : tm m = m := by unfold tm; rw [tr_none h, tl_none h]
theorem tm_between (p r : Nat) {m : List UInt8} (h : ∀ x ∈ m, x ≠ 32) : tm (List.replicate p 32 ++ (m ++ List.replicate r 32)) = m := by
  unfold tm
  rw [tl_tr, tl_blank, ← tl_tr, tr_blank, tr_none h, tl_none h]
/-- A letter out of a byte, and its like. -/
def fx (n : Int) : UInt8 := UInt8.ofNat (97 + n.toNat % 26)
def gx (n : Int) : UInt8 := if 128 ≤ n then UInt8.ofNat (65 + n.toNat % 26) else fx n
theorem fx_nat (n : Int) : (fx n).toNat = 97 + n.toNat % 26 := by unfold fx; rw [UInt8.toNat_ofNat']; omega
theorem low_fx (n : Int) : lowB (fx n) = fx n := by unfold lowB; rw [if_neg]; rw [fx_nat]; omega
theorem fx_ne (n : Int) : fx n ≠ 32 := fun h => by have := fx_nat n; rw [h] at this; simp at this; omega
theorem low_gx (n : Int) : lowB (gx n) = fx n := by
  unfold gx
  by_cases h : 128 ≤ n
  · rw [if_pos h]
    have e : (UInt8.ofNat (65 + n.toNat % 26)).toNat = 65 + n.toNat % 26 := by rw [UInt8.toNat_ofNat']; omega
    unfold lowB
    rw [if_pos (by rw [e]; omega)]
    apply UInt8.toNat_inj.1
    rw [UInt8.toNat_add, e, fx_nat]
    simp; omega
  · rw [if_neg h]; exact low_fx n
theorem low_xs (l : List Int) : low (l.map fx) = l.map fx := by
  unfold low; rw [List.map_map]; exact List.map_congr_left fun n _ => low_fx n
theorem low_ys (p r : Nat) (l : List Int) : low (List.replicate p 32 ++ (l.map gx ++ List.replicate r 32)) = List.replicate p 32 ++ (l.map fx ++ List.replicate r 32) := by
  have hb : ∀ k, (List.replicate k (32 : UInt8)).map lowB = List.replicate k 32 := fun k => by rw [List.map_replicate]; rfl
  unfold low
  rw [List.map_append, List.map_append, hb, hb, List.map_map]
  congr 2
  exact List.map_congr_left fun n _ => low_gx n
theorem xs_ne (l : List Int) : ∀ x ∈ l.map fx, x ≠ 32 := fun x hx => by obtain ⟨n, _, rfl⟩ := List.mem_map.1 hx; exact fx_ne n
theorem up_x (l : List Int) : upS (ofB (l.map fx)) 1 3 = ofB (l.map fx) := by
  rw [upS_ok _ (by decide) (by decide) (by decide), bl_ofB, show upL (l.map fx) 1 3 = tm (low (l.map fx)) by simp [upL], low_xs, tm_none (xs_ne l)]
theorem up_y (p r : Nat) (l : List Int) : upS (ofB (List.replicate p 32 ++ (l.map gx ++ List.replicate r 32))) 1 3 = ofB (l.map fx) := by
  rw [upS_ok _ (by decide) (by decide) (by decide), bl_ofB, show ∀ m, upL m 1 3 = tm (low m) by intro m; simp [upL], low_ys, tm_between p r (xs_ne l)]
theorem ofB_append (a b : List UInt8) : ofB a ++ ofB b = ofB (a ++ b) := by
  apply bl_inj
  rw [bl_ofB]
  simp [bl, ofB, ByteArray.data_append]
theorem alloc_size (w : World) (o : Obj) : (w.alloc o).heap.size = w.heap.size + 1 := by
  show (w.heap.push o).size = _
  simp
theorem conv_one (W : World) (c : Nat) (hc : c ≤ 255) : (convert 36 9 (.slice (some ⟨W.heap.size, 0, none⟩) 1 1)).run Tryd.prog (W.alloc (.cells #[.int .u8 (c : Int)] 5)) = .ok (.string (ofB [UInt8.ofNat c])) (W.alloc (.cells #[.int .u8 (c : Int)] 5)) := by
  have h := run_convert_bytes_back (P := Tryd.prog) (W.alloc (.cells #[.int .u8 (c : Int)] 5)) 36 9 5 ⟨W.heap.size, 0, none⟩ 1 [UInt8.ofNat c] Tryd.underlying36 Tryd.underlying5 Tryd.underlying9 (fun j hj => by
    have hj0 : j = 0 := by simpa using hj
    subst hj0
    have : ((UInt8.ofNat c).toNat : Int) = (c : Int) := by rw [UInt8.toNat_ofNat']; omega
    rw [Addr.add_lit]
    simp only [List.getElem_cons_zero, this]
    exact cell_of alloc_new rfl)
  exact h

set_option maxRecDepth 100000 in
set_option maxHeartbeats 1000000 in
theorem alike_core (A : Option Addr) (cap : Nat) (l : List Int) (a b : Int) (w : World) (hA : HasB w A l) (hl : l.length ≤ 100) (hlb : ∀ m ∈ l, 0 ≤ m ∧ m ≤ 255)
    (a1 : -9223372036854775808 ≤ a) (a2 : a ≤ 9223372036854775807) (b1 : -9223372036854775808 ≤ b) (b2 : b ≤ 9223372036854775807) :
    Calls Tryd.prog 7 #[.slice A l.length cap, .int .i64 a, .int .i64 b] w fun e w' => e = .returned (.bool true) ∧ w.grownBy w' none := by
  have HK := fun w => Lib.hid (known_any w)
  have h1 : ¬ (100 : Int) < (l.length : Int) := by omega
  have HA := Lib.hid hA
  have HLB := Lib.hid hlb
  have WA := fun w => Lib.hid (within_any a 5 a1 a2 (by omega) (by omega) w)
  have WB := fun w => Lib.hid (within_any b 5 b1 b2 (by omega) (by omega) w)
  have pa1 := Int.emod_nonneg a (show (5 : Int) ≠ 0 by decide)
  have pa2 := Int.emod_lt_of_pos a (show (0 : Int) < 5 by decide)
  have pb1 := Int.emod_nonneg b (show (5 : Int) ≠ 0 by decide)
  have pb2 := Int.emod_lt_of_pos b (show (0 : Int) < 5 by decide)
  obtain ⟨p, hp⟩ : ∃ p : Nat, a % 5 = (p : Int) := ⟨(a % 5).toNat, by omega⟩
  obtain ⟨q, hq⟩ : ∃ q : Nat, b % 5 = (q : Int) := ⟨(b % 5).toNat, by omega⟩
  rw [hp] at WA pa1 pa2
  rw [hq] at WB pb1 pb2
  clear hA hlb hp hq
  go_enter Tryd.func7, Tryd.ntmps7
  go_wp2_with fail
  refine (HK _).out.mono ?_
  rintro _ w1 ⟨rfl, g1⟩
  go_wp2_with fail
  go_loopw [7, 8, 9] (fun sx sy si wr => ∃ (i : Nat) (x y : ByteArray), i ≤ l.length ∧ si = .int .i64 i ∧ sx = .string x ∧ sy = .string y ∧ Hid (x = ofB ((l.take i).map fx)) ∧ Hid (y = ofB ((l.take i).map gx)) ∧ w.grownBy wr none)
    (fun _ _ si _ => l.length - (intOf si).toNat)
  case atStart => exact ⟨0, _, _, Nat.zero_le _, rfl, rfl, rfl, rfl, rfl, g1⟩
  case round =>
    obtain ⟨i, x, y, hi, rfl, rfl, rfl, HX, HY, hG⟩ := hrel
    clear g1
    by_cases hlt : i < l.length
    · have ht : (i : Int) < (l.length : Int) := by omega
      have ht0 : (0 : Int) ≤ (i : Int) := by omega
      have hes : IntKind.i64.wrap ((i : Int) + 1) = (i : Int) + 1 := by rw [IntKind.wrap_i64]; omega
      obtain ⟨bb, off, n, rfl, hn, HT, hcell⟩ : ∃ bb off n, A = some ⟨bb, off, none⟩ ∧ (0 ≤ n ∧ n ≤ 255) ∧ Hid (l.take (i + 1) = l.take i ++ [n]) ∧ wr.cell? ⟨bb, off + i, none⟩ = some (.int .u8 n) := by
        rcases HA.out with h0 | ⟨bb, off, hA, hb, hc⟩
        · rw [h0] at hlt; simp at hlt
        · exact ⟨bb, off, l[i], hA, HLB.out _ (List.getElem_mem hlt), List.take_succ_eq_append_getElem hlt, (World.cell?_of_block (hG.block bb hb (by simp))).trans (hc i _ (List.getElem?_eq_getElem hlt))⟩
      have hc1 : (97 : Int) + n % 26 = ((97 + n.toNat % 26 : Nat) : Int) := by omega
      have hcv1 := conv_one wr (97 + n.toNat % 26) (by omega)
      rw [← hc1] at hcv1
      have hfx : UInt8.ofNat (97 + n.toNat % 26) = fx n := rfl
      rw [hfx] at hcv1
      have hblt : bb < wr.heap.size := by
        rcases Nat.lt_or_ge bb wr.heap.size with h | h
        · exact h
        · simp [World.cell?, Array.getElem?_eq_none h] at hcell
      have hcell1 : (wr.alloc (.cells #[.int .u8 (97 + n % 26)] 5)).cell? ⟨bb, off + i, none⟩ = some (.int .u8 n) := (World.cell?_of_block (alloc_old hblt)).trans hcell
      have hsz1 : (wr.alloc (.cells #[.int .u8 (97 + n % 26)] 5)).heap.size = wr.heap.size + 1 := alloc_size _ _
      have HX2 : Hid (x ++ ofB [fx n] = ofB ((l.take (i + 1)).map fx)) := by unfold Hid; rw [HX.out, ofB_append, HT.out, List.map_append]; rfl
      have HG2 : ∀ o o', Hid (w.grownBy ((wr.alloc o).alloc o') none) := fun o o' => ⟨hG.os, hG.tape, hG.output, by have := hG.size; rw [alloc_size, alloc_size]; omega, fun k hk hne => (alloc_old (by have := hG.size; rw [alloc_size]; omega)).trans ((alloc_old (by have := hG.size; omega)).trans (hG.block k hk hne))⟩
      have hxz : x.size = i := by have h := congrArg ByteArray.size HX.out; rw [ofB_size] at h; rw [h]; simp; omega
      have hyz : y.size = i := by have h := congrArg ByteArray.size HY.out; rw [ofB_size] at h; rw [h]; simp; omega
      have hz1 : ¬ 9223372036854775807 < x.size + (ofB [fx n]).size := by rw [ofB_size, hxz]; simp; omega
      clear hc1 hfx
      by_cases h128 : 128 ≤ n
      · have HY2 : Hid (y ++ ofB [gx n] = ofB ((l.take (i + 1)).map gx)) := by unfold Hid; rw [HY.out, ofB_append, HT.out, List.map_append]; rfl
        have hgx : UInt8.ofNat (65 + n.toNat % 26) = gx n := by unfold gx; rw [if_pos h128]
        have hc2 : (97 : Int) + n % 26 - 32 = ((65 + n.toNat % 26 : Nat) : Int) := by omega
        have hw : IntKind.u8.wrap ((97 : Int) + n % 26 - 32) = (97 : Int) + n % 26 - 32 := by
          have := IntKind.wrap_u8 ((97 : Int) + n % 26 - 32)
          rw [this]; omega
        have hcv2 := conv_one (wr.alloc (.cells #[.int .u8 (97 + n % 26)] 5)) (65 + n.toNat % 26) (by omega)
        rw [← hc2, hsz1, hgx] at hcv2
        clear hc2 hgx
        have hz2 : ¬ 9223372036854775807 < y.size + (ofB [gx n]).size := by rw [ofB_size, hyz]; simp; omega
        clear hxz hyz
        go_wp2_with fail
        go_roundw
        case rel => exact ⟨i + 1, _, _, by omega, by go_num, rfl, rfl, HX2, HY2, (HG2 _ _).out⟩
        case measure => simp [intOf]; omega
      · have HY2 : Hid (y ++ ofB [fx n] = ofB ((l.take (i + 1)).map gx)) := by
          unfold Hid; rw [HY.out, ofB_append, HT.out, List.map_append]
          have : gx n = fx n := by unfold gx; rw [if_neg h128]
          simp [this]
        have hc2 : (97 : Int) + n % 26 = ((97 + n.toNat % 26 : Nat) : Int) := by omega
        have hcv2 := conv_one (wr.alloc (.cells #[.int .u8 (97 + n % 26)] 5)) (97 + n.toNat % 26) (by omega)
        rw [← hc2, hsz1, show UInt8.ofNat (97 + n.toNat % 26) = fx n from rfl] at hcv2
        clear hc2
        have hz2 : ¬ 9223372036854775807 < y.size + (ofB [fx n]).size := by rw [ofB_size, hyz]; simp; omega
        clear hxz hyz
        go_wp2_with fail
        go_roundw
        case rel => exact ⟨i + 1, _, _, by omega, by go_num, rfl, rfl, HX2, HY2, (HG2 _ _).out⟩
        case measure => simp [intOf]; omega
    · have ht : ¬ (i : Int) < (l.length : Int) := by omega
      have hE : l.take i = l := List.take_of_length_le (by omega)
      rw [hE] at HX HY
      have HX2 := HX
      have HY2 : Hid (y = ofB (List.replicate 0 32 ++ l.map gx)) := HY
      have hG2 := hG
      clear hE HX HY hG
      go_wp2_with fail
      go_loopw [8, 11] (fun sy sk wx => ∃ (k : Nat) (y : ByteArray), k ≤ p ∧ sk = .int .i64 k ∧ sy = .string y ∧ Hid (y = ofB (List.replicate k 32 ++ l.map gx)) ∧ w.grownBy wx none)
        (fun _ sk _ => p - (intOf sk).toNat)
      case atStart => exact ⟨0, y, Nat.zero_le _, rfl, rfl, HY2, hG2⟩
      case round =>
        clear HY2 hG2 hlt ht hi
        obtain ⟨k, y, hk, rfl, rfl, HY, hG⟩ := hrel
        have hyz : y.size = k + l.length := by have h := congrArg ByteArray.size HY.out; rw [ofB_size] at h; rw [h]; simp
        by_cases hkp : k < p
        · have hb1 : (k : Int) < (p : Int) := by omega
          have hes : IntKind.i64.wrap ((k : Int) + 1) = (k : Int) + 1 := by rw [IntKind.wrap_i64]; omega
          have HY3 : Hid (({ data := #[32] } : ByteArray) ++ y = ofB (List.replicate (k + 1) 32 ++ l.map gx)) := by
            unfold Hid
            rw [HY.out, show ({ data := #[32] } : ByteArray) = ofB [32] from rfl, ofB_append]; rfl
          have hz1 : ¬ 9223372036854775807 < 1 + y.size := by omega
          have hz2 : ¬ 9223372036854775807 < ({ data := #[32] } : ByteArray).size + y.size := by rw [show ({ data := #[32] } : ByteArray).size = 1 from rfl]; omega
          go_wp2_with fail
          refine (WA _).out.mono ?_
          rintro _ w5 ⟨rfl, rfl⟩
          go_wp2_with fail
          go_roundw
          case rel => exact ⟨k + 1, _, by omega, by go_num, rfl, HY3, hG⟩
          case measure => simp [intOf]; omega
        · have hb1 : ¬ (k : Int) < (p : Int) := by omega
          have hkp' : k = p := by omega
          subst hkp'
          have HY3 : Hid (y = ofB (List.replicate k 32 ++ (l.map gx ++ List.replicate 0 32))) := by unfold Hid; rw [HY.out]; simp
          have hG3 := hG
          clear HY hG
          go_wp2_with fail
          refine (WA _).out.mono ?_
          rintro _ w5 ⟨rfl, rfl⟩
          go_wp2_with fail
          go_loopw [8, 12] (fun sy sk wx => ∃ (r : Nat) (y : ByteArray), r ≤ q ∧ sk = .int .i64 r ∧ sy = .string y ∧ Hid (y = ofB (List.replicate k 32 ++ (l.map gx ++ List.replicate r 32))) ∧ w.grownBy wx none)
            (fun _ sk _ => q - (intOf sk).toNat)
          case atStart => exact ⟨0, y, Nat.zero_le _, rfl, rfl, HY3, hG3⟩
          case round =>
            clear HY3 hG3 hyz hkp hb1
            obtain ⟨r, y, hr, rfl, rfl, HY, hG⟩ := hrel
            have hyz : y.size = k + (l.length + r) := by have h := congrArg ByteArray.size HY.out; rw [ofB_size] at h; rw [h]; simp
            by_cases hrq : r < q
            · have hb1 : (r : Int) < (q : Int) := by omega
              have hes : IntKind.i64.wrap ((r : Int) + 1) = (r : Int) + 1 := by rw [IntKind.wrap_i64]; omega
              have HY3 : Hid (y ++ ({ data := #[32] } : ByteArray) = ofB (List.replicate k 32 ++ (l.map gx ++ List.replicate (r + 1) 32))) := by
                unfold Hid
                rw [HY.out, show ({ data := #[32] } : ByteArray) = ofB [32] from rfl, ofB_append, List.replicate_succ']; simp
              have hz1 : ¬ 9223372036854775807 < y.size + 1 := by omega
              have hz2 : ¬ 9223372036854775807 < y.size + ({ data := #[32] } : ByteArray).size := by rw [show ({ data := #[32] } : ByteArray).size = 1 from rfl]; omega
              go_wp2_with fail
              refine (WB _).out.mono ?_
              rintro _ w5 ⟨rfl, rfl⟩
              go_wp2_with fail
              go_roundw
              case rel => exact ⟨r + 1, _, by omega, by go_num, rfl, HY3, hG⟩
              case measure => simp [intOf]; omega
            · have hb1 : ¬ (r : Int) < (q : Int) := by omega
              have hxz : x.size = l.length := by have h := congrArg ByteArray.size HX2.out; rw [ofB_size] at h; rw [h]; simp
              have U1 := fun w => up_any x 1 3 (by unfold maxLen; omega) w
              have U2 := fun w => up_any y 1 3 (by unfold maxLen; omega) w
              rw [show upS x 1 3 = x by rw [HX2.out]; exact up_x l, chk_ok (by decide) (by decide) (by decide)] at U1
              rw [show upS y 1 3 = x by rw [HX2.out, HY.out]; exact up_y k r l, chk_ok (by decide) (by decide) (by decide)] at U2
              have U1 := fun w => Lib.hid (U1 w)
              have U2 := fun w => Lib.hid (U2 w)
              clear hxz hyz
              go_wp2_with fail
              refine (WB _).out.mono ?_
              rintro _ w5 ⟨rfl, rfl⟩
              go_wp2_with fail
              refine (U1 _).out.mono ?_
              rintro _ w6 ⟨rfl, g6⟩
              go_wp2_with fail
              refine (U2 _).out.mono ?_
              rintro _ w7 ⟨rfl, g7⟩
              go_wp2_with fail
              go_ret
              exact ⟨rfl, only_step (only_step hG g6 (fun _ h => by cases h)) g7 (fun _ h => by cases h)⟩
theorem schemaAlike_walk (A : Option Addr) (cap : Nat) (l : List Int) (a b : Int) (w : World) (hA : HasB w A l) (hlm : l.length ≤ maxLen) (hlb : ∀ m ∈ l, 0 ≤ m ∧ m ≤ 255)
    (a1 : -9223372036854775808 ≤ a) (a2 : a ≤ 9223372036854775807) (b1 : -9223372036854775808 ≤ b) (b2 : b ≤ 9223372036854775807) :
    Calls Tryd.prog 7 #[.slice A l.length cap, .int .i64 a, .int .i64 b] w fun e w' => e = .returned (.bool true) ∧ w.grownBy w' none := by
  unfold maxLen at hlm
  by_cases hl : l.length ≤ 100
  · exact alike_core A cap l a b w hA hl hlb a1 a2 b1 b2
  · have h1 : (100 : Int) < (l.length : Int) := by omega
    have HK := fun w => Lib.hid (known_any w)
    clear hA hlb
    go_enter Tryd.func7, Tryd.ntmps7
    go_wp2_with fail
    refine (HK _).out.mono ?_
    rintro _ w1 ⟨rfl, g1⟩
    go_wp2_with fail
    go_ret
    exact ⟨rfl, g1⟩
end Go.Proofs.YtjgbflgeicejeaaDoor
