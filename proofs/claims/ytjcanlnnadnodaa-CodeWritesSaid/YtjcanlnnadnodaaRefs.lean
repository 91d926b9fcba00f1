/- Contracts of the reference's Text, Ints: they write the same bytes as package code. -/
import Derived.Test.YtjcanlnnadnodaaRef
namespace Go.Proofs.Ytjcanlnnadnodaa
open Go.RowKit

theorem refText_any (base : Nat) (v : Value) (xs : List Value) (s : ByteArray) (w : World) (hown : w.ownsRow base 5 1 v xs.length xs) (hb : base ≤ w.heap.size) (hn : xs.length ≤ 1099511627776) (hs : s.size ≤ 1099511627776) :
    Calls Try.prog 16 #[v, .string s] w (Out2 w base v xs (bs (enc s.size) ++ bs (sb s))) := by
  go_enter Try.func16, Try.ntmps16
  go_wp2_with fail
  refine (refInt_any base v xs s.size _ hown hb (by omega) (by omega) (by omega)).mono ?_
  rintro e w1 ⟨v1, rfl, g1, k1⟩
  have hsz1 := g1.only.size
  have hel := enc_len s.size (by omega) (by omega)
  go_wp2_with (at_builtin; go_loud (refine app_keep rfl _ _ 9 rfl base v1 (xs ++ bs (enc s.size)) rfl g1.own (.string s) (bs (sb s)) rfl (by rw [← sb_cells, byteCells_length]; exact Src.ofString _ Try.underlying9 s) (by rw [List.length_append, bs_len, bs_len, sb_len]; omega) (by omega) ?_); intro v3 w3 g3 k3)
  go_ret
  have h := grew_more g1 k1 g3 k3
  exact ⟨v3, rfl, h.1, h.2⟩

set_option maxHeartbeats 1000000 in
theorem refInts_any (base : Nat) (v : Value) (xs : List Value) (B : Option Addr) (d : Nat) (l : List Int) (w : World) (hown : w.ownsRow base 5 1 v xs.length xs) (hb0 : base ≤ w.heap.size) (hn : xs.length ≤ 1099511627776)
    (hl : Has w base B (is l)) (hm : l.length ≤ 68719476736) (hb : ∀ n ∈ l, -9223372036854775808 ≤ n ∧ n ≤ 9223372036854775807) :
    Calls Try.prog 18 #[v, .slice B l.length d] w (Out2 w base v xs (bs (enc l.length) ++ bs (encs l))) := by
  have hvb : ∀ k, v.ownBlock = some k → base ≤ k := fun k hk => by have := hown.lt k hk; omega
  go_enter Try.func18, Try.ntmps18
  go_wp2_with fail
  refine (refInt_any base v xs l.length _ hown hb0 (by omega) (by omega) (by omega)).mono ?_
  rintro e w2 ⟨v2, rfl, g2, k2⟩
  have hsz2 := g2.only.size
  have hel := enc_len l.length (by omega) (by omega)
  have HL := Lib.hid hl
  have HB := Lib.hid hb
  have HS := fun (k : Nat) (h : k < l.length) => Lib.hid (encs_snoc l k h)
  have HV := Lib.hid hvb
  clear hl hb hvb
  go_wp2_with fail
  go_loopw [0, 5] (fun sv si wr => ∃ (k : Nat), k ≤ l.length ∧ si = .int .i64 k ∧ Grew w wr base 5 v sv (xs ++ (bs (enc l.length) ++ bs (encs (l.take k)))) ∧ wr.ownsRow base 5 1 v xs.length xs)
    (fun _ si _ => l.length - (intOf si).toNat)
  case atStart => exact ⟨0, Nat.zero_le _, rfl, by simpa [encs, bs] using g2, k2⟩
  case round =>
    obtain ⟨k, hk, rfl, g, kk⟩ := hrel
    by_cases hlt : k < l.length
    · have hx : (is l)[k]? = some (.int .i64 l[k]) := by simp [is, hlt]
      have hbk := HB.out l[k] (List.getElem_mem hlt)
      have hlk : (encs (l.take k)).length ≤ 10 * k := by
        have h := encs_len (l.take k) (fun n hn => HB.out n (List.mem_of_mem_take hn))
        have : (l.take k).length ≤ k := List.length_take_le _ _
        omega
      obtain ⟨b, off, rfl, hcell⟩ : ∃ b off, B = some ⟨b, off, none⟩ ∧ wr.cell? ⟨b, off + k, none⟩ = some (.int .i64 l[k]) := by
        rcases HL.out.only g.only hb0 HV.out with h0 | ⟨b, off, hB, hb, hc⟩
        · rw [h0] at hx; cases hx
        · exact ⟨b, off, hB, hc k _ hx⟩
      obtain ⟨x, ex⟩ : ∃ x, x = l[k] := ⟨_, rfl⟩
      rw [← ex] at hcell hbk
      have HX : Hid (x = l[k]) := ex
      clear ex hx
      have HSk := HS k hlt
      have hszr := g.only.size
      go_wp2_with (go_at_call 14; go_loud (refine (refInt_any base _ (xs ++ (bs (enc l.length) ++ bs (encs (l.take k)))) x _ g.own (by omega) hbk.1 hbk.2 (by simp only [List.length_append, bs_len]; omega)).mono ?_); rintro e w3 ⟨v3, rfl, g3, k3⟩)
      go_roundw
      case rel =>
        have h := grew_more g kk g3 k3
        refine ⟨k + 1, hlt, by go_num, ?_, h.2⟩
        rw [HSk.out, bs_append, ← HX.out]
        simpa only [List.append_assoc] using h.1
      case measure => simp [intOf]; omega
    · have hkl : k = l.length := by omega
      subst hkl
      go_wp2
      go_ret
      refine ⟨_, rfl, ?_, kk⟩
      rw [List.take_length] at g
      exact g
end Go.Proofs.Ytjcanlnnadnodaa
