/- Contracts of code.Int, code.Text, code.Ints, and of the laws' own helpers known and within. Conditions: what is written stays below 2^40 bytes. -/
import Derived.Test.YtjcanlnnadnodaaInt
namespace Go.Proofs.Ytjcanlnnadnodaa
open Go.RowKit

theorem int_any (A : Option Addr) (c : Nat) (xs : List Value) (n : Int) (w : World) (h : Has w w.heap.size A xs) (h1 : ∀ u ∈ xs, u.oneCell' = true) (hn : xs.length ≤ 1099511627776)
    (l1 : -9223372036854775808 ≤ n) (l2 : n ≤ 9223372036854775807) :
    Calls Try.prog 13 #[.slice A xs.length c, .int .i64 n] w (Out w w.heap.size (.slice none 0 0) (xs ++ bs (enc n))) := by
  go_enter Try.func13, Try.ntmps13
  go_wp2_with fail
  refine (fresh_any A c xs _ h h1 hn).mono ?_
  rintro e w1 ⟨v1, rfl, g1⟩
  have hsz := g1.only.size
  go_wp2_with fail
  refine (appendInt_any w.heap.size v1 xs n _ g1.own hsz l1 l2 (by omega)).mono ?_
  rintro e w2 ⟨v2, rfl, g2⟩
  go_wp2_with fail
  go_ret
  exact ⟨v2, rfl, g1.trans g2⟩

def sb (s : ByteArray) : List Int := s.data.toList.map fun b => (b.toNat : Int)
theorem sb_len (s : ByteArray) : (sb s).length = s.size := by simp [sb]
theorem sb_cells (s : ByteArray) : byteCells s = bs (sb s) := by simp [byteCells, bs, sb]

theorem text_any (A : Option Addr) (c : Nat) (xs : List Value) (s : ByteArray) (w : World) (h : Has w w.heap.size A xs) (h1 : ∀ u ∈ xs, u.oneCell' = true) (hn : xs.length ≤ 1099511627776)
    (hs : s.size ≤ 1099511627776) :
    Calls Try.prog 15 #[.slice A xs.length c, .string s] w (Out w w.heap.size (.slice none 0 0) (xs ++ (bs (enc s.size) ++ bs (sb s)))) := by
  go_enter Try.func15, Try.ntmps15
  go_wp2_with fail
  refine (fresh_any A c xs _ h h1 hn).mono ?_
  rintro e w1 ⟨v1, rfl, g1⟩
  have hsz := g1.only.size
  go_wp2_with fail
  refine (appendInt_any w.heap.size v1 xs s.size _ g1.own hsz (by omega) (by omega) (by omega)).mono ?_
  rintro e w2 ⟨v2, rfl, g2⟩
  have hsz2 := g2.only.size
  have hel := enc_len s.size (by omega) (by omega)
  go_wp2_with (at_builtin; go_loud (refine app_bytes rfl _ _ 9 rfl w.heap.size v2 (xs ++ bs (enc s.size)) rfl g2.own (.string s) (bs (sb s)) rfl (by rw [← sb_cells, byteCells_length]; exact Src.ofString _ Try.underlying9 s) (by rw [List.length_append, bs_len, bs_len, sb_len]; omega) (by omega) ?_); intro v3 w3 g3)
  go_ret
  refine ⟨v3, rfl, ?_⟩
  rw [List.append_assoc] at g3
  exact (g1.trans g2).trans g3

def encs (l : List Int) : List Int := l.flatMap enc
theorem encs_len (l : List Int) (hl : ∀ n ∈ l, -9223372036854775808 ≤ n ∧ n ≤ 9223372036854775807) : (encs l).length ≤ 10 * l.length := by
  induction l with
  | nil => simp [encs]
  | cons n l ih =>
    have h1 := enc_len n (hl n (by simp)).1 (hl n (by simp)).2
    have h2 := ih (fun m hm => hl m (by simp [hm]))
    simp only [encs, List.flatMap_cons, List.length_append, List.length_cons] at h2 ⊢
    omega
theorem encs_snoc (l : List Int) (k : Nat) (h : k < l.length) : encs (l.take (k + 1)) = encs (l.take k) ++ enc l[k] := by
  rw [List.take_succ_eq_append_getElem h]
  simp only [encs, List.flatMap_append, List.flatMap_cons, List.flatMap_nil, List.append_nil]
def is (l : List Int) : List Value := l.map (Value.int .i64)

set_option maxHeartbeats 1000000 in
theorem ints_any (A B : Option Addr) (c d : Nat) (xs : List Value) (l : List Int) (w : World) (h : Has w w.heap.size A xs) (h1 : ∀ u ∈ xs, u.oneCell' = true) (hn : xs.length ≤ 1099511627776)
    (hl : Has w w.heap.size B (is l)) (hm : l.length ≤ 68719476736) (hb : ∀ n ∈ l, -9223372036854775808 ≤ n ∧ n ≤ 9223372036854775807) :
    Calls Try.prog 17 #[.slice A xs.length c, .slice B l.length d] w (Out w w.heap.size (.slice none 0 0) (xs ++ (bs (enc l.length) ++ bs (encs l)))) := by
  go_enter Try.func17, Try.ntmps17
  go_wp2_with fail
  refine (fresh_any A c xs _ h h1 hn).mono ?_
  rintro e w1 ⟨v1, rfl, g1⟩
  have hsz := g1.only.size
  go_wp2_with fail
  refine (appendInt_any w.heap.size v1 xs l.length _ g1.own hsz (by omega) (by omega) (by omega)).mono ?_
  rintro e w2 ⟨v2, rfl, g2⟩
  have hsz2 := g2.only.size
  have hel := enc_len l.length (by omega) (by omega)
  have g12 := g1.trans g2
  have HL := Lib.hid hl
  have HB := Lib.hid hb
  have HS := fun (k : Nat) (h : k < l.length) => Lib.hid (encs_snoc l k h)
  clear hl hb g2 g1
  go_wp2_with fail
  go_loopw [5, 7, 15] (fun sv sx si wr => ∃ (k : Nat), k ≤ l.length ∧ si = .int .i64 k ∧ Grew w wr w.heap.size 5 (.slice none 0 0) sv (xs ++ (bs (enc l.length) ++ bs (encs (l.take k)))))
    (fun _ _ si _ => l.length - (intOf si).toNat)
  case atStart => exact ⟨0, Nat.zero_le _, rfl, by simpa [encs, bs] using g12⟩
  case round =>
    obtain ⟨k, hk, rfl, g⟩ := hrel
    by_cases hlt : k < l.length
    · have hx : (is l)[k]? = some (.int .i64 l[k]) := by simp [is, hlt]
      have hbk := HB.out l[k] (List.getElem_mem hlt)
      have hlk : (encs (l.take k)).length ≤ 10 * k := by
        have h := encs_len (l.take k) (fun n hn => HB.out n (List.mem_of_mem_take hn))
        have : (l.take k).length ≤ k := List.length_take_le _ _
        omega
      obtain ⟨b, off, rfl, hblt, hcell⟩ : ∃ b off, B = some ⟨b, off, none⟩ ∧ b < w.heap.size ∧ wr.cell? ⟨b, off + k, none⟩ = some (.int .i64 l[k]) := by
        rcases HL.out with h0 | ⟨b, off, hB, hb, hc⟩
        · rw [h0] at hx; cases hx
        · exact ⟨b, off, hB, hb, ((only_below (g.none rfl)).cell (p := ⟨b, off + k, none⟩) hb).trans (hc k _ hx)⟩
      obtain ⟨x, ex⟩ : ∃ x, x = l[k] := ⟨_, rfl⟩
      rw [← ex] at hcell hbk
      have HX : Hid (x = l[k]) := ex
      clear ex hx
      have HSk := HS k hlt
      have hszr := g.only.size
      go_wp2_with (go_at_call 33; go_loud (refine (appendInt_any w.heap.size _ (xs ++ (bs (enc l.length) ++ bs (encs (l.take k)))) x _ g.own hszr hbk.1 hbk.2 (by simp only [List.length_append, bs_len]; omega)).mono ?_); rintro e w3 ⟨v3, rfl, g3⟩)
      go_roundw
      case rel =>
        refine ⟨k + 1, hlt, by go_num, ?_⟩
        have h := g.trans g3
        rw [HSk.out, bs_append, ← HX.out]
        simpa only [List.append_assoc] using h
      case measure => simp [intOf]; omega
    · have hkl : k = l.length := by omega
      subst hkl
      go_wp2
      go_ret
      refine ⟨_, rfl, ?_⟩
      rw [List.take_length] at g
      exact g
end Go.Proofs.Ytjcanlnnadnodaa
