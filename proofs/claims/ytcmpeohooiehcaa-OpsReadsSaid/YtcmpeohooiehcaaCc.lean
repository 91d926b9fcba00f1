/- Contracts of code.Int, code.Text, code.Ints, and of the laws' own helpers known and within. Conditions: what is written stays below 2^40 bytes. -/
import Derived.Test.YtcmpeohooiehcaaCi
namespace Go.Proofs.Ytcmpeohooiehcaa
open Go.RowKit

theorem int_any (A : Option Addr) (c : Nat) (xs : List Value) (n : Int) (w : World) (h : Has w w.heap.size A xs) (h1 : ∀ u ∈ xs, u.oneCell' = true) (hn : xs.length ≤ 1099511627776)
    (l1 : -9223372036854775808 ≤ n) (l2 : n ≤ 9223372036854775807) :
    Calls Try.prog 61 #[.slice A xs.length c, .int .i64 n] w (Out w w.heap.size (.slice none 0 0) (xs ++ bs (enc n))) := by
  go_enter Try.func61, Try.ntmps61
  go_wp2_with fail
  refine (fresh_any A c xs _ h h1 hn).mono ?_
  rintro e w1 ⟨v1, rfl, g1⟩
  have hsz := g1.only.size
  go_wp2_with fail
  refine (appendInt_any w.heap.size v1 xs n _ g1.own hsz l1 l2 (by omega)).mono ?_
  rintro e w2 ⟨v2, rfl, g2⟩
  go_wp2_with fail
  go_ret
  exact ⟨v2, rfl, g1.trans g2⟩

def sb (s : ByteArray) : List Int := s.data.toList.map fun b => (b.toNat : Int)
theorem sb_len (s : ByteArray) : (sb s).length = s.size := by simp [sb]
theorem sb_cells (s : ByteArray) : byteCells s = bs (sb s) := by simp [byteCells, bs, sb]

theorem text_any (A : Option Addr) (c : Nat) (xs : List Value) (s : ByteArray) (w : World) (h : Has w w.heap.size A xs) (h1 : ∀ u ∈ xs, u.oneCell' = true) (hn : xs.length ≤ 1099511627776)
    (hs : s.size ≤ 1099511627776) :
    Calls Try.prog 62 #[.slice A xs.length c, .string s] w (Out w w.heap.size (.slice none 0 0) (xs ++ (bs (enc s.size) ++ bs (sb s)))) := by
  go_enter Try.func62, Try.ntmps62
  go_wp2_with fail
  refine (fresh_any A c xs _ h h1 hn).mono ?_
  rintro e w1 ⟨v1, rfl, g1⟩
  have hsz := g1.only.size
  go_wp2_with fail
  refine (appendInt_any w.heap.size v1 xs s.size _ g1.own hsz (by omega) (by omega) (by omega)).mono ?_
  rintro e w2 ⟨v2, rfl, g2⟩
  have hsz2 := g2.only.size
  have hel := enc_len s.size (by omega) (by omega)
  go_wp2_with (at_builtin; go_loud (refine app_bytes rfl _ _ 9 rfl w.heap.size v2 (xs ++ bs (enc s.size)) rfl g2.own (.string s) (bs (sb s)) rfl (by rw [← sb_cells, byteCells_length]; exact Src.ofString _ Try.underlying9 s) (by rw [List.length_append, bs_len, bs_len, sb_len]; omega) (by omega) ?_); intro v3 w3 g3)
  go_ret
  refine ⟨v3, rfl, ?_⟩
  rw [List.append_assoc] at g3
  exact (g1.trans g2).trans g3

def encs (l : List Int) : List Int := l.flatMap enc
theorem encs_len (l : List Int) (hl : ∀ n ∈ l, -9223372036854775808 ≤ n ∧ n ≤ 9223372036854775807) : (encs l).length ≤ 10 * l.length := by
  induction l with
  | nil => simp [encs]
  | cons n l ih =>
    have h1 := enc_len n (hl n (by simp)).1 (hl n (by simp)).2
    have h2 := ih (fun m hm => hl m (by simp [hm]))
    simp only [encs, List.flatMap_cons, List.length_append, List.length_cons] at h2 ⊢
    omega
theorem encs_snoc (l : List Int) (k : Nat) (h : k < l.length) : encs (l.take (k + 1)) = encs (l.take k) ++ enc l[k] := by
  rw [List.take_succ_eq_append_getElem h]
  simp only [encs, List.flatMap_append, List.flatMap_cons, List.flatMap_nil, List.append_nil]
def is (l : List Int) : List Value := l.map (Value.int .i64)

end Go.Proofs.Ytcmpeohooiehcaa
