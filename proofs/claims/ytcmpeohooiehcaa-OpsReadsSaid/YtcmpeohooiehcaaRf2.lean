/- Contracts of the reference's Text, Ints: they write the same bytes as package code. -/
import Derived.Test.YtcmpeohooiehcaaRf1
namespace Go.Proofs.Ytcmpeohooiehcaa
open Go.RowKit

set_option maxRecDepth 100000 in
theorem refText_any (base : Nat) (v : Value) (xs : List Value) (s : ByteArray) (w : World) (hown : w.ownsRow base 5 1 v xs.length xs) (hb : base ≤ w.heap.size) (hn : xs.length ≤ 1099511627776) (hs : s.size ≤ 1099511627776) :
    Calls Try.prog 35 #[v, .string s] w (Out2 w base v xs (bs (enc s.size) ++ bs (sb s))) := by
  go_enter Try.func35, Try.ntmps35
  go_wp2_with fail
  refine (refInt_any base v xs s.size _ hown hb (by omega) (by omega) (by omega)).mono ?_
  rintro e w1 ⟨v1, rfl, g1, k1⟩
  have hsz1 := g1.only.size
  have hel := enc_len s.size (by omega) (by omega)
  go_wp2_with (at_builtin; go_loud (refine app_keep rfl _ _ 9 rfl base v1 (xs ++ bs (enc s.size)) rfl g1.own (.string s) (bs (sb s)) rfl (by rw [← sb_cells, byteCells_length]; exact Src.ofString _ Try.underlying9 s) (by rw [List.length_append, bs_len, bs_len, sb_len]; omega) (by omega) ?_); intro v3 w3 g3 k3)
  go_ret
  have h := grew_more g1 k1 g3 k3
  exact ⟨v3, rfl, h.1, h.2⟩

end Go.Proofs.Ytcmpeohooiehcaa
