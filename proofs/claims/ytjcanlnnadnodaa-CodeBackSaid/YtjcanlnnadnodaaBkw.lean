/- What is written behind a row, as rows that are read: code.Int, Text, Ints. Conditions: rows below 2^40 bytes. -/
import Derived.Test.YtjcanlnnadnodaaBk
namespace Go.Proofs.Ytjcanlnnadnodaa
open Go.RowKit

theorem own_cap {w : World} {base e n c : Nat} {A : Option Addr} {xs : List Value} (h : w.ownsRow base e 1 (.slice A n c) n xs) : n ≤ c := by
  rcases h.2 with ⟨h, h0⟩ | ⟨q, cap, cur, h, _, _, hn, _⟩
  · omega
  · injection h with h1 h2 h3; omega
def RowPost (w : World) (E : List Int) (e : Ending) (w' : World) : Prop :=
  ∃ A c, e = .returned (.slice A E.length c) ∧ Has w' w'.heap.size A (bs E) ∧ E.length ≤ c ∧ w.grownBy w' none
theorem row_of {w w' : World} {E : List Int} {e : Ending} (h : Out w w.heap.size (.slice none 0 0) (bs E) e w') : RowPost w E e w' := by
  obtain ⟨v, rfl, g⟩ := h
  obtain ⟨A, c, rfl⟩ := own_slice g.own
  have := own_cap g.own
  have h2 := Has.own g.own
  rw [bs_len] at this ⊢
  exact ⟨A, c, rfl, h2, this, g.none rfl⟩
theorem int_row (A : Option Addr) (c : Nat) (E : List Int) (n : Int) (w : World) (h : Has w w.heap.size A (bs E)) (hn : E.length ≤ 1099511627776) (l1 : -9223372036854775808 ≤ n) (l2 : n ≤ 9223372036854775807) :
    Calls Try.prog 13 #[.slice A E.length c, .int .i64 n] w (RowPost w (E ++ enc n)) := by
  have h0 := int_any A c (bs E) n w h (bs_one E) (by rw [bs_len]; exact hn) l1 l2
  rw [bs_len, ← bs_append] at h0
  exact h0.mono fun _ _ h => row_of h
theorem text_row (A : Option Addr) (c : Nat) (E : List Int) (s : ByteArray) (w : World) (h : Has w w.heap.size A (bs E)) (hn : E.length ≤ 1099511627776) (hs : s.size ≤ 1099511627776) :
    Calls Try.prog 15 #[.slice A E.length c, .string s] w (RowPost w (E ++ (enc s.size ++ sb s))) := by
  have h0 := text_any A c (bs E) s w h (bs_one E) (by rw [bs_len]; exact hn) hs
  rw [bs_len, ← bs_append, ← bs_append] at h0
  exact h0.mono fun _ _ h => row_of h
theorem ints_row (A B : Option Addr) (c d : Nat) (E l : List Int) (w : World) (h : Has w w.heap.size A (bs E)) (hn : E.length ≤ 1099511627776) (hl : Has w w.heap.size B (is l)) (hm : l.length ≤ 68719476736) (hb : ∀ n ∈ l, -9223372036854775808 ≤ n ∧ n ≤ 9223372036854775807) :
    Calls Try.prog 17 #[.slice A E.length c, .slice B l.length d] w (RowPost w (E ++ (enc l.length ++ encs l))) := by
  have h0 := ints_any A B c d (bs E) l w h (bs_one E) (by rw [bs_len]; exact hn) hl hm hb
  rw [bs_len, ← bs_append, ← bs_append] at h0
  exact h0.mono fun _ _ h => row_of h
theorem nums_sb (s : ByteArray) : strOfNums (sb s) = s := by
  have h : (strOfNums (sb s)).data = s.data := by
    have h2 := strOfNums_data (sb s)
    apply Array.ext'
    rw [h2]
    unfold sb
    rw [List.map_map]
    apply List.ext_getElem (by simp)
    intro i h1 h2
    simp only [List.getElem_map, Function.comp]
    simp
  exact ByteArray.ext h
theorem sb_bytes (s : ByteArray) : bytesOk (sb s) := fun x hx => by
  obtain ⟨b, _, rfl⟩ := List.mem_map.1 hx
  have := b.toNat_lt
  omega

/-- The bytes of texts, of lists. -/
def tx (ss : List ByteArray) : List Int := ss.flatMap fun s => enc s.size ++ sb s
def il (ls : List (List Int)) : List Int := ls.flatMap fun l => enc l.length ++ encs l
theorem flat_len {α : Type} (f : α → List Int) (m : Nat) : ∀ l : List α, (∀ x ∈ l, (f x).length ≤ m) → (l.flatMap f).length ≤ m * l.length
  | [], _ => by simp
  | x :: l, h => by
    have h1 := h x (by simp)
    have h2 := flat_len f m l (fun y hy => h y (by simp [hy]))
    simp only [List.flatMap_cons, List.length_append, List.length_cons, Nat.mul_add] at h2 ⊢
    omega
theorem flat_snoc {α : Type} (f : α → List Int) (l : List α) (k : Nat) (h : k < l.length) : (l.take (k + 1)).flatMap f = (l.take k).flatMap f ++ f l[k] := by
  rw [List.take_succ_eq_append_getElem h]
  simp only [List.flatMap_append, List.flatMap_cons, List.flatMap_nil, List.append_nil]
theorem flat_drop {α : Type} (f : α → List Int) (l : List α) (k : Nat) (h : k < l.length) : (l.drop k).flatMap f = f l[k] ++ (l.drop (k + 1)).flatMap f := by
  rw [List.drop_eq_getElem_cons h, List.flatMap_cons]
theorem flat_bytes {α : Type} (f : α → List Int) (l : List α) (h : ∀ x ∈ l, bytesOk (f x)) : bytesOk (l.flatMap f) := fun y hy => by
  obtain ⟨x, hx, hy⟩ := List.mem_flatMap.1 hy
  exact h x hx y hy
theorem app_bytesOk {a b : List Int} (ha : bytesOk a) (hb : bytesOk b) : bytesOk (a ++ b) := fun x hx => (List.mem_append.1 hx).elim (ha x) (hb x)
theorem tx_bytes (ss : List ByteArray) : bytesOk (tx ss) := flat_bytes _ _ fun s _ => app_bytesOk (enc_byte _) (sb_bytes s)
theorem il_bytes (ls : List (List Int)) : bytesOk (il ls) := flat_bytes _ _ fun l _ => app_bytesOk (enc_byte _) (encs_bytes l)
theorem tx_len (ss : List ByteArray) (h : ∀ s ∈ ss, s.size ≤ 200) : (tx ss).length ≤ 210 * ss.length := flat_len _ 210 ss fun s hs => by
  have h1 := h s hs
  have h2 := enc_len s.size (by omega) (by omega)
  rw [List.length_append, sb_len]; omega
theorem il_len (ls : List (List Int)) (h : ∀ l ∈ ls, l.length ≤ 50 ∧ ∀ n ∈ l, -9223372036854775808 ≤ n ∧ n ≤ 9223372036854775807) : (il ls).length ≤ 510 * ls.length := flat_len _ 510 ls fun l hl => by
  have h1 := h l hl
  have h2 := enc_len l.length (by omega) (by omega)
  have h3 := encs_len l h1.2
  rw [List.length_append]; omega
/-- The cells of a slice of lists. -/
def rowCell (x : Option Addr × List Int × Nat) : Value := .slice x.1 x.2.1.length x.2.2
end Go.Proofs.Ytjcanlnnadnodaa
