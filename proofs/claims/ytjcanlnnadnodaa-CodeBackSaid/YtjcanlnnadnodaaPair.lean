/- Both Readers asked the same: they answer the same, and are left alike. The comparison of two lists. -/
import Derived.Test.YtjcanlnnadnodaaRefi
import Derived.Test.YtjcanlnnadnodaaFails
namespace Go.Proofs.Ytjcanlnnadnodaa
open Go.RowKit
variable {lim : Nat}

theorem suf_ok {l l' p : List Int} (hp : l = p ++ l') (hb : bytesOk l) : bytesOk l' ∧ l'.length ≤ l.length :=
  ⟨fun x hx => hb x (by rw [hp]; simp [hx]), by rw [hp]; simp⟩
theorem pair_int (g h : Nat) (l : List Int) (e : Int) (hl : l.length ≤ 1099511627776) (hb : bytesOk l) : ∃ (n : Int) (l' : List Int) (e' : Int),
    (∀ w, Rdr w g l e → Calls Try.prog 22 #[.pointer (some ⟨g, 0, none⟩)] w fun x w' => x = .returned (.int .i64 n) ∧ Rdr w' g l' e' ∧ w.grownBy w' (some g)) ∧
    (∀ w, Rdf lim w h l e → Calls Try.prog 23 #[.pointer (some ⟨h, 0, none⟩)] w fun x w' => x = .returned (.int .i64 n) ∧ Rdf lim w' h l' e' ∧ w.grownBy w' (some h)) ∧
    bytesOk l' ∧ l'.length ≤ l.length := by
  have hs : bytesOk (ans number l e).2 ∧ (ans number l e).2.length ≤ l.length := by
    unfold ans
    by_cases he : e = 0
    · rw [if_pos he]; obtain ⟨p, hp⟩ := number_suffix l; exact suf_ok hp hb
    · rw [if_neg he]; exact ⟨hb, Nat.le_refl _⟩
  rcases hn : ans number l e with ⟨c | n, l'⟩
  · rw [hn] at hs
    refine ⟨0, l', c, fun w hR => (rInt_any g l e w hR hl hb).mono fun x w' hp => ?_, fun w hR => rfInt_bad hn hR hb, hs⟩
    unfold ReadPost at hp; rw [hn] at hp; exact hp
  · rw [hn] at hs
    refine ⟨n, l', 0, fun w hR => (rInt_any g l e w hR hl hb).mono fun x w' hp => ?_, fun w hR => rfInt_good hn hR hb, hs⟩
    unfold ReadPost at hp; rw [hn] at hp
    obtain ⟨⟨v, h1, h2⟩, h3⟩ := hp
    exact ⟨by rw [h1, show v = _ from h2], h3⟩
theorem textB_suffix (l : List Int) : ∃ p, l = p ++ (textB l).2 := by
  obtain ⟨p, hp⟩ := lengthB_suffix l
  unfold textB
  rcases hn : lengthB l with ⟨c | n, r⟩
  · rw [hn] at hp; exact ⟨p, hp⟩
  · rw [hn] at hp
    simp only at hp ⊢
    split
    · exact ⟨p, hp⟩
    · exact ⟨p ++ r.take n.toNat, by rw [List.append_assoc, List.take_append_drop]; exact hp⟩
theorem pair_text (g h : Nat) (l : List Int) (e : Int) (hl : l.length ≤ 1099511627776) (hb : bytesOk l) : ∃ (s : ByteArray) (l' : List Int) (e' : Int),
    (∀ w, Rdr w g l e → Calls Try.prog 24 #[.pointer (some ⟨g, 0, none⟩)] w fun x w' => x = .returned (.string s) ∧ Rdr w' g l' e' ∧ w.grownBy w' (some g)) ∧
    (∀ w, Rdf lim w h l e → Calls Try.prog 25 #[.pointer (some ⟨h, 0, none⟩)] w fun x w' => x = .returned (.string s) ∧ Rdf lim w' h l' e' ∧ w.grownBy w' (some h)) ∧
    bytesOk l' ∧ l'.length ≤ l.length := by
  have hs : bytesOk (ans textB l e).2 ∧ (ans textB l e).2.length ≤ l.length := by
    unfold ans
    by_cases he : e = 0
    · rw [if_pos he]; obtain ⟨p, hp⟩ := textB_suffix l; exact suf_ok hp hb
    · rw [if_neg he]; exact ⟨hb, Nat.le_refl _⟩
  rcases hn : ans textB l e with ⟨c | n, l'⟩
  · rw [hn] at hs
    refine ⟨{ data := #[] }, l', c, fun w hR => (rText_any g l e w hR hl hb).mono fun x w' hp => ?_, fun w hR => (rfText_any h l e w hR hb).mono fun x w' hp => ?_, hs⟩
    · unfold ReadPost at hp; rw [hn] at hp; exact hp
    · unfold RefPost at hp; rw [hn] at hp; exact hp
  · rw [hn] at hs
    refine ⟨strOfNums n, l', 0, fun w hR => (rText_any g l e w hR hl hb).mono fun x w' hp => ?_, fun w hR => (rfText_any h l e w hR hb).mono fun x w' hp => ?_, hs⟩
    · unfold ReadPost at hp; rw [hn] at hp
      obtain ⟨⟨v, h1, h2⟩, h3⟩ := hp
      exact ⟨by rw [h1, show v = _ from h2], h3⟩
    · unfold RefPost at hp; rw [hn] at hp
      obtain ⟨⟨v, h1, h2⟩, h3⟩ := hp
      exact ⟨by rw [h1, show v = _ from h2], h3⟩
theorem intsB_suffix (l : List Int) : ∃ p, l = p ++ (intsB l).2 := by
  obtain ⟨p, hp⟩ := lengthB_suffix l
  unfold intsB
  rcases hn : lengthB l with ⟨c | n, r⟩
  · rw [hn] at hp; exact ⟨p, hp⟩
  · rw [hn] at hp
    obtain ⟨q, hq⟩ := numsB_suffix n.toNat [] r
    simp only at hp ⊢
    exact ⟨p ++ q, by rw [List.append_assoc, ← hq]; exact hp⟩
theorem pair_ints (g h : Nat) (l : List Int) (e : Int) (hl : l.length ≤ 1099511627776) (hb : bytesOk l) : ∃ (t : List Int) (l' : List Int) (e' : Int),
    (∀ w, Rdr w g l e → Calls Try.prog 27 #[.pointer (some ⟨g, 0, none⟩)] w fun x w' => (∃ v, x = .returned v ∧ w'.ownsRow w.heap.size 3 1 v t.length (is t)) ∧ Rdr w' g l' e' ∧ w.grownBy w' (some g)) ∧
    (∀ w, Rdf lim w h l e → Calls Try.prog 28 #[.pointer (some ⟨h, 0, none⟩)] w fun x w' => (∃ v, x = .returned v ∧ w'.ownsRow w.heap.size 3 1 v t.length (is t)) ∧ Rdf lim w' h l' e' ∧ w.grownBy w' (some h)) ∧
    bytesOk l' ∧ l'.length ≤ l.length := by
  have hs : bytesOk (ans intsB l e).2 ∧ (ans intsB l e).2.length ≤ l.length := by
    unfold ans
    by_cases he : e = 0
    · rw [if_pos he]; obtain ⟨p, hp⟩ := intsB_suffix l; exact suf_ok hp hb
    · rw [if_neg he]; exact ⟨hb, Nat.le_refl _⟩
  rcases hn : ans intsB l e with ⟨c | n, l'⟩
  · rw [hn] at hs
    refine ⟨[], l', c, fun w hR => (rInts_any g l e w hR hl hb).mono fun x w' hp => ?_, fun w hR => (rfInts_any h l e w hR hb).mono fun x w' hp => ?_, hs⟩
    · unfold ReadPost at hp; rw [hn] at hp; exact ⟨⟨_, hp.1, World.ownsRow_nil _ _ _ _⟩, hp.2⟩
    · unfold RefPost at hp; rw [hn] at hp; exact ⟨⟨_, hp.1, World.ownsRow_nil _ _ _ _⟩, hp.2⟩
  · rw [hn] at hs
    refine ⟨n, l', 0, fun w hR => (rInts_any g l e w hR hl hb).mono fun x w' hp => ?_, fun w hR => (rfInts_any h l e w hR hb).mono fun x w' hp => ?_, hs⟩
    · unfold ReadPost at hp; rw [hn] at hp; exact hp
    · unfold RefPost at hp; rw [hn] at hp; exact hp

theorem own_len {w : World} {base e n : Nat} {v : Value} {xs : List Value} (h : w.ownsRow base e 1 v n xs) : n ≤ maxLen := by
  rcases h.2 with ⟨_, h0⟩ | ⟨g, cap, cur, _, _, _, h1, h2, _⟩
  · omega
  · omega
theorem rfNew_lim (A : Option Addr) (c : Nat) (l : List Int) (w : World) (h : Has w lim A (bs l)) (hlim : lim ≤ w.heap.size) (hc : l.length ≤ c) (hl : l.length ≤ 1099511627776) :
    Calls Try.prog 20 #[.slice A l.length c] w fun e w' => ∃ g, e = .returned (.pointer (some ⟨g, 0, none⟩)) ∧ Rdf lim w' g l 0 ∧ w.heap.size ≤ g ∧ w.grownBy w' none := by
  have H := Lib.hid h
  clear h
  go_enter Try.func20, Try.ntmps20
  go_wp2_with fail
  go_ret
  exact ⟨_, rfl, ⟨A, c, l, 0, heap_alloc_new _ _, (H.out.keep (fun p hp => World.cell?_alloc_lt _ _ _ (by omega))), Nat.zero_le _, rfl, hc, hl, hlim⟩, Nat.le_refl _, World.grownBy_alloc _ _ none⟩
theorem ints_same (A B : Option Addr) (c d m m' : Nat) (l : List Int) (w : World) (hA : Has w m A (is l)) (hB : Has w m' B (is l)) (hm : m ≤ w.heap.size) (hm' : m' ≤ w.heap.size) (hl : l.length ≤ maxLen) :
    Calls Try.prog 26 #[.slice A l.length c, .slice B l.length d] w fun e w' => e = .returned (.bool true) ∧ w.grownBy w' none := by
  unfold maxLen at hl
  have HA := Lib.hid hA
  have HB := Lib.hid hB
  clear hA hB
  go_enter Try.func26, Try.ntmps26
  go_wp2
  go_loopw [5] (fun si wr => ∃ k : Nat, k ≤ l.length ∧ si = .int .i64 k ∧ w.grownBy wr none) (fun si _ => l.length - (intOf si).toNat)
  case atStart => exact ⟨0, Nat.zero_le _, rfl, only_refl _ _⟩
  case round =>
    obtain ⟨k, hk, rfl, hg⟩ := hrel
    by_cases hlt : k < l.length
    · have ht : (k : Int) < (l.length : Int) := by omega
      have hx : (is l)[k]? = some (.int .i64 l[k]) := by simp [is, hlt]
      obtain ⟨x, ex⟩ : ∃ x, x = l[k] := ⟨_, rfl⟩
      rw [← ex] at hx
      obtain ⟨b1, o1, rfl, hc1⟩ : ∃ b off, A = some ⟨b, off, none⟩ ∧ wr.cell? ⟨b, off + k, none⟩ = some (.int .i64 x) := by
        rcases HA.out.only hg hm (fun _ h => by cases h) with h0 | ⟨b, off, hA, hb, hc⟩
        · rw [h0] at hx; cases hx
        · exact ⟨b, off, hA, hc k _ hx⟩
      obtain ⟨b2, o2, rfl, hc2⟩ : ∃ b off, B = some ⟨b, off, none⟩ ∧ wr.cell? ⟨b, off + k, none⟩ = some (.int .i64 x) := by
        rcases HB.out.only hg hm' (fun _ h => by cases h) with h0 | ⟨b, off, hA, hb, hc⟩
        · rw [h0] at hx; cases hx
        · exact ⟨b, off, hA, hc k _ hx⟩
      have ht0 : (0 : Int) ≤ (k : Int) := by omega
      have hes : IntKind.i64.wrap ((k : Int) + 1) = (k : Int) + 1 := by rw [IntKind.wrap_i64]; omega
      clear hx ex
      go_wp2_with fail
      go_quiet (fail)
      go_wp2_with fail
      go_roundw
      case rel => exact ⟨k + 1, by omega, by go_num, only_drewN hg _⟩
      case measure => simp [intOf]; omega
    · have ht : ¬ (k : Int) < (l.length : Int) := by omega
      go_wp2_with fail
      go_ret
      exact ⟨rfl, hg⟩
end Go.Proofs.Ytjcanlnnadnodaa
