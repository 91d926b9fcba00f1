/- JournalTorn: the disk's states, and the calls over them. No condition of the program's own. -/
import Derived.Test.YtpfahfakinonnaaDoorJ3
import Derived.Test.YtpfahfakinonnaaDoorJy
namespace Go.Proofs.YtpfahfakinonnaaDoor
open Go.RowKit Go.Deep
/-- A disk that never stops, with these records, and something behind them that is not synced. -/
def tD (recs : List (List Int)) (t : List Int) (sn op : Int) : DS := { L := logP recs ++ t, S := [], sy := (logP recs).length, rm := 100000, st := 0, sn := sn, op := op, dd := false }
theorem td_app (recs : List (List Int)) (t : List Int) (sn op : Int) (h : (logP recs).length + t.length ≤ 100000) : appendE (jsD recs [] sn op) t = 0 ∧ appendS (jsD recs [] sn op) t = tD recs t (sn + 1) (op + 1) := by
  have h1 : ¬ (100000 : Int) < ((logP recs).length : Int) + (([] : List Int).length : Int) + (t.length : Int) := by rw [List.length_nil]; omega
  constructor
  · unfold appendE
    rw [if_neg (by show ¬ false = true; decide), if_neg (by exact h1)]
    show spR 0 sn = 0
    rw [spR, if_neg (by rw [goes0]; decide)]
  · unfold appendS
    rw [if_neg (by rintro (h | h); exact absurd h (by show ¬ false = true; decide); exact h1 h)]
    show ({ L := logP recs ++ t, S := [], sy := (logP recs).length, rm := 100000, st := 0, sn := sn + 1, op := spO 0 sn op, dd := false || goes 0 sn } : DS) = _
    rw [goes0, spO, if_neg (by rw [goes0]; decide)]
    rfl
theorem td_scan (recs : List (List Int)) (t : List Int) (sn op : Int) (bR : ∀ l ∈ recs, ∀ x ∈ l, 0 ≤ x ∧ x ≤ 255) (lR : ∀ l ∈ recs, l.length ≤ 200) (h0 : firstE t ≠ 0) : scanP (tD recs t sn op).L = (recs, (logP recs).length) := by
  show scanP (logP recs ++ t) = _
  rw [scanP_log recs t bR (fun l hm => by have := lR l hm; omega), scanP_no h0]
  simp
theorem td_open (recs : List (List Int)) (t : List Int) (sn op : Int) (bR : ∀ l ∈ recs, ∀ x ∈ l, 0 ≤ x ∧ x ≤ 255) (lR : ∀ l ∈ recs, l.length ≤ 200) (h0 : firstE t ≠ 0) :
    openE (tD recs t sn op) = 0 ∧ ∃ sn' op', (sn ≤ sn' ∧ sn' ≤ sn + 1) ∧ (op ≤ op' ∧ op' ≤ op + 1) ∧ openS (tD recs t sn op) = jsD recs [] sn' op' := by
  have hs := td_scan recs t sn op bR lR h0
  have hb : ¬ badS (tD recs t sn op) := fun h => absurd h.1 (by show ¬ 0 < ([] : List Int).length; decide)
  have hd : ¬ (tD recs t sn op).dd = true := by show ¬ false = true; decide
  have hl : (tD recs t sn op).L.length = (logP recs).length + t.length := by show (logP recs ++ t).length = _; rw [List.length_append]
  unfold openE openS
  rw [if_neg hd, if_neg hd, if_neg hb, if_neg hb, hs]
  show (if (logP recs).length < (tD recs t sn op).L.length then cutE (tD recs t sn op) (logP recs).length else 0) = 0 ∧ ∃ sn' op', _ ∧ _ ∧ (if (logP recs).length < (tD recs t sn op).L.length then cutS (tD recs t sn op) (logP recs).length else tD recs t sn op) = jsD recs [] sn' op'
  by_cases ht : t = []
  · subst ht
    rw [if_neg (by rw [hl]; simp), if_neg (by rw [hl]; simp)]
    exact ⟨rfl, sn, op, by omega, by omega, by simp [tD, jsD]⟩
  · have hp : 0 < t.length := List.length_pos_iff.2 ht
    rw [if_pos (by omega), if_pos (by omega)]
    have hn : ¬ (((logP recs).length : Int) < 0 ∨ ((tD recs t sn op).L.length : Int) < ((logP recs).length : Int)) := by rintro (h | h) <;> omega
    refine ⟨?_, sn + 1, op + 1, by omega, by omega, ?_⟩
    · unfold cutE
      rw [if_neg hd, if_neg hn]
      show spR 0 sn = 0
      rw [spR, if_neg (by rw [goes0]; decide)]
    · unfold cutS
      rw [if_neg (by rintro (h | h); exact hd h; exact hn h), if_pos (by show (!goes 0 sn || _) = true; rw [goes0]; rfl), Int.toNat_natCast]
      show ({ L := (logP recs ++ t).take (logP recs).length, S := [], sy := (logP recs).length, rm := 100000, st := 0, sn := sn + 1, op := spO 0 sn op, dd := false || goes 0 sn } : DS) = _
      rw [goes0, spO, if_neg (by rw [goes0]; decide), List.take_left]
      rfl
theorem td_ok (recs : List (List Int)) (t : List Int) (sn op : Int) (lR : ∀ l ∈ recs, l.length ≤ 200) (hr : recs.length ≤ 20) (ht : t.length ≤ 100) (h1 : 0 ≤ sn ∧ sn ≤ 100) (h2 : 0 ≤ op ∧ op ≤ 100) : Ok (tD recs t sn op) := by
  have := logP_le recs lR
  have hl : (tD recs t sn op).L.length = (logP recs).length + t.length := by show (logP recs ++ t).length = _; rw [List.length_append]
  exact ⟨by omega, by show ([] : List Int).length ≤ _; simp, ⟨by show (0 : Int) ≤ ((logP recs).length : Int); omega, by rw [hl]; show ((logP recs).length : Int) ≤ _; omega⟩, ⟨by show (0 : Int) ≤ 100000; omega, by show (100000 : Int) ≤ 1073741824; omega⟩, by show (-9223372036854775808 : Int) ≤ 0; omega, ⟨h1.1, by show sn ≤ _; omega⟩, ⟨h2.1, by show op ≤ _; omega⟩⟩
theorem JS.grown {w wr w' : World} {g q i : Nat} {recs : List (List Int)} {S sx : List Int} {k o : Int} (h : JS w wr g q i recs S sx k o) (hg : wr.grownBy w' none) : JS w w' g q i recs S sx k o := by
  obtain ⟨D, J, G, hS, bR, lR, nR, hk, ho⟩ := h
  exact ⟨D.below hg, J.grow hg, only_step G hg (fun _ hk => .inl hk), hS, bR, lR, nR, hk, ho⟩
theorem js_bounds {w wr : World} {g q i : Nat} {recs : List (List Int)} {S sx : List Int} {k o : Int} (h : JS w wr g q i recs S sx k o) (hi : i < 20) : (0 ≤ k ∧ k ≤ 40) ∧ (0 ≤ o ∧ o ≤ 40) ∧ recs.length ≤ i := by
  obtain ⟨_, _, _, _, _, _, nR, hk, ho⟩ := h
  omega
/-- Something is appended behind the records. -/
theorem torn_app {w wr : World} {g q i : Nat} {recs : List (List Int)} {k o : Int} (h : JS w wr g q i recs [] [] k o) (hi : i < 20) (A : Option Addr) (c : Nat) (t : List Int) (hx : Has w w.heap.size A (bs t)) (lt : t.length ≤ 100) :
    Calls Tryd.prog 23 #[.pointer (some ⟨g, 0, none⟩), .slice A t.length c] wr fun e w' => e = .returned (.int .i64 0) ∧ Dk w' w.heap.size g (tD recs t (k + 1) (o + 1)) ∧ w.grownBy w' none := by
  have hb := js_bounds h hi
  obtain ⟨D, J, G, hS, bR, lR, nR, hk, ho⟩ := h
  have z := G.size
  have hlen := logP_le recs lR
  obtain ⟨s1, s2⟩ := td_app recs t k o (by omega)
  have AP := append_typ w.heap.size g _ A c t wr D (js_ok recs [] k o lR (by omega) (by simp) (by omega) (by omega)) ((hx.only G (Nat.le_refl _) (fun _ h => by cases h)).more z) (by omega)
  rw [s1, s2] at AP
  exact AP.mono fun _ _ ⟨e, D', B', _⟩ => ⟨e, D', below_only ((only_below G).trans B')⟩
/-- journal.Open cuts it off. -/
theorem torn_open {w wr : World} {g i : Nat} {recs : List (List Int)} {t : List Int} {k o : Int} (D : Dk wr w.heap.size g (tD recs t k o)) (G : w.grownBy wr none) (bR : ∀ l ∈ recs, ∀ x ∈ l, 0 ≤ x ∧ x ≤ 255) (lR : ∀ l ∈ recs, l.length ≤ 200) (nR : recs.length ≤ i) (hi : i < 20) (hk : 0 ≤ k ∧ k ≤ 2 * i + 1) (ho : 0 ≤ o ∧ o ≤ 2 * i + 1) (bt : ∀ x ∈ t, 0 ≤ x ∧ x ≤ 255) (lt : t.length ≤ 100) (h0 : firstE t ≠ 0) (hT : Tab w) :
    Calls Tryd.prog 12 #[.pointer (some ⟨g, 0, none⟩)] wr fun e w' => ∃ q sv lv k' o', e = .returned (.tuple #[.pointer (some ⟨q, 0, none⟩), sv, lv, .int .i64 0]) ∧ RL w' wr.heap.size lv recs ∧ JS w w' g q (i + 1) recs [] [] k' o' ∧ wr.heap.size ≤ q := by
  have hs := td_scan recs t k o bR lR h0
  have hlen := logP_le recs lR
  have hl : (tD recs t k o).L.length = (logP recs).length + t.length := by show (logP recs ++ t).length = _; rw [List.length_append]
  obtain ⟨e0, k', o', hk', ho', eS⟩ := td_open recs t k o bR lR h0
  have glt := D.lt
  refine (open_all w.heap.size g _ wr D (td_ok recs t k o lR (by omega) lt (by omega) (by omega)) (by intro x hx; cases hx) (fun x hx => ?_) (by omega) (hT.grow G)).mono ?_
  · rcases List.mem_append.1 (show x ∈ logP recs ++ t from hx) with h | h
    · exact logP_byte recs bR x h
    · exact bt x h
  rintro e w' ⟨hv, D', g'⟩
  rw [eS] at D'
  rcases hv with ⟨hne, _⟩ | ⟨_, q, sv, lv, rfl, _, hr, hj, hq⟩
  · exact absurd e0 hne
  · rw [hs] at hr hj
    exact ⟨q, sv, lv, k', o', rfl, hr, ⟨D', hj, only_step G g' (fun k hk => by cases hk; exact .inr glt.1), .inl ⟨rfl, rfl⟩, bR, lR, by omega, by omega, by omega⟩, hq⟩
theorem scan_pos {t : List Int} (h : firstE t = 0) : 0 < (scanP t).1.length := by
  obtain ⟨x, A, B, e⟩ : ∃ x A B, scanP t = (x :: A, B) := ⟨_, _, _, scanP_ok h⟩
  rw [e]; exact Nat.succ_pos _
theorem js_td (recs : List (List Int)) (k o : Int) : jsD recs [] k o = tD recs [] k o := by simp [tD, jsD]
end Go.Proofs.YtpfahfakinonnaaDoor
