/- journal.Open of a disk as JournalSnaps makes it. No condition of the program's own. -/
import Derived.Test.YtpfahfakinonnaaDoorJv
import Derived.Test.YtpfahfakinonnaaDoorJb
namespace Go.Proofs.YtpfahfakinonnaaDoor
open Go.RowKit Go.Deep
theorem scan_logP (L : List (List Int)) (h : ∀ l ∈ L, ∀ x ∈ l, 0 ≤ x ∧ x ≤ 255) (hl : ∀ l ∈ L, l.length ≤ 200) : scanP (logP L) = (L, (logP L).length) := by
  have h1 := scanP_log L [] h (fun l hm => by have := hl l hm; omega)
  rw [List.append_nil, scanP_no (l := []) (by decide)] at h1
  simpa using h1
theorem logP_le (L : List (List Int)) (hl : ∀ l ∈ L, l.length ≤ 200) : (logP L).length ≤ 208 * L.length := by
  induction L with
  | nil => simp [logP]
  | cons x xs ih =>
    have h1 := ih (fun l hm => hl l (by simp [hm]))
    have h2 := hl x (by simp)
    have h3 : logP (x :: xs) = frP x ++ logP xs := by simp [logP]
    rw [h3, List.length_append, frP_len, List.length_cons]
    omega
theorem js_ok (recs : List (List Int)) (S : List Int) (sn op : Int) (hl : ∀ l ∈ recs, l.length ≤ 200) (hr : recs.length ≤ 20) (hS : S.length ≤ 208) (h1 : 0 ≤ sn ∧ sn ≤ 100) (h2 : 0 ≤ op ∧ op ≤ 100) : Ok (jsD recs S sn op) := by
  have := logP_le recs hl
  exact ⟨by show (logP recs).length ≤ _; omega, by show S.length ≤ _; omega, ⟨by show (0 : Int) ≤ ((logP recs).length : Int); omega, by show ((logP recs).length : Int) ≤ ((logP recs).length : Int); omega⟩, ⟨by show (0 : Int) ≤ 100000; omega, by show (100000 : Int) ≤ 1073741824; omega⟩, by show (-9223372036854775808 : Int) ≤ 0; omega, ⟨h1.1, by show sn ≤ _; omega⟩, ⟨h2.1, by show op ≤ _; omega⟩⟩
theorem open_js (B g : Nat) (recs : List (List Int)) (S sx : List Int) (sn op : Int) (w : World) (h : Dk w B g (jsD recs S sn op)) (hS : (S = [] ∧ sx = []) ∨ (S = frP sx ∧ (∀ x ∈ sx, 0 ≤ x ∧ x ≤ 255) ∧ sx.length ≤ 200)) (bR : ∀ l ∈ recs, ∀ x ∈ l, 0 ≤ x ∧ x ≤ 255) (lR : ∀ l ∈ recs, l.length ≤ 200) (nR : recs.length ≤ 20) (hT : Tab w) :
    Calls Tryd.prog 12 #[.pointer (some ⟨g, 0, none⟩)] w fun e w' => ∃ q sv lv, e = .returned (.tuple #[.pointer (some ⟨q, 0, none⟩), sv, lv, .int .i64 0]) ∧ (∀ W, w'.grownBy W none → (convert 33 9 sv).run Tryd.prog W = .ok (.string (strOfNums sx)) W) ∧ (∃ A c, lv = .slice A recs.length c) ∧ Jn w' q g recs.length ∧ w.heap.size ≤ q ∧ w.grownBy w' none := by
  have hs := scan_logP recs bR lR
  have hlen := logP_le recs lR
  have h1 : (scanP (jsD recs S sn op).L).1 = recs := by show (scanP (logP recs)).1 = recs; rw [hs]
  have h2 : (scanP (jsD recs S sn op).L).2 = (jsD recs S sn op).L.length := by show (scanP (logP recs)).2 = (logP recs).length; rw [hs]
  have bL : ∀ x ∈ (jsD recs S sn op).L, 0 ≤ x ∧ x ≤ 255 := logP_byte recs bR
  have lL : (jsD recs S sn op).L.length ≤ 4294967296 := by show (logP recs).length ≤ _; omega
  rcases hS with ⟨rfl, rfl⟩ | ⟨rfl, bx, lx⟩
  · refine (open_rows0 B g _ w h rfl rfl bL lL h2 hT).mono ?_
    rintro e w' ⟨q, lv, he, hr, hj, hq, hg⟩
    rw [h1] at hr hj
    exact ⟨q, _, lv, he, fun W _ => conv_own (World.ownsRow_nil W w.heap.size _ 1), hr.form, hj, hq, hg⟩
  · have l8 := frP_len sx
    have o1 : oneE (frP sx) = 0 := by have := one_fr sx [] bx (by omega); simpa using this
    have r1 : recP (frP sx) = sx := by have := recP_fr sx [] (by omega); simpa using this
    refine (open_rows1 B g _ w h rfl (by show 0 < (frP sx).length; omega) (by show (frP sx).length ≤ _; omega) (by show ∀ x ∈ frP sx, _; exact frP_byte sx bx) (by show oneE (frP sx) = 0; exact o1) bL lL h2 hT).mono ?_
    rintro e w' ⟨q, sv, lv, he, ho, hr, hj, hq, hg⟩
    rw [h1] at hr hj
    have ho' : w'.ownsRow w.heap.size 5 1 sv (bs (recP (frP sx))).length (bs (recP (frP sx))) := ho
    rw [r1] at ho'
    exact ⟨q, sv, lv, he, fun W hW => conv_own (kept_other ho' hW (fun _ h => by cases h)), hr.form, hj, hq, hg⟩
end Go.Proofs.YtpfahfakinonnaaDoor
