/- JournalSnaps: the disk's states, pure. No condition of the program's own. -/
import Derived.Test.YtpfahfakinonnaaDoorJu
namespace Go.Proofs.YtpfahfakinonnaaDoor
open Go.RowKit Go.Deep
/-- A disk that never stops, with these records behind this snapshot, all of it synced. -/
def jsD (recs : List (List Int)) (S : List Int) (sn op : Int) : DS := { L := logP recs, S := S, sy := (logP recs).length, rm := 100000, st := 0, sn := sn, op := op, dd := false }
theorem goes0 (sn : Int) : goes 0 sn = false := by simp [goes]
theorem js_new : newS 100000 = jsD [] [] 0 0 := by simp [newS, jsD, logP]
theorem js_swap (recs : List (List Int)) (S b : List Int) (sn op : Int) (h : b.length ≤ 100000) : swapE (jsD recs S sn op) b = 0 ∧ swapS (jsD recs S sn op) b = jsD [] b (sn + 1) (op + 1) := by
  have h1 : ¬ (100000 : Int) < b.length := by omega
  constructor
  · simp [swapE, jsD, h1, spR, goes0]
  · simp [swapS, jsD, h1, doneB, goes0, spendS, keepS, spO, logP]
theorem js_app (recs : List (List Int)) (S l : List Int) (sn op : Int) (h : (logP recs).length + S.length + (frP l).length ≤ 100000) : appendE (jsD recs S sn op) (frP l) = 0 ∧ appendS (jsD recs S sn op) (frP l) = { jsD (recs ++ [l]) S (sn + 1) (op + 1) with sy := (logP recs).length } := by
  have h1 : ¬ (100000 : Int) < ((logP recs).length : Int) + S.length + (frP l).length := by omega
  constructor
  · simp only [appendE, jsD, spendE, spR, goes0]; simp; omega
  · simp only [appendS, jsD, spendS, spO, goes0]
    rw [if_neg (by simp; omega)]
    simp [logP]
theorem js_add (recs : List (List Int)) (S l : List Int) (sn op : Int) (h : (logP recs).length + S.length + (frP l).length ≤ 100000) : jaE (jsD recs S sn op) (frP l) = 0 ∧ jaS (jsD recs S sn op) (frP l) = jsD (recs ++ [l]) S (sn + 2) (op + 2) := by
  obtain ⟨h1, h2⟩ := js_app recs S l sn op h
  constructor
  · unfold jaE; rw [if_pos h1, h2]
    simp [syncE, jsD, spR, goes0]
  · unfold jaS; rw [if_pos h1, h2]
    simp [syncS, jsD, spendS, spO, goes0]
    omega
end Go.Proofs.YtpfahfakinonnaaDoor
