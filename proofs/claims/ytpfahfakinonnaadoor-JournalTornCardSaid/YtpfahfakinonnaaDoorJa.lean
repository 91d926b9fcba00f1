/- journal.append and framed: a frame is written to the log for good. No condition of the program's own. -/
import Derived.Test.YtpfahfakinonnaaDoorJq
import Derived.Test.YtpfahfakinonnaaDoorGda
import Derived.Test.YtpfahfakinonnaaDoorGfr
namespace Go.Proofs.YtpfahfakinonnaaDoor
open Go.RowKit Go.Deep
/-- The journal's block: the disk, and how many records are counted. -/
def Jn (w : World) (q g : Nat) (n : Int) : Prop := w.heap[q]? = some (.cells #[.pointer (some ⟨g, 0, none⟩), .int .i64 n] 74 (0, 0))
theorem Jn.c0 {w : World} {q g : Nat} {n : Int} (h : Jn w q g n) : w.cell? ⟨q, 0, none⟩ = some (.pointer (some ⟨g, 0, none⟩)) := by
  unfold Jn at h; simp [World.cell?, h]
theorem Jn.c1 {w : World} {q g : Nat} {n : Int} (h : Jn w q g n) : w.cell? ⟨q, 1, none⟩ = some (.int .i64 n) := by
  unfold Jn at h; simp [World.cell?, h]
theorem Jn.fr {w : World} {q g : Nat} {n : Int} (h : Jn w q g n) (i : Nat) : w.frozen? ⟨q, i, none⟩ = false := by
  unfold Jn at h; simp [World.frozen?, h]
theorem Jn.lt {w : World} {q g : Nat} {n : Int} (h : Jn w q g n) : q < w.heap.size := (Array.getElem?_eq_some_iff.1 h).1
theorem Jn.keep {w w' : World} {q g g' : Nat} {n : Int} (h : Jn w q g n) (hk : Keeps w w' g') (hne : q ≠ g') : Jn w' q g n := hk q _ _ _ hne (by decide) h
theorem Jn.grow {w w' : World} {q g : Nat} {n : Int} (h : Jn w q g n) (hg : w.grownBy w' none) : Jn w' q g n := (hg.block q h.lt (by simp)).trans h
theorem Jn.set {w : World} {q g : Nat} {n : Int} (h : Jn w q g n) (m : Int) : Jn (w.setCell ⟨q, 1, none⟩ (.int .i64 m)) q g m := by
  unfold Jn at h ⊢
  have := heap_set (i := 1) (u := .int .i64 m) h
  simpa using this
/-- The disk stands beside a block whose cells are no bytes. -/
theorem Dk.apart {w w' : World} {B g q : Nat} {d : DS} {cs : Array Value} {T : TypeId} {m : Nat × Nat} (h : Dk w B g d) (hq : w.heap[q]? = some (.cells cs T m)) (hT : T ≠ 5) (hne : q ≠ g) (hg : w.grownBy w' (some q)) : Dk w' B g d := by
  obtain ⟨vL, vS, hB, hL, hS, nL, nS, nLS, hBg⟩ := h
  have ap : ∀ {v : Value} {n : Nat} {xs : List Value}, w.ownsRow B 5 1 v n xs → v.ownBlock ≠ some q := fun ho e => by
    obtain ⟨cur, hc⟩ := own_typ ho e
    rw [hc] at hq
    injection hq with hq
    injection hq with _ hq _
    exact hT hq.symm
  exact ⟨vL, vS, hB.only hg (fun e => by injection e with e; exact hne e), kept_other hL hg (fun k hk e => by cases hk; exact ap hL e), kept_other hS hg (fun k hk e => by cases hk; exact ap hS e), nL, nS, nLS, hBg⟩
def jaE (d : DS) (b : List Int) : Int := if appendE d b = 0 then syncE (appendS d b) else appendE d b
def jaS (d : DS) (b : List Int) : DS := if appendE d b = 0 then syncS (appendS d b) else appendS d b
set_option maxRecDepth 100000 in
theorem jappend_any (B g q : Nat) (d : DS) (n : Int) (A : Option Addr) (c : Nat) (b : List Int) (w : World) (h : Dk w B g d) (hq : Jn w q g n) (hqg : q ≠ g) (hk : Ok d) (hk2 : Ok (appendS d b)) (hb : Has w w.heap.size A (bs b)) (hbl : b.length ≤ 1073741824) :
    Calls Tryd.prog 39 #[.pointer (some ⟨q, 0, none⟩), .slice A b.length c] w fun e w' => e = .returned (.int .i64 (jaE d b)) ∧ Dk w' B g (jaS d b) ∧ Below B w w' ∧ Keeps w w' g := by
  have hlt := h.lt
  have q0 := hq.c0
  have AP := Lib.hid (append_typ B g d A c b w h hk hb hbl)
  have HQ := Lib.hid hq
  by_cases e0 : appendE d b = 0
  · rw [show jaE d b = syncE (appendS d b) by simp [jaE, e0], show jaS d b = syncS (appendS d b) by simp [jaS, e0]]
    rw [e0] at AP
    clear hb h hk e0
    go_enter Tryd.func39, Tryd.ntmps39
    go_wp2_with fail
    refine AP.out.mono ?_
    rintro _ w1 ⟨rfl, D1, b1, k1⟩
    have q1 := (HQ.out.keep k1 hqg).c0
    have SY := Lib.hid (sync_any B g _ w1 D1 hk2)
    clear q0
    go_wp2_with fail
    refine SY.out.mono ?_
    rintro _ w2 ⟨rfl, D2, g2⟩
    have z1 := b1.size
    go_wp2_with fail
    go_ret
    exact ⟨rfl, D2, b1.trans (bel g2 (fun k hk => by cases hk; exact hlt.1) (by omega)), k1.trans (Keeps.grown g2)⟩
  · have eb : (appendE d b == 0) = false := by rw [beq_eq_false_iff_ne]; exact e0
    rw [show jaE d b = appendE d b by simp [jaE, e0], show jaS d b = appendS d b by simp [jaS, e0]]
    clear hb h hk
    go_enter Tryd.func39, Tryd.ntmps39
    go_wp2_with fail
    refine AP.out.mono ?_
    rintro _ w1 ⟨rfl, D1, b1, k1⟩
    go_wp2_with fail
    go_ret
    exact ⟨rfl, D1, b1, k1⟩
set_option maxRecDepth 100000 in
theorem framed_app (B g q : Nat) (d : DS) (n : Int) (A : Option Addr) (c : Nat) (l : List Int) (w : World) (h : Dk w B g d) (hq : Jn w q g n) (hqg : q ≠ g) (hk : Ok d) (hk2 : Ok (appendS d (frP l))) (hb : Has w w.heap.size A (bs l)) (bl : ∀ x ∈ l, 0 ≤ x ∧ x ≤ 255) (hl : l.length ≤ 4194304) (hfl : (frP l).length ≤ 1073741824) (hT : Tab w) (hBw : B ≤ w.heap.size) :
    Calls Tryd.prog 38 #[.slice A l.length c, .func (.func 39) #[.pointer (some ⟨q, 0, none⟩)] #[]] w fun e w' => e = .returned (.int .i64 (jaE d (frP l))) ∧ Dk w' B g (jaS d (frP l)) ∧ Below B w w' ∧ Keeps w w' g := by
  have FR := Lib.hid (frame_any A c l w hb bl hl hT)
  have HQ := Lib.hid hq
  have HD := Lib.hid h
  clear hb h hq hT
  go_enter Tryd.func38, Tryd.ntmps38
  go_wp2_with fail
  refine FR.out.mono ?_
  rintro _ w1 ⟨v, rfl, hv, g1⟩
  obtain ⟨A1, c1, rfl⟩ := own_slice hv
  rw [bs_len] at hv ⊢
  have D1 := HD.out.below g1
  have Q1 := HQ.out.grow g1
  have JA := Lib.hid (jappend_any B g q d n A1 c1 (frP l) w1 D1 Q1 hqg hk hk2 (Has.own hv) hfl)
  clear D1 Q1 hv
  go_wp2_with fail
  refine JA.out.mono ?_
  rintro _ w2 ⟨rfl, D2, b2, k2⟩
  go_wp2_with fail
  go_ret
  exact ⟨rfl, D2, (bel g1 (fun _ h => by cases h) hBw).trans b2, (Keeps.grown (only_none g1 _)).trans k2⟩
end Go.Proofs.YtpfahfakinonnaaDoor
