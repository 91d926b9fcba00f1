/- Contracts of the Reader's methods Int, Text, Ints, Fail, End, and of New: what a Reader that has the bytes l left and the error e answers, and what is left then. -/
import Derived.Test.YtcmpeohooiehcaaCe
namespace Go.Proofs.Ytcmpeohooiehcaa
open Go.RowKit

def numOf (n : Int) (_ : World) (v : Value) : Prop := v = .int .i64 n
theorem number_step (g : Nat) (l : List Int) (e0 : Int) (w : World) (h : Rdr w g l e0) (hl : l.length ≤ 1099511627776) (hb : bytesOk l) :
    Calls Try.prog 64 #[.pointer (some ⟨g, 0, none⟩)] w (StepPost numOf w g e0 (number l)) :=
  (number_any g l e0 w h hl hb).mono fun e w' hp => by
    unfold NumPost at hp
    unfold StepPost
    rcases hn : number l with ⟨c | n, l'⟩
    · rw [hn] at hp; exact hp
    · rw [hn] at hp; exact ⟨⟨_, hp.1, rfl⟩, hp.2⟩
/-- What a read hands back: the value, or the zero value beside the error that it leaves. -/
def ReadPost {α : Type} (enc : α → World → Value → Prop) (zero : Value) (w : World) (g : Nat) (r : Except Int α × List Int) (e : Ending) (w' : World) : Prop :=
  match r.1 with
  | .ok n => (∃ v, e = .returned v ∧ enc n w' v) ∧ Rdr w' g r.2 0 ∧ w.grownBy w' (some g)
  | .error c => e = .returned zero ∧ Rdr w' g r.2 c ∧ w.grownBy w' (some g)

set_option maxRecDepth 100000 in
theorem read_int_err (g : Nat) (l : List Int) (e0 : Int) (f : Value) (w : World) (h : Rdr w g l e0) (he : ¬ e0 = 0) :
    Calls Try.prog 63 #[.pointer (some ⟨g, 0, none⟩), f] w fun e w' => e = .returned (.int .i64 0) ∧ Rdr w' g l e0 ∧ w.grownBy w' none := by
  have hlt := h.lt
  have hne : (e0 != 0) = true := by rw [bne_iff_ne]; exact he
  have H := Lib.hid h
  obtain ⟨A, k, hg, _, _⟩ := h
  have k3 : ((w.alloc (.cells #[.pointer (some ⟨g, 0, none⟩)] 64)).alloc (.cells #[.int .i64 0] 3)).cell? ⟨g, 1, none⟩ = some (.int .i64 e0) := by rw [World.cell?_alloc_lt _ _ _ (by simp; omega), World.cell?_alloc_lt _ _ _ hlt]; simp [World.cell?, hg]
  have hg2 : Hid (Rdr (((w.alloc (.cells #[.pointer (some ⟨g, 0, none⟩)] 64)).alloc (.cells #[.int .i64 0] 3))) g l e0 ∧ w.grownBy (((w.alloc (.cells #[.pointer (some ⟨g, 0, none⟩)] 64)).alloc (.cells #[.int .i64 0] 3))) none) :=
    ⟨(H.out.only (World.grownBy_alloc w _ none) (fun _ h => by cases h)).only (World.grownBy_alloc _ _ none) (fun _ h => by cases h), only_alloc (only_alloc (only_refl _ _) _) _⟩
  clear hg
  go_enter_defers Try.func63, Try.ntmps63
  go_wp2_with fail
  simp [bodyPostD, Leaves, results, Try.results63, go_sem]
  exact hg2.out

set_option maxRecDepth 100000 in
theorem read_int (g : Nat) (l : List Int) (w : World) (h : Rdr w g l 0) (hl : l.length ≤ 1099511627776) (hb : bytesOk l) :
    Calls Try.prog 63 #[.pointer (some ⟨g, 0, none⟩), .func (.func 64) #[.pointer (some ⟨g, 0, none⟩)] #[]] w (ReadPost (numOf) (.int .i64 0) w g (number l)) := by
  have hlt := h.lt
  have hmf : ∀ (fn : Fn) (first cap : Array Value) (w : World), (Instr.makeFunc fn first cap).run Try.prog w = .ok (.func fn first cap) w := fun _ _ _ _ => rfl
  obtain ⟨A, k, hg, _, _⟩ := id h
  have k3 : ((w.alloc (.cells #[.pointer (some ⟨g, 0, none⟩)] 64)).alloc (.cells #[.int .i64 0] 3)).cell? ⟨g, 1, none⟩ = some (.int .i64 0) := by rw [World.cell?_alloc_lt _ _ _ (by simp; omega), World.cell?_alloc_lt _ _ _ hlt]; simp [World.cell?, hg]
  have hb1 : Hid (((w.alloc (.cells #[.pointer (some ⟨g, 0, none⟩)] 64)).alloc (.cells #[.int .i64 0] 3)).heap[w.heap.size]? = some (.cells #[.pointer (some ⟨g, 0, none⟩)] 64 (0, 0))) :=
    (Below.heap_alloc _ _ _ (by simp)).trans (heap_alloc_new w _)
  have hb2 : Hid (((w.alloc (.cells #[.pointer (some ⟨g, 0, none⟩)] 64)).alloc (.cells #[.int .i64 0] 3)).heap[w.heap.size + 1]? = some (.cells #[.int .i64 0] 3 (0, 0))) := by
    have h := heap_alloc_new (w.alloc (.cells #[.pointer (some ⟨g, 0, none⟩)] 64)) (.cells #[.int .i64 0] 3)
    rw [World.size_alloc] at h
    exact h
  have hR2 : Hid (Rdr (((w.alloc (.cells #[.pointer (some ⟨g, 0, none⟩)] 64)).alloc (.cells #[.int .i64 0] 3))) g l 0 ∧ w.grownBy (((w.alloc (.cells #[.pointer (some ⟨g, 0, none⟩)] 64)).alloc (.cells #[.int .i64 0] 3))) none) :=
    ⟨(h.only (World.grownBy_alloc w _ none) (fun _ h => by cases h)).only (World.grownBy_alloc _ _ none) (fun _ h => by cases h), only_alloc (only_alloc (only_refl _ _) _) _⟩
  have HB := Lib.hid hb
  clear hg hb h
  go_enter_defers Try.func63, Try.ntmps63
  go_wp2_with fail
  refine (number_step g l 0 _ hR2.out.1 hl HB.out).mono ?_
  intro e w1 hp
  unfold StepPost at hp
  have hsz : (w.heap.size + 1) + 1 ≤ w1.heap.size := by have := hp.2.2.size; simpa using this
  have hw1 : w1.heap[w.heap.size]? = some (.cells #[.pointer (some ⟨g, 0, none⟩)] 64 (0, 0)) := (hp.2.2.block _ (by simp; omega) (by simp; omega)).trans hb1.out
  have hw2 : w1.heap[w.heap.size + 1]? = some (.cells #[.int .i64 0] 3 (0, 0)) := (hp.2.2.block _ (by simp) (by simp; omega)).trans hb2.out
  have hgw : w.grownBy w1 (some g) := only_step (only_none hR2.out.2 _) hp.2.2 (fun q hq => .inl hq)
  clear hb1 hb2 hR2
  rcases hn : number l with ⟨c | n, l'⟩
  · rw [hn] at hp
    obtain ⟨rfl, hR1, hg1⟩ := hp
    refine leaves_cons (f := 72) (args := #[.pointer (some ⟨w.heap.size, 0, none⟩), .pointer (some ⟨w.heap.size + 1, 0, none⟩)]) (by simp) (by simp [go_sem]) ?_
    refine (catch_int g _ _ c _ _ _ l' 0 _ hR1 (by omega) hw1 hw2).mono ?_
    rintro e u w2 ⟨rfl, rfl, hR3, hc2, ht⟩
    have hg2 := two_only hgw ht (by omega)
    clear hw1 hw2 hg1 ht
    simp [Leaves, settle, results, Try.results63, go_sem, hc2]
    unfold ReadPost
    try rw [hn]
    exact ⟨rfl, hR3, hg2⟩
  · rw [hn] at hp
    obtain ⟨⟨v, rfl, hv⟩, hR1, hg1⟩ := hp
    have c2 : w1.cell? ⟨w.heap.size + 1, 0, none⟩ = some (.int .i64 0) := by simp [World.cell?, hw2]
    have f2 : w1.frozen? ⟨w.heap.size + 1, 0, none⟩ = false := by simp [World.frozen?, hw2]
    obtain rfl : v = .int .i64 n := hv
    have hset : Hid (w1.grownBy (w1.setCell ⟨w.heap.size + 1, 0, none⟩ (.int .i64 n)) (some (w.heap.size + 1))) := only_set (only_refl _ _) (.inl rfl) _
    have hR3 : Hid (Rdr (w1.setCell ⟨w.heap.size + 1, 0, none⟩ (.int .i64 n)) g l' 0) := hR1.only hset.out (fun q hq => by cases hq; omega)
    have hc3 : (w1.setCell ⟨w.heap.size + 1, 0, none⟩ (.int .i64 n)).cell? ⟨w.heap.size + 1, 0, none⟩ = some (.int .i64 n) := World.cell?_setCell_same' _ _ _ (by rw [c2]; rfl)
    have hv3 : Hid (numOf n (w1.setCell ⟨w.heap.size + 1, 0, none⟩ (.int .i64 n)) (.int .i64 n)) := rfl
    clear hw1 hw2 hR1 hg1
    go_wp2_with fail
    refine leaves_cons (f := 72) (args := #[.pointer (some ⟨w.heap.size, 0, none⟩), .pointer (some ⟨w.heap.size + 1, 0, none⟩)]) (by simp) (by simp [go_sem]) ?_
    refine (idle_int _ _ _).mono ?_
    rintro e u w2 ⟨rfl, rfl, rfl⟩
    have hc4 : ((w1.setCell ⟨w.heap.size + 1, 0, none⟩ (.int .i64 n)).alloc (.cells #[.int .i64 0] 99)).cell? ⟨w.heap.size + 1, 0, none⟩ = some (.int .i64 n) := by
      rw [World.cell?_alloc_lt _ _ _ (by simp [World.setCell]; omega)]; exact hc3
    have hR4 : Rdr ((w1.setCell ⟨w.heap.size + 1, 0, none⟩ (.int .i64 n)).alloc (.cells #[.int .i64 0] 99)) g l' 0 := hR3.out.only (World.grownBy_alloc _ _ none) (fun _ h => by cases h)
    have hg4 : w.grownBy ((w1.setCell ⟨w.heap.size + 1, 0, none⟩ (.int .i64 n)).alloc (.cells #[.int .i64 0] 99)) (some g) := only_alloc (only_step hgw hset.out (fun q hq => by cases hq; exact .inr (by omega))) _
    have hv4 : numOf n ((w1.setCell ⟨w.heap.size + 1, 0, none⟩ (.int .i64 n)).alloc (.cells #[.int .i64 0] 99)) (.int .i64 n) := rfl
    simp [Leaves, settle, results, Try.results63, go_sem, hc4]
    unfold ReadPost
    try rw [hn]
    exact ⟨⟨_, rfl, hv4⟩, hR4, hg4⟩

set_option maxRecDepth 100000 in
theorem read_text_err (g : Nat) (l : List Int) (e0 : Int) (f : Value) (w : World) (h : Rdr w g l e0) (he : ¬ e0 = 0) :
    Calls Try.prog 65 #[.pointer (some ⟨g, 0, none⟩), f] w fun e w' => e = .returned (.string { data := #[] }) ∧ Rdr w' g l e0 ∧ w.grownBy w' none := by
  have hlt := h.lt
  have hne : (e0 != 0) = true := by rw [bne_iff_ne]; exact he
  have H := Lib.hid h
  obtain ⟨A, k, hg, _, _⟩ := h
  have k3 : ((w.alloc (.cells #[.pointer (some ⟨g, 0, none⟩)] 64)).alloc (.cells #[.string { data := #[] }] 9)).cell? ⟨g, 1, none⟩ = some (.int .i64 e0) := by rw [World.cell?_alloc_lt _ _ _ (by simp; omega), World.cell?_alloc_lt _ _ _ hlt]; simp [World.cell?, hg]
  have hg2 : Hid (Rdr (((w.alloc (.cells #[.pointer (some ⟨g, 0, none⟩)] 64)).alloc (.cells #[.string { data := #[] }] 9))) g l e0 ∧ w.grownBy (((w.alloc (.cells #[.pointer (some ⟨g, 0, none⟩)] 64)).alloc (.cells #[.string { data := #[] }] 9))) none) :=
    ⟨(H.out.only (World.grownBy_alloc w _ none) (fun _ h => by cases h)).only (World.grownBy_alloc _ _ none) (fun _ h => by cases h), only_alloc (only_alloc (only_refl _ _) _) _⟩
  clear hg
  go_enter_defers Try.func65, Try.ntmps65
  go_wp2_with fail
  simp [bodyPostD, Leaves, results, Try.results65, go_sem]
  exact hg2.out

set_option maxRecDepth 100000 in
theorem read_text (g : Nat) (l : List Int) (w : World) (h : Rdr w g l 0) (hl : l.length ≤ 1099511627776) (hb : bytesOk l) :
    Calls Try.prog 65 #[.pointer (some ⟨g, 0, none⟩), .func (.func 66) #[.pointer (some ⟨g, 0, none⟩)] #[]] w (ReadPost (strOf) (.string { data := #[] }) w g (textB l)) := by
  have hlt := h.lt
  have hmf : ∀ (fn : Fn) (first cap : Array Value) (w : World), (Instr.makeFunc fn first cap).run Try.prog w = .ok (.func fn first cap) w := fun _ _ _ _ => rfl
  obtain ⟨A, k, hg, _, _⟩ := id h
  have k3 : ((w.alloc (.cells #[.pointer (some ⟨g, 0, none⟩)] 64)).alloc (.cells #[.string { data := #[] }] 9)).cell? ⟨g, 1, none⟩ = some (.int .i64 0) := by rw [World.cell?_alloc_lt _ _ _ (by simp; omega), World.cell?_alloc_lt _ _ _ hlt]; simp [World.cell?, hg]
  have hb1 : Hid (((w.alloc (.cells #[.pointer (some ⟨g, 0, none⟩)] 64)).alloc (.cells #[.string { data := #[] }] 9)).heap[w.heap.size]? = some (.cells #[.pointer (some ⟨g, 0, none⟩)] 64 (0, 0))) :=
    (Below.heap_alloc _ _ _ (by simp)).trans (heap_alloc_new w _)
  have hb2 : Hid (((w.alloc (.cells #[.pointer (some ⟨g, 0, none⟩)] 64)).alloc (.cells #[.string { data := #[] }] 9)).heap[w.heap.size + 1]? = some (.cells #[.string { data := #[] }] 9 (0, 0))) := by
    have h := heap_alloc_new (w.alloc (.cells #[.pointer (some ⟨g, 0, none⟩)] 64)) (.cells #[.string { data := #[] }] 9)
    rw [World.size_alloc] at h
    exact h
  have hR2 : Hid (Rdr (((w.alloc (.cells #[.pointer (some ⟨g, 0, none⟩)] 64)).alloc (.cells #[.string { data := #[] }] 9))) g l 0 ∧ w.grownBy (((w.alloc (.cells #[.pointer (some ⟨g, 0, none⟩)] 64)).alloc (.cells #[.string { data := #[] }] 9))) none) :=
    ⟨(h.only (World.grownBy_alloc w _ none) (fun _ h => by cases h)).only (World.grownBy_alloc _ _ none) (fun _ h => by cases h), only_alloc (only_alloc (only_refl _ _) _) _⟩
  have HB := Lib.hid hb
  clear hg hb h
  go_enter_defers Try.func65, Try.ntmps65
  go_wp2_with fail
  refine (text_step g l 0 _ hR2.out.1 hl HB.out).mono ?_
  intro e w1 hp
  unfold StepPost at hp
  have hsz : (w.heap.size + 1) + 1 ≤ w1.heap.size := by have := hp.2.2.size; simpa using this
  have hw1 : w1.heap[w.heap.size]? = some (.cells #[.pointer (some ⟨g, 0, none⟩)] 64 (0, 0)) := (hp.2.2.block _ (by simp; omega) (by simp; omega)).trans hb1.out
  have hw2 : w1.heap[w.heap.size + 1]? = some (.cells #[.string { data := #[] }] 9 (0, 0)) := (hp.2.2.block _ (by simp) (by simp; omega)).trans hb2.out
  have hgw : w.grownBy w1 (some g) := only_step (only_none hR2.out.2 _) hp.2.2 (fun q hq => .inl hq)
  clear hb1 hb2 hR2
  rcases hn : textB l with ⟨c | n, l'⟩
  · rw [hn] at hp
    obtain ⟨rfl, hR1, hg1⟩ := hp
    refine leaves_cons (f := 75) (args := #[.pointer (some ⟨w.heap.size, 0, none⟩), .pointer (some ⟨w.heap.size + 1, 0, none⟩)]) (by simp) (by simp [go_sem]) ?_
    refine (catch_text g _ _ c _ _ _ l' 0 _ hR1 (by omega) hw1 hw2).mono ?_
    rintro e u w2 ⟨rfl, rfl, hR3, hc2, ht⟩
    have hg2 := two_only hgw ht (by omega)
    clear hw1 hw2 hg1 ht
    simp [Leaves, settle, results, Try.results65, go_sem, hc2]
    unfold ReadPost
    try rw [hn]
    exact ⟨rfl, hR3, hg2⟩
  · rw [hn] at hp
    obtain ⟨⟨v, rfl, hv⟩, hR1, hg1⟩ := hp
    have c2 : w1.cell? ⟨w.heap.size + 1, 0, none⟩ = some (.string { data := #[] }) := by simp [World.cell?, hw2]
    have f2 : w1.frozen? ⟨w.heap.size + 1, 0, none⟩ = false := by simp [World.frozen?, hw2]
    obtain rfl : v = .string (strOfNums n) := hv
    have hset : Hid (w1.grownBy (w1.setCell ⟨w.heap.size + 1, 0, none⟩ (.string (strOfNums n))) (some (w.heap.size + 1))) := only_set (only_refl _ _) (.inl rfl) _
    have hR3 : Hid (Rdr (w1.setCell ⟨w.heap.size + 1, 0, none⟩ (.string (strOfNums n))) g l' 0) := hR1.only hset.out (fun q hq => by cases hq; omega)
    have hc3 : (w1.setCell ⟨w.heap.size + 1, 0, none⟩ (.string (strOfNums n))).cell? ⟨w.heap.size + 1, 0, none⟩ = some (.string (strOfNums n)) := World.cell?_setCell_same' _ _ _ (by rw [c2]; rfl)
    have hv3 : Hid (strOf n (w1.setCell ⟨w.heap.size + 1, 0, none⟩ (.string (strOfNums n))) (.string (strOfNums n))) := rfl
    clear hw1 hw2 hR1 hg1
    go_wp2_with fail
    refine leaves_cons (f := 75) (args := #[.pointer (some ⟨w.heap.size, 0, none⟩), .pointer (some ⟨w.heap.size + 1, 0, none⟩)]) (by simp) (by simp [go_sem]) ?_
    refine (idle_text _ _ _).mono ?_
    rintro e u w2 ⟨rfl, rfl, rfl⟩
    have hc4 : ((w1.setCell ⟨w.heap.size + 1, 0, none⟩ (.string (strOfNums n))).alloc (.cells #[.int .i64 0] 99)).cell? ⟨w.heap.size + 1, 0, none⟩ = some (.string (strOfNums n)) := by
      rw [World.cell?_alloc_lt _ _ _ (by simp [World.setCell]; omega)]; exact hc3
    have hR4 : Rdr ((w1.setCell ⟨w.heap.size + 1, 0, none⟩ (.string (strOfNums n))).alloc (.cells #[.int .i64 0] 99)) g l' 0 := hR3.out.only (World.grownBy_alloc _ _ none) (fun _ h => by cases h)
    have hg4 : w.grownBy ((w1.setCell ⟨w.heap.size + 1, 0, none⟩ (.string (strOfNums n))).alloc (.cells #[.int .i64 0] 99)) (some g) := only_alloc (only_step hgw hset.out (fun q hq => by cases hq; exact .inr (by omega))) _
    have hv4 : strOf n ((w1.setCell ⟨w.heap.size + 1, 0, none⟩ (.string (strOfNums n))).alloc (.cells #[.int .i64 0] 99)) (.string (strOfNums n)) := rfl
    simp [Leaves, settle, results, Try.results65, go_sem, hc4]
    unfold ReadPost
    try rw [hn]
    exact ⟨⟨_, rfl, hv4⟩, hR4, hg4⟩

end Go.Proofs.Ytcmpeohooiehcaa
