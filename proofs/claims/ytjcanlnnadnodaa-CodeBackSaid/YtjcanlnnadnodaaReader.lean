/- Contracts of the Reader's methods Int, Text, Ints, Fail, End, and of New: what a Reader that has the bytes l left and the error e answers, and what is left then. -/
import Derived.Test.YtjcanlnnadnodaaRec
namespace Go.Proofs.Ytjcanlnnadnodaa
open Go.RowKit

def numOf (n : Int) (_ : World) (v : Value) : Prop := v = .int .i64 n
theorem number_step (g : Nat) (l : List Int) (e0 : Int) (w : World) (h : Rdr w g l e0) (hl : l.length ≤ 1099511627776) (hb : bytesOk l) :
    Calls Try.prog 36 #[.pointer (some ⟨g, 0, none⟩)] w (StepPost numOf w g e0 (number l)) :=
  (number_any g l e0 w h hl hb).mono fun e w' hp => by
    unfold NumPost at hp
    unfold StepPost
    rcases hn : number l with ⟨c | n, l'⟩
    · rw [hn] at hp; exact hp
    · rw [hn] at hp; exact ⟨⟨_, hp.1, rfl⟩, hp.2⟩
theorem own_slice {w : World} {base e n : Nat} {v : Value} {xs : List Value} (h : w.ownsRow base e 1 v n xs) : ∃ A c, v = .slice A n c := by
  rcases h.2 with ⟨hv, h0⟩ | ⟨g, cap, _, hv, _⟩
  · exact ⟨none, 0, by rw [hv, h0]⟩
  · exact ⟨_, cap, hv⟩
theorem own_mono {w : World} {base base' e n : Nat} {v : Value} {xs : List Value} (h : w.ownsRow base e 1 v n xs) (hb : base' ≤ base) : w.ownsRow base' e 1 v n xs := by
  rcases h.2 with hv | ⟨g, cap, cur, hv, hg, h2⟩
  · exact ⟨h.1, .inl hv⟩
  · exact ⟨h.1, .inr ⟨g, cap, cur, hv, by omega, h2⟩⟩
theorem own_at {w : World} {base e n : Nat} {v : Value} {xs : List Value} (h : w.ownsRow base e 1 v n xs) : v.ownBlock = none ∨ ∃ q, v.ownBlock = some q ∧ base ≤ q := by
  rcases h.2 with ⟨hv, _⟩ | ⟨g, cap, cur, hv, hg, h2⟩
  · left; rw [hv]; rfl
  · right; exact ⟨g, by rw [hv]; rfl, hg⟩

/-- What a read hands back: the value, or the zero value beside the error that it leaves. -/
def ReadPost {α : Type} (enc : α → World → Value → Prop) (zero : Value) (w : World) (g : Nat) (r : Except Int α × List Int) (e : Ending) (w' : World) : Prop :=
  match r.1 with
  | .ok n => (∃ v, e = .returned v ∧ enc n w' v) ∧ Rdr w' g r.2 0 ∧ w.grownBy w' (some g)
  | .error c => e = .returned zero ∧ Rdr w' g r.2 c ∧ w.grownBy w' (some g)

theorem read_int_err (g : Nat) (l : List Int) (e0 : Int) (f : Value) (w : World) (h : Rdr w g l e0) (he : ¬ e0 = 0) :
    Calls Try.prog 35 #[.pointer (some ⟨g, 0, none⟩), f] w fun e w' => e = .returned (.int .i64 0) ∧ Rdr w' g l e0 ∧ w.grownBy w' none := by
  have hlt := h.lt
  have hne : (e0 != 0) = true := by rw [bne_iff_ne]; exact he
  have H := Lib.hid h
  obtain ⟨A, k, hg, _, _⟩ := h
  have k3 : ((w.alloc (.cells #[.pointer (some ⟨g, 0, none⟩)] 29)).alloc (.cells #[.int .i64 0] 3)).cell? ⟨g, 1, none⟩ = some (.int .i64 e0) := by rw [World.cell?_alloc_lt _ _ _ (by simp; omega), World.cell?_alloc_lt _ _ _ hlt]; simp [World.cell?, hg]
  have hg2 : Hid (Rdr (((w.alloc (.cells #[.pointer (some ⟨g, 0, none⟩)] 29)).alloc (.cells #[.int .i64 0] 3))) g l e0 ∧ w.grownBy (((w.alloc (.cells #[.pointer (some ⟨g, 0, none⟩)] 29)).alloc (.cells #[.int .i64 0] 3))) none) :=
    ⟨(H.out.only (World.grownBy_alloc w _ none) (fun _ h => by cases h)).only (World.grownBy_alloc _ _ none) (fun _ h => by cases h), only_alloc (only_alloc (only_refl _ _) _) _⟩
  clear hg
  go_enter_defers Try.func35, Try.ntmps35
  go_wp2_with fail
  simp [bodyPostD, Leaves, results, Try.results35, go_sem]
  exact hg2.out

theorem read_int (g : Nat) (l : List Int) (w : World) (h : Rdr w g l 0) (hl : l.length ≤ 1099511627776) (hb : bytesOk l) :
    Calls Try.prog 35 #[.pointer (some ⟨g, 0, none⟩), .func (.func 36) #[.pointer (some ⟨g, 0, none⟩)] #[]] w (ReadPost (numOf) (.int .i64 0) w g (number l)) := by
  have hlt := h.lt
  have hmf : ∀ (fn : Fn) (first cap : Array Value) (w : World), (Instr.makeFunc fn first cap).run Try.prog w = .ok (.func fn first cap) w := fun _ _ _ _ => rfl
  obtain ⟨A, k, hg, _, _⟩ := id h
  have k3 : ((w.alloc (.cells #[.pointer (some ⟨g, 0, none⟩)] 29)).alloc (.cells #[.int .i64 0] 3)).cell? ⟨g, 1, none⟩ = some (.int .i64 0) := by rw [World.cell?_alloc_lt _ _ _ (by simp; omega), World.cell?_alloc_lt _ _ _ hlt]; simp [World.cell?, hg]
  have hb1 : Hid (((w.alloc (.cells #[.pointer (some ⟨g, 0, none⟩)] 29)).alloc (.cells #[.int .i64 0] 3)).heap[w.heap.size]? = some (.cells #[.pointer (some ⟨g, 0, none⟩)] 29 (0, 0))) :=
    (Below.heap_alloc _ _ _ (by simp)).trans (heap_alloc_new w _)
  have hb2 : Hid (((w.alloc (.cells #[.pointer (some ⟨g, 0, none⟩)] 29)).alloc (.cells #[.int .i64 0] 3)).heap[w.heap.size + 1]? = some (.cells #[.int .i64 0] 3 (0, 0))) := by
    have h := heap_alloc_new (w.alloc (.cells #[.pointer (some ⟨g, 0, none⟩)] 29)) (.cells #[.int .i64 0] 3)
    rw [World.size_alloc] at h
    exact h
  have hR2 : Hid (Rdr (((w.alloc (.cells #[.pointer (some ⟨g, 0, none⟩)] 29)).alloc (.cells #[.int .i64 0] 3))) g l 0 ∧ w.grownBy (((w.alloc (.cells #[.pointer (some ⟨g, 0, none⟩)] 29)).alloc (.cells #[.int .i64 0] 3))) none) :=
    ⟨(h.only (World.grownBy_alloc w _ none) (fun _ h => by cases h)).only (World.grownBy_alloc _ _ none) (fun _ h => by cases h), only_alloc (only_alloc (only_refl _ _) _) _⟩
  have HB := Lib.hid hb
  clear hg hb h
  go_enter_defers Try.func35, Try.ntmps35
  go_wp2_with fail
  refine (number_step g l 0 _ hR2.out.1 hl HB.out).mono ?_
  intro e w1 hp
  unfold StepPost at hp
  have hsz : (w.heap.size + 1) + 1 ≤ w1.heap.size := by have := hp.2.2.size; simpa using this
  have hw1 : w1.heap[w.heap.size]? = some (.cells #[.pointer (some ⟨g, 0, none⟩)] 29 (0, 0)) := (hp.2.2.block _ (by simp; omega) (by simp; omega)).trans hb1.out
  have hw2 : w1.heap[w.heap.size + 1]? = some (.cells #[.int .i64 0] 3 (0, 0)) := (hp.2.2.block _ (by simp) (by simp; omega)).trans hb2.out
  have hgw : w.grownBy w1 (some g) := only_step (only_none hR2.out.2 _) hp.2.2 (fun q hq => .inl hq)
  clear hb1 hb2 hR2
  rcases hn : number l with ⟨c | n, l'⟩
  · rw [hn] at hp
    obtain ⟨rfl, hR1, hg1⟩ := hp
    refine leaves_cons (f := 44) (args := #[.pointer (some ⟨w.heap.size, 0, none⟩), .pointer (some ⟨w.heap.size + 1, 0, none⟩)]) (by simp) (by simp [go_sem]) ?_
    refine (catch_int g _ _ c _ _ _ l' 0 _ hR1 (by omega) hw1 hw2).mono ?_
    rintro e u w2 ⟨rfl, rfl, hR3, hc2, ht⟩
    have hg2 := two_only hgw ht (by omega)
    clear hw1 hw2 hg1 ht
    simp [Leaves, settle, results, Try.results35, go_sem, hc2]
    unfold ReadPost
    try rw [hn]
    exact ⟨rfl, hR3, hg2⟩
  · rw [hn] at hp
    obtain ⟨⟨v, rfl, hv⟩, hR1, hg1⟩ := hp
    have c2 : w1.cell? ⟨w.heap.size + 1, 0, none⟩ = some (.int .i64 0) := by simp [World.cell?, hw2]
    have f2 : w1.frozen? ⟨w.heap.size + 1, 0, none⟩ = false := by simp [World.frozen?, hw2]
    obtain rfl : v = .int .i64 n := hv
    have hset : Hid (w1.grownBy (w1.setCell ⟨w.heap.size + 1, 0, none⟩ (.int .i64 n)) (some (w.heap.size + 1))) := only_set (only_refl _ _) (.inl rfl) _
    have hR3 : Hid (Rdr (w1.setCell ⟨w.heap.size + 1, 0, none⟩ (.int .i64 n)) g l' 0) := hR1.only hset.out (fun q hq => by cases hq; omega)
    have hc3 : (w1.setCell ⟨w.heap.size + 1, 0, none⟩ (.int .i64 n)).cell? ⟨w.heap.size + 1, 0, none⟩ = some (.int .i64 n) := World.cell?_setCell_same' _ _ _ (by rw [c2]; rfl)
    have hv3 : Hid (numOf n (w1.setCell ⟨w.heap.size + 1, 0, none⟩ (.int .i64 n)) (.int .i64 n)) := rfl
    clear hw1 hw2 hR1 hg1
    go_wp2_with fail
    refine leaves_cons (f := 44) (args := #[.pointer (some ⟨w.heap.size, 0, none⟩), .pointer (some ⟨w.heap.size + 1, 0, none⟩)]) (by simp) (by simp [go_sem]) ?_
    refine (idle_int _ _ _).mono ?_
    rintro e u w2 ⟨rfl, rfl, rfl⟩
    have hc4 : ((w1.setCell ⟨w.heap.size + 1, 0, none⟩ (.int .i64 n)).alloc (.cells #[.int .i64 0] 64)).cell? ⟨w.heap.size + 1, 0, none⟩ = some (.int .i64 n) := by
      rw [World.cell?_alloc_lt _ _ _ (by simp [World.setCell]; omega)]; exact hc3
    have hR4 : Rdr ((w1.setCell ⟨w.heap.size + 1, 0, none⟩ (.int .i64 n)).alloc (.cells #[.int .i64 0] 64)) g l' 0 := hR3.out.only (World.grownBy_alloc _ _ none) (fun _ h => by cases h)
    have hg4 : w.grownBy ((w1.setCell ⟨w.heap.size + 1, 0, none⟩ (.int .i64 n)).alloc (.cells #[.int .i64 0] 64)) (some g) := only_alloc (only_step hgw hset.out (fun q hq => by cases hq; exact .inr (by omega))) _
    have hv4 : numOf n ((w1.setCell ⟨w.heap.size + 1, 0, none⟩ (.int .i64 n)).alloc (.cells #[.int .i64 0] 64)) (.int .i64 n) := rfl
    simp [Leaves, settle, results, Try.results35, go_sem, hc4]
    unfold ReadPost
    try rw [hn]
    exact ⟨⟨_, rfl, hv4⟩, hR4, hg4⟩

theorem read_text_err (g : Nat) (l : List Int) (e0 : Int) (f : Value) (w : World) (h : Rdr w g l e0) (he : ¬ e0 = 0) :
    Calls Try.prog 37 #[.pointer (some ⟨g, 0, none⟩), f] w fun e w' => e = .returned (.string { data := #[] }) ∧ Rdr w' g l e0 ∧ w.grownBy w' none := by
  have hlt := h.lt
  have hne : (e0 != 0) = true := by rw [bne_iff_ne]; exact he
  have H := Lib.hid h
  obtain ⟨A, k, hg, _, _⟩ := h
  have k3 : ((w.alloc (.cells #[.pointer (some ⟨g, 0, none⟩)] 29)).alloc (.cells #[.string { data := #[] }] 9)).cell? ⟨g, 1, none⟩ = some (.int .i64 e0) := by rw [World.cell?_alloc_lt _ _ _ (by simp; omega), World.cell?_alloc_lt _ _ _ hlt]; simp [World.cell?, hg]
  have hg2 : Hid (Rdr (((w.alloc (.cells #[.pointer (some ⟨g, 0, none⟩)] 29)).alloc (.cells #[.string { data := #[] }] 9))) g l e0 ∧ w.grownBy (((w.alloc (.cells #[.pointer (some ⟨g, 0, none⟩)] 29)).alloc (.cells #[.string { data := #[] }] 9))) none) :=
    ⟨(H.out.only (World.grownBy_alloc w _ none) (fun _ h => by cases h)).only (World.grownBy_alloc _ _ none) (fun _ h => by cases h), only_alloc (only_alloc (only_refl _ _) _) _⟩
  clear hg
  go_enter_defers Try.func37, Try.ntmps37
  go_wp2_with fail
  simp [bodyPostD, Leaves, results, Try.results37, go_sem]
  exact hg2.out

theorem read_text (g : Nat) (l : List Int) (w : World) (h : Rdr w g l 0) (hl : l.length ≤ 1099511627776) (hb : bytesOk l) :
    Calls Try.prog 37 #[.pointer (some ⟨g, 0, none⟩), .func (.func 38) #[.pointer (some ⟨g, 0, none⟩)] #[]] w (ReadPost (strOf) (.string { data := #[] }) w g (textB l)) := by
  have hlt := h.lt
  have hmf : ∀ (fn : Fn) (first cap : Array Value) (w : World), (Instr.makeFunc fn first cap).run Try.prog w = .ok (.func fn first cap) w := fun _ _ _ _ => rfl
  obtain ⟨A, k, hg, _, _⟩ := id h
  have k3 : ((w.alloc (.cells #[.pointer (some ⟨g, 0, none⟩)] 29)).alloc (.cells #[.string { data := #[] }] 9)).cell? ⟨g, 1, none⟩ = some (.int .i64 0) := by rw [World.cell?_alloc_lt _ _ _ (by simp; omega), World.cell?_alloc_lt _ _ _ hlt]; simp [World.cell?, hg]
  have hb1 : Hid (((w.alloc (.cells #[.pointer (some ⟨g, 0, none⟩)] 29)).alloc (.cells #[.string { data := #[] }] 9)).heap[w.heap.size]? = some (.cells #[.pointer (some ⟨g, 0, none⟩)] 29 (0, 0))) :=
    (Below.heap_alloc _ _ _ (by simp)).trans (heap_alloc_new w _)
  have hb2 : Hid (((w.alloc (.cells #[.pointer (some ⟨g, 0, none⟩)] 29)).alloc (.cells #[.string { data := #[] }] 9)).heap[w.heap.size + 1]? = some (.cells #[.string { data := #[] }] 9 (0, 0))) := by
    have h := heap_alloc_new (w.alloc (.cells #[.pointer (some ⟨g, 0, none⟩)] 29)) (.cells #[.string { data := #[] }] 9)
    rw [World.size_alloc] at h
    exact h
  have hR2 : Hid (Rdr (((w.alloc (.cells #[.pointer (some ⟨g, 0, none⟩)] 29)).alloc (.cells #[.string { data := #[] }] 9))) g l 0 ∧ w.grownBy (((w.alloc (.cells #[.pointer (some ⟨g, 0, none⟩)] 29)).alloc (.cells #[.string { data := #[] }] 9))) none) :=
    ⟨(h.only (World.grownBy_alloc w _ none) (fun _ h => by cases h)).only (World.grownBy_alloc _ _ none) (fun _ h => by cases h), only_alloc (only_alloc (only_refl _ _) _) _⟩
  have HB := Lib.hid hb
  clear hg hb h
  go_enter_defers Try.func37, Try.ntmps37
  go_wp2_with fail
  refine (text_step g l 0 _ hR2.out.1 hl HB.out).mono ?_
  intro e w1 hp
  unfold StepPost at hp
  have hsz : (w.heap.size + 1) + 1 ≤ w1.heap.size := by have := hp.2.2.size; simpa using this
  have hw1 : w1.heap[w.heap.size]? = some (.cells #[.pointer (some ⟨g, 0, none⟩)] 29 (0, 0)) := (hp.2.2.block _ (by simp; omega) (by simp; omega)).trans hb1.out
  have hw2 : w1.heap[w.heap.size + 1]? = some (.cells #[.string { data := #[] }] 9 (0, 0)) := (hp.2.2.block _ (by simp) (by simp; omega)).trans hb2.out
  have hgw : w.grownBy w1 (some g) := only_step (only_none hR2.out.2 _) hp.2.2 (fun q hq => .inl hq)
  clear hb1 hb2 hR2
  rcases hn : textB l with ⟨c | n, l'⟩
  · rw [hn] at hp
    obtain ⟨rfl, hR1, hg1⟩ := hp
    refine leaves_cons (f := 47) (args := #[.pointer (some ⟨w.heap.size, 0, none⟩), .pointer (some ⟨w.heap.size + 1, 0, none⟩)]) (by simp) (by simp [go_sem]) ?_
    refine (catch_text g _ _ c _ _ _ l' 0 _ hR1 (by omega) hw1 hw2).mono ?_
    rintro e u w2 ⟨rfl, rfl, hR3, hc2, ht⟩
    have hg2 := two_only hgw ht (by omega)
    clear hw1 hw2 hg1 ht
    simp [Leaves, settle, results, Try.results37, go_sem, hc2]
    unfold ReadPost
    try rw [hn]
    exact ⟨rfl, hR3, hg2⟩
  · rw [hn] at hp
    obtain ⟨⟨v, rfl, hv⟩, hR1, hg1⟩ := hp
    have c2 : w1.cell? ⟨w.heap.size + 1, 0, none⟩ = some (.string { data := #[] }) := by simp [World.cell?, hw2]
    have f2 : w1.frozen? ⟨w.heap.size + 1, 0, none⟩ = false := by simp [World.frozen?, hw2]
    obtain rfl : v = .string (strOfNums n) := hv
    have hset : Hid (w1.grownBy (w1.setCell ⟨w.heap.size + 1, 0, none⟩ (.string (strOfNums n))) (some (w.heap.size + 1))) := only_set (only_refl _ _) (.inl rfl) _
    have hR3 : Hid (Rdr (w1.setCell ⟨w.heap.size + 1, 0, none⟩ (.string (strOfNums n))) g l' 0) := hR1.only hset.out (fun q hq => by cases hq; omega)
    have hc3 : (w1.setCell ⟨w.heap.size + 1, 0, none⟩ (.string (strOfNums n))).cell? ⟨w.heap.size + 1, 0, none⟩ = some (.string (strOfNums n)) := World.cell?_setCell_same' _ _ _ (by rw [c2]; rfl)
    have hv3 : Hid (strOf n (w1.setCell ⟨w.heap.size + 1, 0, none⟩ (.string (strOfNums n))) (.string (strOfNums n))) := rfl
    clear hw1 hw2 hR1 hg1
    go_wp2_with fail
    refine leaves_cons (f := 47) (args := #[.pointer (some ⟨w.heap.size, 0, none⟩), .pointer (some ⟨w.heap.size + 1, 0, none⟩)]) (by simp) (by simp [go_sem]) ?_
    refine (idle_text _ _ _).mono ?_
    rintro e u w2 ⟨rfl, rfl, rfl⟩
    have hc4 : ((w1.setCell ⟨w.heap.size + 1, 0, none⟩ (.string (strOfNums n))).alloc (.cells #[.int .i64 0] 64)).cell? ⟨w.heap.size + 1, 0, none⟩ = some (.string (strOfNums n)) := by
      rw [World.cell?_alloc_lt _ _ _ (by simp [World.setCell]; omega)]; exact hc3
    have hR4 : Rdr ((w1.setCell ⟨w.heap.size + 1, 0, none⟩ (.string (strOfNums n))).alloc (.cells #[.int .i64 0] 64)) g l' 0 := hR3.out.only (World.grownBy_alloc _ _ none) (fun _ h => by cases h)
    have hg4 : w.grownBy ((w1.setCell ⟨w.heap.size + 1, 0, none⟩ (.string (strOfNums n))).alloc (.cells #[.int .i64 0] 64)) (some g) := only_alloc (only_step hgw hset.out (fun q hq => by cases hq; exact .inr (by omega))) _
    have hv4 : strOf n ((w1.setCell ⟨w.heap.size + 1, 0, none⟩ (.string (strOfNums n))).alloc (.cells #[.int .i64 0] 64)) (.string (strOfNums n)) := rfl
    simp [Leaves, settle, results, Try.results37, go_sem, hc4]
    unfold ReadPost
    try rw [hn]
    exact ⟨⟨_, rfl, hv4⟩, hR4, hg4⟩

theorem read_ints_err (g : Nat) (l : List Int) (e0 : Int) (f : Value) (w : World) (h : Rdr w g l e0) (he : ¬ e0 = 0) :
    Calls Try.prog 40 #[.pointer (some ⟨g, 0, none⟩), f] w fun e w' => e = .returned (.slice none 0 0) ∧ Rdr w' g l e0 ∧ w.grownBy w' none := by
  have hlt := h.lt
  have hne : (e0 != 0) = true := by rw [bne_iff_ne]; exact he
  have H := Lib.hid h
  obtain ⟨A, k, hg, _, _⟩ := h
  have k3 : ((w.alloc (.cells #[.pointer (some ⟨g, 0, none⟩)] 29)).alloc (.cells #[.slice none 0 0] 23)).cell? ⟨g, 1, none⟩ = some (.int .i64 e0) := by rw [World.cell?_alloc_lt _ _ _ (by simp; omega), World.cell?_alloc_lt _ _ _ hlt]; simp [World.cell?, hg]
  have hg2 : Hid (Rdr (((w.alloc (.cells #[.pointer (some ⟨g, 0, none⟩)] 29)).alloc (.cells #[.slice none 0 0] 23))) g l e0 ∧ w.grownBy (((w.alloc (.cells #[.pointer (some ⟨g, 0, none⟩)] 29)).alloc (.cells #[.slice none 0 0] 23))) none) :=
    ⟨(H.out.only (World.grownBy_alloc w _ none) (fun _ h => by cases h)).only (World.grownBy_alloc _ _ none) (fun _ h => by cases h), only_alloc (only_alloc (only_refl _ _) _) _⟩
  clear hg
  go_enter_defers Try.func40, Try.ntmps40
  go_wp2_with fail
  simp [bodyPostD, Leaves, results, Try.results40, go_sem]
  exact hg2.out

theorem read_ints (g : Nat) (l : List Int) (w : World) (h : Rdr w g l 0) (hl : l.length ≤ 1099511627776) (hb : bytesOk l) :
    Calls Try.prog 40 #[.pointer (some ⟨g, 0, none⟩), .func (.func 41) #[.pointer (some ⟨g, 0, none⟩)] #[]] w (ReadPost (listOf w.heap.size) (.slice none 0 0) w g (intsB l)) := by
  have hlt := h.lt
  have hmf : ∀ (fn : Fn) (first cap : Array Value) (w : World), (Instr.makeFunc fn first cap).run Try.prog w = .ok (.func fn first cap) w := fun _ _ _ _ => rfl
  obtain ⟨A, k, hg, _, _⟩ := id h
  have k3 : ((w.alloc (.cells #[.pointer (some ⟨g, 0, none⟩)] 29)).alloc (.cells #[.slice none 0 0] 23)).cell? ⟨g, 1, none⟩ = some (.int .i64 0) := by rw [World.cell?_alloc_lt _ _ _ (by simp; omega), World.cell?_alloc_lt _ _ _ hlt]; simp [World.cell?, hg]
  have hb1 : Hid (((w.alloc (.cells #[.pointer (some ⟨g, 0, none⟩)] 29)).alloc (.cells #[.slice none 0 0] 23)).heap[w.heap.size]? = some (.cells #[.pointer (some ⟨g, 0, none⟩)] 29 (0, 0))) :=
    (Below.heap_alloc _ _ _ (by simp)).trans (heap_alloc_new w _)
  have hb2 : Hid (((w.alloc (.cells #[.pointer (some ⟨g, 0, none⟩)] 29)).alloc (.cells #[.slice none 0 0] 23)).heap[w.heap.size + 1]? = some (.cells #[.slice none 0 0] 23 (0, 0))) := by
    have h := heap_alloc_new (w.alloc (.cells #[.pointer (some ⟨g, 0, none⟩)] 29)) (.cells #[.slice none 0 0] 23)
    rw [World.size_alloc] at h
    exact h
  have hR2 : Hid (Rdr (((w.alloc (.cells #[.pointer (some ⟨g, 0, none⟩)] 29)).alloc (.cells #[.slice none 0 0] 23))) g l 0 ∧ w.grownBy (((w.alloc (.cells #[.pointer (some ⟨g, 0, none⟩)] 29)).alloc (.cells #[.slice none 0 0] 23))) none) :=
    ⟨(h.only (World.grownBy_alloc w _ none) (fun _ h => by cases h)).only (World.grownBy_alloc _ _ none) (fun _ h => by cases h), only_alloc (only_alloc (only_refl _ _) _) _⟩
  have HB := Lib.hid hb
  clear hg hb h
  go_enter_defers Try.func40, Try.ntmps40
  go_wp2_with fail
  refine (numbers_step g l 0 _ hR2.out.1 hl HB.out).mono ?_
  intro e w1 hp
  unfold StepPost at hp
  have hsz : (w.heap.size + 1) + 1 ≤ w1.heap.size := by have := hp.2.2.size; simpa using this
  have hw1 : w1.heap[w.heap.size]? = some (.cells #[.pointer (some ⟨g, 0, none⟩)] 29 (0, 0)) := (hp.2.2.block _ (by simp; omega) (by simp; omega)).trans hb1.out
  have hw2 : w1.heap[w.heap.size + 1]? = some (.cells #[.slice none 0 0] 23 (0, 0)) := (hp.2.2.block _ (by simp) (by simp; omega)).trans hb2.out
  have hgw : w.grownBy w1 (some g) := only_step (only_none hR2.out.2 _) hp.2.2 (fun q hq => .inl hq)
  clear hb1 hb2 hR2
  rcases hn : intsB l with ⟨c | n, l'⟩
  · rw [hn] at hp
    obtain ⟨rfl, hR1, hg1⟩ := hp
    refine leaves_cons (f := 49) (args := #[.pointer (some ⟨w.heap.size, 0, none⟩), .pointer (some ⟨w.heap.size + 1, 0, none⟩)]) (by simp) (by simp [go_sem]) ?_
    refine (catch_ints g _ _ c _ _ _ l' 0 _ hR1 (by omega) hw1 hw2).mono ?_
    rintro e u w2 ⟨rfl, rfl, hR3, hc2, ht⟩
    have hg2 := two_only hgw ht (by omega)
    clear hw1 hw2 hg1 ht
    simp [Leaves, settle, results, Try.results40, go_sem, hc2]
    unfold ReadPost
    try rw [hn]
    exact ⟨rfl, hR3, hg2⟩
  · rw [hn] at hp
    obtain ⟨⟨v, rfl, hv⟩, hR1, hg1⟩ := hp
    have c2 : w1.cell? ⟨w.heap.size + 1, 0, none⟩ = some (.slice none 0 0) := by simp [World.cell?, hw2]
    have f2 : w1.frozen? ⟨w.heap.size + 1, 0, none⟩ = false := by simp [World.frozen?, hw2]
    obtain ⟨A', c', rfl⟩ := own_slice hv; have hvw : w1.ownsRow (w.heap.size + 1 + 1) 3 1 (.slice A' n.length c') n.length (is n) := by simpa [listOf] using hv
    have hset : Hid (w1.grownBy (w1.setCell ⟨w.heap.size + 1, 0, none⟩ (.slice A' n.length c')) (some (w.heap.size + 1))) := only_set (only_refl _ _) (.inl rfl) _
    have hR3 : Hid (Rdr (w1.setCell ⟨w.heap.size + 1, 0, none⟩ (.slice A' n.length c')) g l' 0) := hR1.only hset.out (fun q hq => by cases hq; omega)
    have hc3 : (w1.setCell ⟨w.heap.size + 1, 0, none⟩ (.slice A' n.length c')).cell? ⟨w.heap.size + 1, 0, none⟩ = some (.slice A' n.length c') := World.cell?_setCell_same' _ _ _ (by rw [c2]; rfl)
    have hv3 : Hid (listOf w.heap.size n (w1.setCell ⟨w.heap.size + 1, 0, none⟩ (.slice A' n.length c')) (.slice A' n.length c')) := Lib.hid (own_mono (hvw.kept hset.out (by rcases own_at hvw with h | ⟨q, h, hq⟩ <;> rw [h] <;> simp <;> omega)) (by omega))
    clear hw1 hw2 hR1 hg1
    go_wp2_with fail
    refine leaves_cons (f := 49) (args := #[.pointer (some ⟨w.heap.size, 0, none⟩), .pointer (some ⟨w.heap.size + 1, 0, none⟩)]) (by simp) (by simp [go_sem]) ?_
    refine (idle_ints _ _ _).mono ?_
    rintro e u w2 ⟨rfl, rfl, rfl⟩
    have hc4 : ((w1.setCell ⟨w.heap.size + 1, 0, none⟩ (.slice A' n.length c')).alloc (.cells #[.int .i64 0] 64)).cell? ⟨w.heap.size + 1, 0, none⟩ = some (.slice A' n.length c') := by
      rw [World.cell?_alloc_lt _ _ _ (by simp [World.setCell]; omega)]; exact hc3
    have hR4 : Rdr ((w1.setCell ⟨w.heap.size + 1, 0, none⟩ (.slice A' n.length c')).alloc (.cells #[.int .i64 0] 64)) g l' 0 := hR3.out.only (World.grownBy_alloc _ _ none) (fun _ h => by cases h)
    have hg4 : w.grownBy ((w1.setCell ⟨w.heap.size + 1, 0, none⟩ (.slice A' n.length c')).alloc (.cells #[.int .i64 0] 64)) (some g) := only_alloc (only_step hgw hset.out (fun q hq => by cases hq; exact .inr (by omega))) _
    have hv4 : listOf w.heap.size n ((w1.setCell ⟨w.heap.size + 1, 0, none⟩ (.slice A' n.length c')).alloc (.cells #[.int .i64 0] 64)) (.slice A' n.length c') := (own_mono ((hv3.out : World.ownsRow _ _ _ _ _ _ _).alloc _) (Nat.le_refl _) : listOf w.heap.size n _ _)
    simp [Leaves, settle, results, Try.results40, go_sem, hc4]
    unfold ReadPost
    try rw [hn]
    exact ⟨⟨_, rfl, hv4⟩, hR4, hg4⟩
end Go.Proofs.Ytjcanlnnadnodaa
