/- What is read again of what was written, whole, with a byte more, with a byte less: the reader's states, and its methods' contracts over them. No condition of the program's own. -/
import Derived.Test.YtjcanlnnadnodaaPair
import Derived.Test.YtjcanlnnadnodaaTexts
import Derived.Test.YtjcanlnnadnodaaEdges
namespace Go.Proofs.Ytjcanlnnadnodaa
open Go.RowKit

/-- A step that was done stays done when more stands behind; one that failed fails so again, unless what is left was cut. -/
def Then {α : Type} (x y : Except Int α × List Int) (q : List Int) : Prop := match x with
  | (.ok a, r) => y = (.ok a, r ++ q)
  | (.error c, _) => c = 8 ∨ ∃ r', y = (.error c, r')
def Stable {α : Type} (f : List Int → Except Int α × List Int) : Prop := ∀ p q, Then (f p) (f (p ++ q)) q

theorem numLoop_stable : ∀ (p : List Int) (x u : Nat) (q : List Int), Then (numLoop x u p) (numLoop x u (p ++ q)) q
  | [], x, u, q => by
    by_cases h : x < 128
    · rw [numLoop_lo _ _ _ h, numLoop_lo _ _ _ h]; exact rfl
    · rw [numLoop_hi _ _ _ (by omega)]; exact .inl rfl
  | y :: l', x, u, q => by
    by_cases h : x < 128
    · rw [numLoop_lo _ _ _ h, numLoop_lo _ _ _ h]; exact rfl
    · rw [numLoop_hi _ _ _ (by omega), numLoop_hi _ _ _ (by omega), List.cons_append]
      by_cases hb : 144115188075855872 ≤ u
      · have h1 : ∀ l, goRest u (y :: l) = (.error 10, l) := fun l => by simp only [goRest, if_pos hb]
        rw [h1, h1]
        exact .inr ⟨_, rfl⟩
      · have h1 : ∀ l, goRest u (y :: l) = numLoop y.toNat (u * 128 + y.toNat % 128) l := fun l => by simp only [goRest, if_neg hb]
        rw [h1, h1]
        exact numLoop_stable l' _ _ q
theorem number_stable : Stable number := fun p q => by
  cases p with
  | nil => exact .inl rfl
  | cons x l =>
    by_cases h : x = 128
    · have h1 : ∀ l, number (x :: l) = (.error 10, l) := fun l => by simp only [number, if_pos h]
      rw [List.cons_append, h1, h1]
      exact .inr ⟨l ++ q, rfl⟩
    · have h1 : ∀ l, number (x :: l) = numLoop x.toNat (x.toNat % 128) l := fun l => by simp only [number, if_neg h]
      rw [h1, List.cons_append, h1]
      exact numLoop_stable l _ _ q
theorem lengthB_stable : Stable lengthB := fun p q => by
  have h := number_stable p q
  unfold lengthB
  rcases hn : number p with ⟨c | n, r⟩
  · rw [hn] at h
    rcases h with h | ⟨r', h⟩
    · exact .inl h
    · rw [h]; exact .inr ⟨r', rfl⟩
  · rw [hn] at h
    rw [show number (p ++ q) = _ from h]
    by_cases hc : n < 0 ∨ 65535 < n
    · simp only [if_pos hc]; exact .inr ⟨_, rfl⟩
    · simp only [if_neg hc]; exact rfl
theorem textB_stable : Stable textB := fun p q => by
  have h := lengthB_stable p q
  unfold textB
  rcases hn : lengthB p with ⟨c | n, r⟩
  · rw [hn] at h
    rcases h with h | ⟨r', h⟩
    · exact .inl h
    · rw [h]; exact .inr ⟨r', rfl⟩
  · rw [hn] at h
    rw [show lengthB (p ++ q) = _ from h]
    by_cases hc : r.length < n.toNat
    · simp only [if_pos hc]; exact .inl rfl
    · have hc2 : ¬ (r ++ q).length < n.toNat := by rw [List.length_append]; omega
      simp only [if_neg hc, if_neg hc2]
      rw [List.take_append_of_le_length (by omega), List.drop_append_of_le_length (by omega)]
      exact rfl
theorem numsB_stable : ∀ (k : Nat) (acc : List Int), Stable (numsB acc k)
  | 0, acc => fun p q => by simp only [numsB]; exact rfl
  | k + 1, acc => fun p q => by
    have h := number_stable p q
    unfold numsB
    rcases hn : number p with ⟨c | n, r⟩
    · rw [hn] at h
      rcases h with h | ⟨r', h⟩
      · exact .inl h
      · rw [h]; exact .inr ⟨r', rfl⟩
    · rw [hn] at h
      rw [show number (p ++ q) = _ from h]
      exact numsB_stable k (acc ++ [n]) r q
theorem intsB_stable : Stable intsB := fun p q => by
  have h := lengthB_stable p q
  unfold intsB
  rcases hn : lengthB p with ⟨c | n, r⟩
  · rw [hn] at h
    rcases h with h | ⟨r', h⟩
    · exact .inl h
    · rw [h]; exact .inr ⟨r', rfl⟩
  · rw [hn] at h
    rw [show lengthB (p ++ q) = _ from h]
    exact numsB_stable n.toNat [] r q
theorem numsB_ok : ∀ (l acc r : List Int), (∀ n ∈ l, -9223372036854775808 ≤ n ∧ n ≤ 9223372036854775807) → numsB acc l.length (encs l ++ r) = (.ok (acc ++ l), r)
  | [], acc, r, _ => by simp [numsB, encs]
  | n :: l, acc, r, hb => by
    have hn := hb n (by simp)
    have he : encs (n :: l) ++ r = enc n ++ (encs l ++ r) := by simp [encs]
    rw [he, List.length_cons, numsB, number_enc n _ hn.1 hn.2]
    simp only
    rw [numsB_ok l (acc ++ [n]) r (fun m hm => hb m (by simp [hm]))]
    simp
theorem ints_ok (l r : List Int) (hl : l.length ≤ 65535) (hb : ∀ n ∈ l, -9223372036854775808 ≤ n ∧ n ≤ 9223372036854775807) : intsB (enc l.length ++ encs l ++ r) = (.ok l, r) := by
  have h1 : lengthB (enc l.length ++ (encs l ++ r)) = (.ok (l.length : Int), encs l ++ r) := by
    unfold lengthB
    rw [number_enc _ _ (by omega) (by omega)]
    simp only [if_neg (show ¬ ((l.length : Int) < 0 ∨ 65535 < (l.length : Int)) by omega)]
  unfold intsB
  rw [List.append_assoc, h1]
  have := numsB_ok l [] r hb
  simpa using this
theorem cut_of {α : Type} {f : List Int → Except Int α × List Int} {E p q : List Int} {a : α} (hf : Stable f) (h : f E = (.ok a, [])) (hE : E = p ++ q) (hq : q ≠ []) : ∃ r, f p = (.error 8, r) := by
  have hs := hf p q
  rcases hn : f p with ⟨c | v, r⟩
  · rw [hn] at hs
    rcases hs with hs | ⟨r', hs⟩
    · subst hs; exact ⟨r, rfl⟩
    · rw [← hE, h] at hs; cases hs
  · rw [hn] at hs
    have hs : f (p ++ q) = (.ok v, r ++ q) := hs
    rw [← hE, h] at hs
    injection hs with _ hs
    exact absurd (List.append_eq_nil_iff.1 hs.symm).2 hq

/-- Where a reader stands that has F before it of what was written: m 0: all of it; 1: seven behind it; 2: the last byte cut off; 3: nothing is asked. -/
def St (m : Nat) (F l : List Int) (e : Int) (ok : Bool) : Prop :=
  (m = 0 ∧ e = 0 ∧ l = F ∧ ok = true) ∨ (m = 1 ∧ e = 0 ∧ l = F ++ [7] ∧ ok = true) ∨ (m = 2 ∧ ((e = 0 ∧ F ≠ [] ∧ l = F.dropLast) ∨ e = 8)) ∨ m = 3
/-- The reader's step, its error as a number. -/
def after {α : Type} (x : Except Int α × List Int) : Int := match x.1 with
  | .ok _ => 0
  | .error c => c
theorem St.step {α : Type} [DecidableEq α] {f : List Int → Except Int α × List Int} {E F l : List Int} {e : Int} {ok : Bool} {a z : α} {m : Nat} (hf : Stable f) (hE : E ≠ []) (ha : ∀ r, f (E ++ r) = (.ok a, r)) (h : St m (E ++ F) l e ok) :
    St m F (ans f l e).2 (after (ans f l e)) ((match (ans f l e).1 with | .ok v => decide (v = a) | .error _ => decide (z = a)) && ok) := by
  rcases h with ⟨hm, he, hl, hk⟩ | ⟨hm, he, hl, hk⟩ | ⟨hm, h⟩ | hm
  · subst he; subst hl; subst hk
    have hA : ans f (E ++ F) 0 = (.ok a, F) := ha F
    rw [hA]
    exact .inl ⟨hm, rfl, rfl, by simp⟩
  · subst he; subst hl; subst hk
    have hA : ans f (E ++ F ++ [7]) 0 = (.ok a, F ++ [7]) := by rw [List.append_assoc]; exact ha _
    rw [hA]
    exact .inr (.inl ⟨hm, rfl, rfl, by simp⟩)
  · refine .inr (.inr (.inl ⟨hm, ?_⟩))
    rcases h with ⟨he, _, hl⟩ | he
    · subst he; subst hl
      cases F with
      | nil =>
        rw [List.append_nil]
        obtain ⟨r, hr⟩ := cut_of hf (by have := ha []; rwa [List.append_nil] at this) (List.dropLast_concat_getLast hE).symm (by simp)
        have hA : ans f E.dropLast 0 = (.error 8, r) := hr
        rw [hA]
        exact .inr rfl
      | cons y F =>
        have hd : (E ++ y :: F).dropLast = E ++ (y :: F).dropLast := by rw [List.dropLast_append_of_ne_nil (by simp)]
        rw [hd]
        have hA : ans f (E ++ (y :: F).dropLast) 0 = (.ok a, (y :: F).dropLast) := ha _
        rw [hA]
        exact .inl ⟨rfl, by simp, rfl⟩
    · subst he
      exact .inr rfl
  · exact .inr (.inr (.inr hm))
theorem enc_ne (n : Int) (h1 : -9223372036854775808 ≤ n) (h2 : n ≤ 9223372036854775807) : enc n ≠ [] := fun h => by
  have := enc_len n h1 h2
  rw [h] at this; simp at this

theorem back_int (g : Nat) (n : Int) (F l : List Int) (e : Int) (ok : Bool) (m : Nat) (n1 : -9223372036854775808 ≤ n) (n2 : n ≤ 9223372036854775807) (h : St m (enc n ++ F) l e ok) (hl : l.length ≤ 1099511627776) (hb : bytesOk l) :
    ∃ (v : Int) (l' : List Int) (e' : Int), (∀ w, Rdr w g l e → Hid (Calls Try.prog 22 #[.pointer (some ⟨g, 0, none⟩)] w fun x w' => x = .returned (.int .i64 v) ∧ Rdr w' g l' e' ∧ w.grownBy w' (some g))) ∧
    St m F l' e' (decide (v = n) && ok) ∧ bytesOk l' ∧ l'.length ≤ l.length := by
  have hs : bytesOk (ans number l e).2 ∧ (ans number l e).2.length ≤ l.length := by
    unfold ans
    by_cases he : e = 0
    · rw [if_pos he]; obtain ⟨p, hp⟩ := number_suffix l; exact suf_ok hp hb
    · rw [if_neg he]; exact ⟨hb, Nat.le_refl _⟩
  have hS := h.step (z := 0) number_stable (enc_ne n n1 n2) (fun r => number_enc n r n1 n2)
  rcases hn : ans number l e with ⟨c | v, l'⟩
  · rw [hn] at hs hS
    refine ⟨0, l', c, fun w hR => (rInt_any g l e w hR hl hb).mono fun x w' hp => ?_, hS, hs⟩
    unfold ReadPost at hp; rw [hn] at hp; exact hp
  · rw [hn] at hs hS
    refine ⟨v, l', 0, fun w hR => (rInt_any g l e w hR hl hb).mono fun x w' hp => ?_, hS, hs⟩
    unfold ReadPost at hp; rw [hn] at hp
    obtain ⟨⟨v, h1, h2⟩, h3⟩ := hp
    exact ⟨by rw [h1, show v = _ from h2], h3⟩
theorem back_text (g : Nat) (t : List Int) (F l : List Int) (e : Int) (ok : Bool) (m : Nat) (ht : t.length ≤ 65535) (htb : bytesOk t) (h : St m (enc t.length ++ t ++ F) l e ok) (hl : l.length ≤ 1099511627776) (hb : bytesOk l) :
    ∃ (s : ByteArray) (l' : List Int) (e' : Int), (∀ w, Rdr w g l e → Hid (Calls Try.prog 24 #[.pointer (some ⟨g, 0, none⟩)] w fun x w' => x = .returned (.string s) ∧ Rdr w' g l' e' ∧ w.grownBy w' (some g))) ∧
    St m F l' e' (decide (s = strOfNums t) && ok) ∧ bytesOk l' ∧ l'.length ≤ l.length := by
  have hs : bytesOk (ans textB l e).2 ∧ (ans textB l e).2.length ≤ l.length := by
    unfold ans
    by_cases he : e = 0
    · rw [if_pos he]; obtain ⟨p, hp⟩ := textB_suffix l; exact suf_ok hp hb
    · rw [if_neg he]; exact ⟨hb, Nat.le_refl _⟩
  have hne : enc t.length ++ t ≠ [] := fun h => enc_ne t.length (by omega) (by omega) (List.append_eq_nil_iff.1 h).1
  have hS := h.step (z := []) textB_stable hne (fun r => by rw [List.append_assoc]; exact text_ok t r ht)
  have hcast : ∀ (m' : Nat) (F' l' : List Int) (e' : Int) (v : List Int) , bytesOk v → St m' F' l' e' (decide (v = t) && ok) → St m' F' l' e' (decide (strOfNums v = strOfNums t) && ok) := fun m' F' l' e' v hv h => by
    by_cases hvt : v = t
    · subst hvt; simpa using h
    · have : decide (strOfNums v = strOfNums t) = false := by
        rw [decide_eq_false_iff_not]
        intro he
        exact hvt (by rw [← sb_of v hv, ← sb_of t htb, he])
      rw [this]; simpa [hvt] using h
  rcases hn : ans textB l e with ⟨c | v, l'⟩
  · rw [hn] at hs hS
    refine ⟨{ data := #[] }, l', c, fun w hR => (rText_any g l e w hR hl hb).mono fun x w' hp => ?_, hcast _ _ _ _ [] (fun x hx => by cases hx) hS, hs⟩
    unfold ReadPost at hp; rw [hn] at hp; exact hp
  · rw [hn] at hs hS
    have hv : bytesOk v := by
      unfold ans at hn
      by_cases he : e = 0
      · rw [if_pos he] at hn
        unfold textB at hn
        rcases hL : lengthB l with ⟨c | k, r⟩
        · rw [hL] at hn; cases hn
        · rw [hL] at hn
          simp only at hn
          split at hn
          · cases hn
          · injection hn with h1 h2
            injection h1 with h1
            subst h1
            obtain ⟨p, hp⟩ := lengthB_suffix l
            rw [hL] at hp
            exact fun x hx => (suf_ok hp hb).1 x (List.mem_of_mem_take hx)
      · rw [if_neg he] at hn; cases hn
    refine ⟨strOfNums v, l', 0, fun w hR => (rText_any g l e w hR hl hb).mono fun x w' hp => ?_, hcast _ _ _ _ v hv hS, hs⟩
    unfold ReadPost at hp; rw [hn] at hp
    obtain ⟨⟨v, h1, h2⟩, h3⟩ := hp
    exact ⟨by rw [h1, show v = _ from h2], h3⟩
theorem back_ints (g : Nat) (t : List Int) (F l : List Int) (e : Int) (ok : Bool) (m : Nat) (ht : t.length ≤ 65535) (htb : ∀ n ∈ t, -9223372036854775808 ≤ n ∧ n ≤ 9223372036854775807) (h : St m (enc t.length ++ encs t ++ F) l e ok) (hl : l.length ≤ 1099511627776) (hb : bytesOk l) :
    ∃ (v : List Int) (l' : List Int) (e' : Int), (∀ w, Rdr w g l e → Hid (Calls Try.prog 27 #[.pointer (some ⟨g, 0, none⟩)] w fun x w' => (∃ A c, x = .returned (.slice A v.length c) ∧ Has w' w'.heap.size A (is v)) ∧ Rdr w' g l' e' ∧ w.grownBy w' (some g))) ∧
    v.length ≤ maxLen ∧ St m F l' e' (decide (v = t) && ok) ∧ bytesOk l' ∧ l'.length ≤ l.length := by
  have hs : bytesOk (ans intsB l e).2 ∧ (ans intsB l e).2.length ≤ l.length := by
    unfold ans
    by_cases he : e = 0
    · rw [if_pos he]; obtain ⟨p, hp⟩ := intsB_suffix l; exact suf_ok hp hb
    · rw [if_neg he]; exact ⟨hb, Nat.le_refl _⟩
  have hne : enc t.length ++ encs t ≠ [] := fun h => enc_ne t.length (by omega) (by omega) (List.append_eq_nil_iff.1 h).1
  have hS := h.step (z := []) intsB_stable hne (fun r => ints_ok t r ht htb)
  have own : ∀ (w w' : World) (v : List Int) (x : Ending), (∃ u, x = .returned u ∧ w'.ownsRow w.heap.size 3 1 u v.length (is v)) → ∃ A c, x = .returned (.slice A v.length c) ∧ Has w' w'.heap.size A (is v) := fun w w' v x ⟨u, hx, ho⟩ => by
    obtain ⟨A, c, rfl⟩ := own_slice ho
    exact ⟨A, c, hx, Has.own ho⟩
  rcases hn : ans intsB l e with ⟨c | v, l'⟩
  · rw [hn] at hs hS
    refine ⟨[], l', c, fun w hR => (rInts_any g l e w hR hl hb).mono fun x w' hp => ?_, Nat.zero_le _, hS, hs⟩
    unfold ReadPost at hp; rw [hn] at hp
    exact ⟨⟨none, 0, hp.1, .inl rfl⟩, hp.2⟩
  · rw [hn] at hs hS
    have hv : v.length ≤ maxLen := by
      have hk : ∀ (k : Nat) (acc l r v : List Int), numsB acc k l = (.ok v, r) → v.length = acc.length + k := by
        intro k
        induction k with
        | zero => intro acc l r v h; simp only [numsB] at h; cases h; rfl
        | succ k ih =>
          intro acc l r v h
          unfold numsB at h
          rcases hq : number l with ⟨c | n, r'⟩
          · rw [hq] at h; cases h
          · rw [hq] at h
            have := ih _ _ _ _ h
            rw [this, List.length_append]; simp; omega
      unfold ans at hn
      by_cases he : e = 0
      · rw [if_pos he] at hn
        unfold intsB at hn
        rcases hL : lengthB l with ⟨c | k, r⟩
        · rw [hL] at hn; cases hn
        · rw [hL] at hn
          have h1 := hk _ _ _ _ _ hn
          have h2 := lengthB_bd l k r hL
          unfold maxLen
          simp at h1
          omega
      · rw [if_neg he] at hn; cases hn
    refine ⟨v, l', 0, fun w hR => (rInts_any g l e w hR hl hb).mono fun x w' hp => ?_, hv, hS, hs⟩
    unfold ReadPost at hp; rw [hn] at hp
    exact ⟨own w w' v x hp.1, hp.2⟩
/-- The comparison of two lists of numbers. -/
theorem ints_cmp (A B : Option Addr) (c d k k' : Nat) (t l : List Int) (w : World) (hA : Has w k A (is t)) (hB : Has w k' B (is l)) (hm : k ≤ w.heap.size) (hm' : k' ≤ w.heap.size) (_ : t.length ≤ maxLen) (hl : l.length ≤ maxLen) :
    Calls Try.prog 26 #[.slice A t.length c, .slice B l.length d] w fun e w' => e = .returned (.bool (decide (t = l))) ∧ w.grownBy w' none := by
  by_cases hlen : t.length = l.length
  · unfold maxLen at hl
    have HA := Lib.hid hA
    have HB := Lib.hid hB
    have hle : (t.length : Int) = (l.length : Int) := by omega
    clear hA hB
    rw [hlen]
    have HE := Lib.hid hlen
    clear hlen hle
    go_enter Try.func26, Try.ntmps26
    go_wp2
    go_loopw [5] (fun si wr => ∃ k : Nat, k ≤ l.length ∧ si = .int .i64 k ∧ Hid (t.take k = l.take k) ∧ w.grownBy wr none) (fun si _ => l.length - (intOf si).toNat)
    case atStart => exact ⟨0, Nat.zero_le _, rfl, Lib.hid rfl, only_refl _ _⟩
    case round =>
      obtain ⟨k, hk, rfl, HT, hg⟩ := hrel
      by_cases hlt : k < l.length
      · have hlt' : k < t.length := by rw [HE.out]; exact hlt
        have ht : (k : Int) < (l.length : Int) := by omega
        have hx : (is t)[k]? = some (.int .i64 t[k]) := by simp [is, hlt']
        have hy : (is l)[k]? = some (.int .i64 l[k]) := by simp [is, hlt]
        obtain ⟨x, ex⟩ : ∃ x, x = t[k] := ⟨_, rfl⟩
        obtain ⟨y, ey⟩ : ∃ y, y = l[k] := ⟨_, rfl⟩
        rw [← ex] at hx
        rw [← ey] at hy
        obtain ⟨b1, o1, rfl, hc1⟩ : ∃ b off, A = some ⟨b, off, none⟩ ∧ wr.cell? ⟨b, off + k, none⟩ = some (.int .i64 x) := by
          rcases HA.out.only hg hm (fun _ h => by cases h) with h0 | ⟨b, off, hA, hb, hc⟩
          · rw [h0] at hx; cases hx
          · exact ⟨b, off, hA, hc k _ hx⟩
        obtain ⟨b2, o2, rfl, hc2⟩ : ∃ b off, B = some ⟨b, off, none⟩ ∧ wr.cell? ⟨b, off + k, none⟩ = some (.int .i64 y) := by
          rcases HB.out.only hg hm' (fun _ h => by cases h) with h0 | ⟨b, off, hA, hb, hc⟩
          · rw [h0] at hy; cases hy
          · exact ⟨b, off, hA, hc k _ hy⟩
        have ht0 : (0 : Int) ≤ (k : Int) := by omega
        have hes : IntKind.i64.wrap ((k : Int) + 1) = (k : Int) + 1 := by rw [IntKind.wrap_i64]; omega
        have HK1 : Hid (t.take (k + 1) = t.take k ++ [x]) := by unfold Hid; rw [List.take_succ_eq_append_getElem hlt', ex]
        have HK2 : Hid (l.take (k + 1) = l.take k ++ [y]) := by unfold Hid; rw [List.take_succ_eq_append_getElem hlt, ey]
        clear hx ex hy ey
        by_cases hxy : x = y
        · subst hxy
          have HN : Hid (t.take (k + 1) = l.take (k + 1)) := by unfold Hid; rw [HK1.out, HK2.out, HT.out]
          go_wp2_with fail
          go_quiet (fail)
          go_wp2_with fail
          go_roundw
          case rel => exact ⟨k + 1, by omega, by go_num, HN, only_drewN hg _⟩
          case measure => simp [intOf]; omega
        · have hN : Hid (decide (t = l) = false) := by
            unfold Hid
            rw [decide_eq_false_iff_not]
            intro e
            subst e
            have h1 := HK1.out
            rw [HK2.out] at h1
            have := List.append_cancel_left h1
            simp at this
            exact hxy this.symm
          have hxb : (x == y) = false := by rw [beq_eq_false_iff_ne]; exact hxy
          go_wp2_with fail
          go_quiet (fail)
          go_wp2_with fail
          go_ret
          exact ⟨by rw [hN.out]; rfl, only_drewN hg _⟩
      · have ht : ¬ (k : Int) < (l.length : Int) := by omega
        have hN : Hid (decide (t = l) = true) := by
          unfold Hid
          rw [decide_eq_true_iff]
          have h1 := HT.out
          rw [List.take_of_length_le (l := t) (by rw [HE.out]; omega), List.take_of_length_le (l := l) (by omega)] at h1
          exact h1
        go_wp2_with fail
        go_ret
        exact ⟨by rw [hN.out]; rfl, hg⟩
  · have hN : decide (t = l) = false := by rw [decide_eq_false_iff_not]; intro e; exact hlen (by rw [e])
    rw [hN]
    have hq : ((t.length : Int) == (l.length : Int)) = false := by rw [beq_eq_false_iff_ne]; omega
    have hq2 : ¬ (t.length : Int) = (l.length : Int) := by omega
    clear hA hB hN
    go_enter Try.func26, Try.ntmps26
    go_wp2
    go_ret
    exact ⟨rfl, only_refl _ _⟩
end Go.Proofs.Ytjcanlnnadnodaa
