/- Readers as plain states: bytes left and the error; what Int, Text and Fail make of them, in the program and in the reference. Conditions: fewer than 2^40 bytes. -/
import Derived.Test.YtcmpeohooiehcaaRf6
import Derived.Test.YtcmpeohooiehcaaPp
namespace Go.Proofs.Ytcmpeohooiehcaa
open Go.RowKit Go.Deep Go.ChangeShapes
/-- Bytes left, and the error. -/
abbrev RS := List Int × Int
def RS.ok (s : RS) : Prop := s.1.length ≤ 1099511627776 ∧ bytesOk s.1
def vI (s : RS) : Int := match (ans number s.1 s.2).1 with
  | .ok n => n
  | .error _ => 0
def stI (s : RS) : RS := match ans number s.1 s.2 with
  | (.ok _, l) => (l, 0)
  | (.error c, l) => (l, c)
def vT (s : RS) : ByteArray := match (ans textB s.1 s.2).1 with
  | .ok t => strOfNums t
  | .error _ => { data := #[] }
def stT (s : RS) : RS := match ans textB s.1 s.2 with
  | (.ok _, l) => (l, 0)
  | (.error c, l) => (l, c)
def flS (s : RS) (f : Int) : RS := (s.1, failOf s.2 f)
theorem suf_ok {l l' p : List Int} (hp : l = p ++ l') (hb : bytesOk l) : bytesOk l' ∧ l'.length ≤ l.length :=
  ⟨fun x hx => hb x (by rw [hp]; simp [hx]), by rw [hp]; simp⟩
theorem stI_suf (s : RS) : ∃ p, s.1 = p ++ (stI s).1 := by
  unfold stI ans
  by_cases h : s.2 = 0
  · rw [if_pos h]
    obtain ⟨p, hp⟩ := number_suffix s.1
    rcases hn : number s.1 with ⟨c | n, l⟩
    · rw [hn] at hp; exact ⟨p, hp⟩
    · rw [hn] at hp; exact ⟨p, hp⟩
  · rw [if_neg h]; exact ⟨[], rfl⟩
theorem textB_suffix (l : List Int) : ∃ p, l = p ++ (textB l).2 := by
  obtain ⟨p, hp⟩ := lengthB_suffix l
  unfold textB
  rcases hn : lengthB l with ⟨c | n, r⟩
  · rw [hn] at hp; exact ⟨p, hp⟩
  · rw [hn] at hp
    dsimp only at hp ⊢
    split
    · exact ⟨p, hp⟩
    · refine ⟨p ++ r.take n.toNat, ?_⟩
      rw [List.append_assoc, List.take_append_drop]; exact hp
theorem stT_suf (s : RS) : ∃ p, s.1 = p ++ (stT s).1 := by
  unfold stT ans
  by_cases h : s.2 = 0
  · rw [if_pos h]
    obtain ⟨p, hp⟩ := textB_suffix s.1
    rcases hn : textB s.1 with ⟨c | n, l⟩
    · rw [hn] at hp; exact ⟨p, hp⟩
    · rw [hn] at hp; exact ⟨p, hp⟩
  · rw [if_neg h]; exact ⟨[], rfl⟩
theorem RS.ok.stI {s : RS} (h : s.ok) : (stI s).ok := by
  obtain ⟨p, hp⟩ := stI_suf s
  have := suf_ok hp h.2
  exact ⟨by have := h.1; omega, this.1⟩
theorem RS.ok.stT {s : RS} (h : s.ok) : (stT s).ok := by
  obtain ⟨p, hp⟩ := stT_suf s
  have := suf_ok hp h.2
  exact ⟨by have := h.1; omega, this.1⟩
theorem RS.ok.flS {s : RS} (h : s.ok) (f : Int) : (flS s f).ok := h
theorem vI_bd (s : RS) : I64 (vI s) := by
  unfold vI ans
  by_cases h : s.2 = 0
  · rw [if_pos h]
    have hb := number_bd s.1
    rcases hn : (number s.1).1 with c | n
    · show I64 0
      exact ⟨by decide, by decide⟩
    · exact hb n hn
  · rw [if_neg h]
    show I64 0
    exact ⟨by decide, by decide⟩
theorem stI_err {s : RS} (h : s.2 ≠ 0) : stI s = s := by unfold stI ans; rw [if_neg h]
theorem stT_err {s : RS} (h : s.2 ≠ 0) : stT s = s := by unfold stT ans; rw [if_neg h]
/-- The program's Reader in a state. -/
def Rp (w : World) (g : Nat) (s : RS) : Prop := Rdr w g s.1 s.2 ∧ s.ok
theorem Rp.lt {w : World} {g : Nat} {s : RS} (h : Rp w g s) : g < w.heap.size := h.1.lt
theorem Rp.off {w w' : World} {g : Nat} {s : RS} (h : Rp w g s) (hg : w.grownBy w' none) : Rp w' g s := ⟨h.1.only hg (fun _ e => by cases e), h.2⟩
/-- A later block turned: the Reader stands. -/
theorem Rp.later {w w' : World} {g q : Nat} {s : RS} (h : Rp w g s) (hg : w.grownBy w' (some q)) (hq : g < q) : Rp w' g s := ⟨h.1.only hg (fun k e => by cases e; exact hq), h.2⟩
theorem rpInt (g : Nat) (s : RS) (w : World) (h : Rp w g s) :
    Calls Try.prog 53 #[.pointer (some ⟨g, 0, none⟩)] w fun e w' => e = .returned (.int .i64 (vI s)) ∧ Rp w' g (stI s) ∧ w.grownBy w' (some g) :=
  (rInt_any g s.1 s.2 w h.1 h.2.1 h.2.2).mono fun e w' hp => by
    have ho := h.2.stI
    unfold vI Rp
    unfold stI at ho ⊢
    unfold ReadPost at hp
    rcases hn : ans number s.1 s.2 with ⟨c | n, l⟩
    · rw [hn] at hp ho; exact ⟨hp.1, ⟨hp.2.1, ho⟩, hp.2.2⟩
    · rw [hn] at hp ho
      obtain ⟨⟨v, e1, rfl⟩, h2, h3⟩ := hp
      exact ⟨e1, ⟨h2, ho⟩, h3⟩
theorem rpText (g : Nat) (s : RS) (w : World) (h : Rp w g s) :
    Calls Try.prog 54 #[.pointer (some ⟨g, 0, none⟩)] w fun e w' => e = .returned (.string (vT s)) ∧ Rp w' g (stT s) ∧ w.grownBy w' (some g) :=
  (rText_any g s.1 s.2 w h.1 h.2.1 h.2.2).mono fun e w' hp => by
    have ho := h.2.stT
    unfold vT Rp
    unfold stT at ho ⊢
    unfold ReadPost at hp
    rcases hn : ans textB s.1 s.2 with ⟨c | n, l⟩
    · rw [hn] at hp ho; exact ⟨hp.1, ⟨hp.2.1, ho⟩, hp.2.2⟩
    · rw [hn] at hp ho
      obtain ⟨⟨v, e1, rfl⟩, h2, h3⟩ := hp
      exact ⟨e1, ⟨h2, ho⟩, h3⟩
theorem rpFail (g : Nat) (s : RS) (f : Int) (w : World) (h : Rp w g s) :
    Calls Try.prog 67 #[.pointer (some ⟨g, 0, none⟩), .int .i64 f] w fun e w' => e = .returned (.tuple #[]) ∧ Rp w' g (flS s f) ∧ w.grownBy w' (some g) :=
  (fail_any g s.1 s.2 f w h.1).mono fun _ _ hp => ⟨hp.1, ⟨hp.2.1, h.2.flS f⟩, hp.2.2⟩
/-- The reference's Reader in a state. -/
def Rq (lim : Nat) (w : World) (g : Nat) (s : RS) : Prop := Rdf lim w g s.1 s.2 ∧ s.ok
theorem Rq.lt {lim : Nat} {w : World} {g : Nat} {s : RS} (h : Rq lim w g s) : g < w.heap.size := h.1.lt
theorem Rq.off {lim : Nat} {w w' : World} {g : Nat} {s : RS} (h : Rq lim w g s) (hg : w.grownBy w' none) : Rq lim w' g s := ⟨h.1.only hg (fun _ e => by cases e), h.2⟩
theorem Rq.later {lim : Nat} {w w' : World} {g q : Nat} {s : RS} (h : Rq lim w g s) (hg : w.grownBy w' (some q)) (hq : lim ≤ q ∧ g ≠ q) : Rq lim w' g s := ⟨h.1.only hg (fun k e => by cases e; exact hq), h.2⟩
theorem rqInt {lim : Nat} (g : Nat) (s : RS) (w : World) (h : Rq lim w g s) :
    Calls Try.prog 57 #[.pointer (some ⟨g, 0, none⟩)] w fun e w' => e = .returned (.int .i64 (vI s)) ∧ Rq lim w' g (stI s) ∧ w.grownBy w' (some g) :=
  (rfInt_any g s.1 s.2 w h.1 h.2.2).mono fun e w' hp => by
    have ho := h.2.stI
    unfold vI Rq
    unfold stI at ho ⊢
    unfold RefPost at hp
    rcases hn : ans number s.1 s.2 with ⟨c | n, l⟩
    · rw [hn] at hp ho; exact ⟨hp.1, ⟨hp.2.1, ho⟩, hp.2.2⟩
    · rw [hn] at hp ho
      obtain ⟨⟨v, e1, rfl⟩, h2, h3⟩ := hp
      exact ⟨e1, ⟨h2, ho⟩, h3⟩
theorem rqText {lim : Nat} (g : Nat) (s : RS) (w : World) (h : Rq lim w g s) :
    Calls Try.prog 58 #[.pointer (some ⟨g, 0, none⟩)] w fun e w' => e = .returned (.string (vT s)) ∧ Rq lim w' g (stT s) ∧ w.grownBy w' (some g) :=
  (rfText_any g s.1 s.2 w h.1 h.2.2).mono fun e w' hp => by
    have ho := h.2.stT
    unfold vT Rq
    unfold stT at ho ⊢
    unfold RefPost at hp
    rcases hn : ans textB s.1 s.2 with ⟨c | n, l⟩
    · rw [hn] at hp ho; exact ⟨hp.1, ⟨hp.2.1, ho⟩, hp.2.2⟩
    · rw [hn] at hp ho
      obtain ⟨⟨v, e1, rfl⟩, h2, h3⟩ := hp
      exact ⟨e1, ⟨h2, ho⟩, h3⟩
theorem rqFail {lim : Nat} (g : Nat) (s : RS) (f : Int) (w : World) (h : Rq lim w g s) :
    Calls Try.prog 59 #[.pointer (some ⟨g, 0, none⟩), .int .i64 f] w fun e w' => e = .returned (.tuple #[]) ∧ Rq lim w' g (flS s f) ∧ w.grownBy w' (some g) :=
  (rfFail_any g s.1 s.2 f w h.1).mono fun _ _ hp => ⟨hp.1, ⟨hp.2.1, h.2.flS f⟩, hp.2.2⟩
/-- A dot. -/
def s3 (s : RS) : RS := stI (stI (stI s))
def dotV (s : RS) : Dt := (vI s, vI (stI s), vI (stI (stI s)))
theorem RS.ok.s3 {s : RS} (h : s.ok) : (s3 s).ok := h.stI.stI.stI
theorem s3_err {s : RS} (h : s.2 ≠ 0) : s3 s = s := by unfold s3; rw [stI_err h, stI_err h, stI_err h]
def dotsT : Nat → RS → RS
  | 0, s => s
  | k + 1, s => s3 (dotsT k s)
def dotsV : Nat → RS → List Dt
  | 0, _ => []
  | k + 1, s => dotsV k s ++ [dotV (dotsT k s)]
theorem dotsV_len : ∀ (k : Nat) (s : RS), (dotsV k s).length = k
  | 0, _ => rfl
  | k + 1, s => by rw [dotsV, List.length_append, dotsV_len k s]; rfl
theorem dotsT_ok : ∀ (k : Nat) (s : RS), s.ok → (dotsT k s).ok
  | 0, _, h => h
  | k + 1, s, h => (dotsT_ok k s h).s3
theorem dotsT_err : ∀ (j k : Nat) (s : RS), (dotsT k s).2 ≠ 0 → dotsT (k + j) s = dotsT k s
  | 0, _, _, _ => rfl
  | j + 1, k, s, h => by
    rw [← Nat.add_assoc, dotsT, dotsT_err j k s h, s3_err h]
theorem dotV_w (s : RS) : W64 (dotV s) := ⟨vI_bd _, vI_bd _, vI_bd _⟩
theorem dotsV_w : ∀ (k : Nat) (s : RS), ∀ p ∈ dotsV k s, W64 p
  | 0, _, p, h => by cases h
  | k + 1, s, p, h => by
    rw [dotsV] at h
    rcases List.mem_append.1 h with h | h
    · exact dotsV_w k s p h
    · rw [List.mem_singleton] at h; rw [h]; exact dotV_w _
/-- What is read as an operation: the states between. -/
def t1 (s : RS) : RS := s3 s
def t2 (s : RS) : RS := stI (t1 s)
def t3 (s : RS) : RS := stI (t2 s)
def t4 (s : RS) : RS := stI (t3 s)
def t5 (s : RS) : RS := stI (t4 s)
def t6 (s : RS) : RS := stT (t5 s)
def t7 (s : RS) : RS := stT (t6 s)
def t8 (s : RS) : RS := stI (t7 s)
def cntS (s : RS) : Nat := if 0 ≤ vI (t8 s) ∧ vI (t8 s) ≤ 8 then (vI (t8 s)).toNat else 0
def t10 (s : RS) : RS := if 0 ≤ vI (t8 s) ∧ vI (t8 s) ≤ 8 then stI (t8 s) else flS (stI (t8 s)) 4
def endS (s : RS) : RS := dotsT (cntS s) (t10 s)
def rdots (s : RS) : List Dt := dotsV (cntS s) (t10 s)
theorem cntS_le (s : RS) : cntS s ≤ 8 := by unfold cntS; split <;> omega
theorem t8_ok {s : RS} (h : s.ok) : (t8 s).ok := h.s3.stI.stI.stI.stI.stT.stT.stI
theorem t10_ok {s : RS} (h : s.ok) : (t10 s).ok := by
  unfold t10
  split
  · exact (t8_ok h).stI
  · exact (t8_ok h).stI.flS 4
theorem endS_ok {s : RS} (h : s.ok) : (endS s).ok := dotsT_ok _ _ (t10_ok h)
end Go.Proofs.Ytcmpeohooiehcaa
