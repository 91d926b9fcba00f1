/- Words of OpsSames: what may be written, injectivity of the bytes. No condition of the program's own. -/
import Derived.Test.YtcmpeohooiehcaaPp
import Derived.Test.YtcmpeohooiehcaaSn
import Derived.Test.YtcmpeohooiehcaaOo
namespace Go.Proofs.Ytcmpeohooiehcaa
open Go.RowKit Go.Deep Go.ChangeShapes
theorem enc_cancel {n m : Int} {r r' : List Int} (hn : I64 n) (hm : I64 m) (h : enc n ++ r = enc m ++ r') : n = m ∧ r = r' := by
  have h1 := number_enc n r hn.1 hn.2
  have h2 := number_enc m r' hm.1 hm.2
  rw [h, h2] at h1
  injection h1 with h3 h4
  injection h3 with h3
  exact ⟨h3.symm, h4.symm⟩
theorem sb_inj {s t : ByteArray} (h : sb s = sb t) : s = t := by
  apply Go.WideShapes.bytes_inj
  unfold sb at h
  apply List.ext_getElem?
  intro i
  have hi := congrArg (fun L : List Int => L[i]?) h
  simp only [List.getElem?_map] at hi
  rcases e1 : s.data.toList[i]? with _ | a <;> rcases e2 : t.data.toList[i]? with _ | b
  · rfl
  · rw [e1, e2] at hi; cases hi
  · rw [e1, e2] at hi; cases hi
  · rw [e1, e2] at hi
    simp only [Option.map_some, Option.some.injEq] at hi
    rw [UInt8.toNat_inj.1 (show a.toNat = b.toNat by omega)]
theorem str_cancel {s t : ByteArray} {r r' : List Int} (hs : s.size ≤ 1048576) (ht : t.size ≤ 1048576) (h : enc s.size ++ (sb s ++ r) = enc t.size ++ (sb t ++ r')) : s = t ∧ r = r' := by
  obtain ⟨h1, h2⟩ := enc_cancel ⟨by omega, by omega⟩ ⟨by omega, by omega⟩ h
  have hl : (sb s).length = (sb t).length := by rw [sb_len, sb_len]; omega
  have := List.append_inj h2 hl
  exact ⟨sb_inj this.1, this.2⟩
/-- An operation that can be written. -/
structure OkO (d e s coll ver kind n time : Int) (key text : ByteArray) (l : List Dt) : Prop where
  dot : W64 (d, e, s)
  nums : ∀ m ∈ [coll, ver, kind, time], I64 m
  n : I64 n
  key : key.size ≤ 1048576
  text : text.size ≤ 1048576
  dots : ∀ p ∈ l, W64 p
  few : l.length ≤ 1048576
theorem dotsB_inj : ∀ (l m : List Dt), (∀ p ∈ l, W64 p) → (∀ p ∈ m, W64 p) → l.length = m.length → ∀ r r', dotsB l ++ r = dotsB m ++ r' → l = m ∧ r = r'
  | [], [], _, _, _, r, r', h => ⟨rfl, h⟩
  | [], _ :: _, _, _, h, _, _, _ => by simp at h
  | _ :: _, [], _, _, h, _, _, _ => by simp at h
  | (a, b, c) :: l, (a', b', c') :: m, hl, hm, hn, r, r', h => by
    have w1 := hl (a, b, c) (by simp)
    have w2 := hm (a', b', c') (by simp)
    have e1 : dotsB ((a, b, c) :: l) ++ r = enc a ++ (enc b ++ (enc c ++ (dotsB l ++ r))) := by simp [dotsB, dotB, encs]
    have e2 : dotsB ((a', b', c') :: m) ++ r' = enc a' ++ (enc b' ++ (enc c' ++ (dotsB m ++ r'))) := by simp [dotsB, dotB, encs]
    rw [e1, e2] at h
    have v1 : I64 a ∧ I64 b ∧ I64 c := w1
    have v2 : I64 a' ∧ I64 b' ∧ I64 c' := w2
    obtain ⟨q1, h⟩ := enc_cancel v1.1 v2.1 h
    obtain ⟨q2, h⟩ := enc_cancel v1.2.1 v2.2.1 h
    obtain ⟨q3, h⟩ := enc_cancel v1.2.2 v2.2.2 h
    obtain ⟨q4, h⟩ := dotsB_inj l m (fun p hp => hl p (by simp [hp])) (fun p hp => hm p (by simp [hp])) (by simpa using hn) r r' h
    exact ⟨by rw [q1, q2, q3, q4], h⟩
theorem opB_inj {d e s coll ver kind n time d' e' s' coll' ver' kind' n' time' : Int} {key text key' text' : ByteArray} {l l' : List Dt} (h1 : OkO d e s coll ver kind n time key text l) (h2 : OkO d' e' s' coll' ver' kind' n' time' key' text' l')
    (h : opB d e s coll ver kind n time key text l = opB d' e' s' coll' ver' kind' n' time' key' text' l') :
    d = d' ∧ e = e' ∧ s = s' ∧ coll = coll' ∧ ver = ver' ∧ kind = kind' ∧ key = key' ∧ text = text' ∧ n = n' ∧ time = time' ∧ l = l' := by
  have e1 : ∀ (d e s coll ver kind n time : Int) (key text : ByteArray) (l : List Dt), opB d e s coll ver kind n time key text l = enc d ++ (enc e ++ (enc s ++ (enc coll ++ (enc ver ++ (enc kind ++ (enc time ++ (enc key.size ++ (sb key ++ (enc text.size ++ (sb text ++ (enc n ++ (enc l.length ++ (dotsB l ++ []))))))))))))) := by
    intros; simp [opB, dotB, encs, strs]
  rw [e1, e1] at h
  obtain ⟨q1, h⟩ := enc_cancel h1.dot.1 h2.dot.1 h
  obtain ⟨q2, h⟩ := enc_cancel h1.dot.2.1 h2.dot.2.1 h
  obtain ⟨q3, h⟩ := enc_cancel h1.dot.2.2 h2.dot.2.2 h
  obtain ⟨q4, h⟩ := enc_cancel (h1.nums _ (by simp)) (h2.nums _ (by simp)) h
  obtain ⟨q5, h⟩ := enc_cancel (h1.nums _ (by simp)) (h2.nums _ (by simp)) h
  obtain ⟨q6, h⟩ := enc_cancel (h1.nums _ (by simp)) (h2.nums _ (by simp)) h
  obtain ⟨q7, h⟩ := enc_cancel (h1.nums _ (by simp)) (h2.nums _ (by simp)) h
  obtain ⟨q8, h⟩ := str_cancel h1.key h2.key h
  obtain ⟨q9, h⟩ := str_cancel h1.text h2.text h
  obtain ⟨q10, h⟩ := enc_cancel h1.n h2.n h
  have f1 := h1.few
  have f2 := h2.few
  obtain ⟨q11, h⟩ := enc_cancel ⟨by omega, by omega⟩ ⟨by omega, by omega⟩ h
  obtain ⟨q12, _⟩ := dotsB_inj l l' h1.dots h2.dots (by omega) _ _ h
  exact ⟨q1, q2, q3, q4, q5, q6, q8, q9, q10, q7, q12⟩
theorem encs_byte (l : List Int) : ∀ x ∈ encs l, 0 ≤ x ∧ x ≤ 255 := fun x hx => by
  obtain ⟨n, _, h⟩ := List.mem_flatMap.1 hx
  exact enc_byte n x h
theorem sb_byte (s : ByteArray) : ∀ x ∈ sb s, 0 ≤ x ∧ x ≤ 255 := fun x hx => by
  obtain ⟨b, _, rfl⟩ := List.mem_map.1 hx
  have := b.toNat_lt
  omega
theorem opB_byte (d e s coll ver kind n time : Int) (key text : ByteArray) (l : List Dt) : ∀ x ∈ opB d e s coll ver kind n time key text l, 0 ≤ x ∧ x ≤ 255 := fun x hx => by
  unfold opB dotB strs dotsB at hx
  simp only [List.mem_append, List.mem_flatMap] at hx
  rcases hx with h | h | ⟨s, _, h | h⟩ | h | ⟨p, _, h⟩
  · exact encs_byte _ x h
  · exact encs_byte _ x h
  · exact enc_byte _ x h
  · exact sb_byte _ x h
  · exact encs_byte _ x h
  · exact encs_byte _ x h
theorem insD_w (x : Dt) (hx : W64 x) : ∀ l : List Dt, (∀ p ∈ l, W64 p) → ∀ p ∈ insD l x, W64 p
  | [], _, p, hp => by rw [insD, List.mem_singleton] at hp; rw [hp]; exact hx
  | y :: r, h, p, hp => by
    rw [insD] at hp
    split at hp
    · rcases List.mem_cons.1 hp with rfl | hp
      · exact h _ (by simp)
      · exact insD_w x hx r (fun q hq => h q (by simp [hq])) p hp
    · split at hp
      · exact h p hp
      · rcases List.mem_cons.1 hp with rfl | hp
        · exact hx
        · exact h p hp
theorem foldG_w (l : List Dt) : ∀ p ∈ foldG l, W64 p := by
  have key : ∀ (l : List Dt) (L : List Dt), (∀ p ∈ L, W64 p) → ∀ p ∈ l.foldl (fun L p => insD L (dotG p)) L, W64 p := fun l => by
    induction l with
    | nil => intro L h; exact h
    | cons p r ih =>
      intro L h
      exact ih _ (insD_w _ (by unfold W64 dotG I64; dsimp only; omega) L h)
  exact key l [] (fun p hp => by cases hp)
/-- Such as Good makes them. -/
structure SmO (d e s coll ver kind n time : Int) (key text : ByteArray) (l : List Dt) : Prop where
  d : 0 ≤ d ∧ d ≤ 5
  e : 1 ≤ e ∧ e ≤ 3
  s : 1 ≤ s ∧ s ≤ 30
  coll : 0 ≤ coll ∧ coll ≤ 2
  ver : 1 ≤ ver ∧ ver ≤ 3
  kind : 1 ≤ kind ∧ kind ≤ 5
  n : I64 n
  time : 0 ≤ time ∧ time ≤ 49
  key : key.size ≤ 2
  text : text.size ≤ 2
  dots : ∀ p ∈ l, W64 p
  few : l.length ≤ 8
theorem keyP_small (r : Nat) : (keyP r).size ≤ 2 := by
  unfold keyP
  split
  · decide
  · split <;> decide
theorem textP_small (r : Nat) : (textP r).size ≤ 2 := by
  unfold textP
  split
  · decide
  · split
    · decide
    · split <;> decide
theorem good_sm (d e s coll ver kind n time : Int) (a b : Nat) (l : List Dt) (hn : I64 n) :
    SmO (d % 6) (1 + e % 3) (1 + s % 30) (coll % 3) (1 + ver % 3) (1 + kind % 5) (nG (1 + kind % 5) n) (time % 50) (keyP a) (textP b) (dotsF (1 + kind % 5) l) :=
  { d := by omega
    e := by omega
    s := by omega
    coll := by omega
    ver := by omega
    kind := by omega
    n := by
      unfold nG I64 at *
      split
      · split <;> omega
      · split <;> omega
    time := by omega
    key := keyP_small a
    text := textP_small b
    dots := by
      unfold dotsF
      split
      · exact foldG_w _
      · intro p hp; cases hp
    few := by
      unfold dotsF
      split
      · exact dotsG_len l
      · simp }
theorem SmO.ok {d e s coll ver kind n time : Int} {key text : ByteArray} {l : List Dt} (h : SmO d e s coll ver kind n time key text l) : OkO d e s coll ver kind n time key text l := by
  obtain ⟨h1, h2, h3, h4, h5, h6, h7, h8, h9, h10, h11, h12⟩ := h
  refine ⟨⟨⟨?_, ?_⟩, ⟨?_, ?_⟩, ⟨?_, ?_⟩⟩, fun m hm => ?_, h7, by omega, by omega, h11, by omega⟩
  case refine_7 =>
    simp only [List.mem_cons, List.not_mem_nil, or_false] at hm
    unfold I64
    rcases hm with rfl | rfl | rfl | rfl <;> omega
  all_goals (dsimp only; omega)
/-- The second of the two turned. -/
def Arm9 (w : World) (D E S C V K NN T : Int) (KY TX : ByteArray) (L : List Dt) (qa qb : Nat) (AL : Option Addr) (cL : Nat) (wx : World) : Prop :=
  ∃ (d e s coll ver kind n time : Int) (key text : ByteArray) (M : List Dt) (BL : Option Addr) (dL : Nat), OpB wx qa D E S C V K KY TX NN T (.slice AL L.length cL) ∧ OpB wx qb d e s coll ver kind key text n time (.slice BL M.length dL) ∧ Has wx wx.heap.size AL (dc L) ∧ Has wx wx.heap.size BL (dc M) ∧
    OkO d e s coll ver kind n time key text M ∧ ¬ (D = d ∧ E = e ∧ S = s ∧ C = coll ∧ V = ver ∧ K = kind ∧ KY = key ∧ TX = text ∧ NN = n ∧ T = time ∧ L = M) ∧ w.grownBy wx none
theorem ok_of {d e s coll ver kind n time : Int} {key text : ByteArray} {l : List Dt} (h1 : I64 d) (h2 : I64 e) (h3 : I64 s) (h4 : I64 coll) (h5 : I64 ver) (h6 : I64 kind) (h7 : I64 n) (h8 : I64 time) (h9 : key.size ≤ 4) (h10 : text.size ≤ 4) (h11 : ∀ p ∈ l, W64 p) (h12 : l.length ≤ 9) : OkO d e s coll ver kind n time key text l :=
  ⟨⟨h1, h2, h3⟩, fun m hm => by
    simp only [List.mem_cons, List.not_mem_nil, or_false] at hm
    rcases hm with rfl | rfl | rfl | rfl
    · exact h4
    · exact h5
    · exact h6
    · exact h8, h7, by omega, by omega, h11, by omega⟩
section
variable {S : World → Prop} {LS : List (Nat × (World → Prop))}
theorem holdsC {t : Nat} {l : Array Bool} {w : World} (h : l.getD t true = false → S w) (h2 : Holds LS l w) : Holds ((t, S) :: LS) l w := fun p hp e => by
  rcases List.mem_cons.1 hp with rfl | hp
  · exact h e
  · exact h2 p hp e
theorem moreC {t : Nat} {S' : World → Prop} {LS' : List (Nat × (World → Prop))} (h : ∀ w, S' w → S w) (h2 : ∀ (l : Array Bool) (w : World), Holds LS' l w → Holds LS l w) (l : Array Bool) (w : World) (hh : Holds ((t, S') :: LS') l w) : Holds ((t, S) :: LS) l w :=
  holdsC (fun e => h w (hh _ (.head _) e)) (h2 l w fun p hp => hh p (.tail _ hp))
end
theorem holds5 {t1 t2 t3 t4 t5 : Nat} {S1 S2 S3 S4 S5 : World → Prop} {l : Array Bool} {w : World} (h1 : l.getD t1 true = false → S1 w) (h2 : l.getD t2 true = false → S2 w) (h3 : l.getD t3 true = false → S3 w) (h4 : l.getD t4 true = false → S4 w) (h5 : l.getD t5 true = false → S5 w) : Holds [(t1, S1), (t2, S2), (t3, S3), (t4, S4), (t5, S5)] l w :=
  holdsC h1 (holdsC h2 (holdsC h3 (holdsC h4 (holdsC h5 holds0))))
theorem more5 {t1 t2 t3 t4 t5 : Nat} {S1 S2 S3 S4 S5 S5' : World → Prop} (h5 : ∀ w, S5' w → S5 w) (l : Array Bool) (w : World) (hh : Holds [(t1, S1), (t2, S2), (t3, S3), (t4, S4), (t5, S5')] l w) : Holds [(t1, S1), (t2, S2), (t3, S3), (t4, S4), (t5, S5)] l w :=
  moreC (fun _ h => h) (moreC (fun _ h => h) (moreC (fun _ h => h) (moreC (fun _ h => h) (moreC h5 (fun _ _ h => h))))) l w hh
theorem conv_own {w : World} {base : Nat} {v : Value} {l : List Int} {n : Nat} (h : w.ownsRow base 5 1 v n (bs l)) : (convert 35 9 v).run Try.prog w = .ok (.string (strOfNums l)) w := by
  have hn : n = l.length := by have := h.1; rw [bs_len] at this; omega
  subst hn
  obtain ⟨A, c, rfl⟩ := own_slice h
  have h2 : w.ownsRow base 5 1 (.slice A (bs l).length c) (bs l).length (bs l) := by rw [bs_len]; exact h
  exact conv_string (Has.own h2) c
/-- Two operations in their blocks. -/
def Pair9 (w : World) (D E S C V K NN T : Int) (KY TX : ByteArray) (L : List Dt) (s5 s6 : Value) (wx : World) : Prop :=
  ∃ (qa qb : Nat) (AL : Option Addr) (cL : Nat) (BL : Option Addr) (dL : Nat), s5 = .pointer (some ⟨qa, 0, none⟩) ∧ s6 = .pointer (some ⟨qb, 0, none⟩) ∧ qa ≠ qb ∧ w.heap.size ≤ qb ∧
    OpB wx qa D E S C V K KY TX NN T (.slice AL L.length cL) ∧ OpB wx qb D E S C V K KY TX NN T (.slice BL L.length dL) ∧ (∃ b1, wx.ownsRow b1 23 3 (.slice AL L.length cL) L.length (dc L)) ∧ (∃ b2, wx.ownsRow b2 23 3 (.slice BL L.length dL) L.length (dc L)) ∧ w.grownBy wx none
end Go.Proofs.Ytcmpeohooiehcaa
