/- Words of OpsBytes and OpsReads: operations as values, what Good makes of them, rows that stand apart from two blocks. No condition of the program's own. -/
import Derived.Test.YtcmpeohooiehcaaPz
import Derived.Test.YtcmpeohooiehcaaRby
import Derived.Test.YtcmpeohooiehcaaSnr
namespace Go.Proofs.Ytcmpeohooiehcaa
open Go.RowKit Go.Deep Go.ChangeShapes
theorem keyP_ok (r : Nat) : textOk (keyP r) ∧ (keyP r).size ≠ 0 := by
  unfold keyP
  split
  · exact ⟨⟨by decide, fun i h => by
      have : i = 0 := by simp [ByteArray.size] at h; omega
      subst this; exact (by decide : 32 ≤ (97 : UInt8).toNat ∧ (97 : UInt8).toNat ≠ 127)⟩, by decide⟩
  · split
    · exact ⟨⟨by decide, fun i h => by
        have : i = 0 := by simp [ByteArray.size] at h; omega
        subst this; exact (by decide : 32 ≤ (98 : UInt8).toNat ∧ (98 : UInt8).toNat ≠ 127)⟩, by decide⟩
    · exact ⟨⟨by decide, fun i h => by
        have : i = 0 := by simp [ByteArray.size] at h; omega
        subst this; exact (by decide : 32 ≤ (120 : UInt8).toNat ∧ (120 : UInt8).toNat ≠ 127)⟩, by decide⟩
theorem textP_ok (r : Nat) : textOk (textP r) := by
  unfold textP
  split
  · exact tok_0'
  · split
    · exact ⟨by decide, fun i h => by
        have : i = 0 := by simp [ByteArray.size] at h; omega
        subst this; exact (by decide : 32 ≤ (116 : UInt8).toNat ∧ (116 : UInt8).toNat ≠ 127)⟩
    · split
      · exact ⟨by decide, fun i h => by
          rcases (show i = 0 ∨ i = 1 by simp [ByteArray.size] at h; omega) with rfl | rfl
          · exact (by decide : 32 ≤ (85 : UInt8).toNat ∧ (85 : UInt8).toNat ≠ 127)
          · exact (by decide : 32 ≤ (32 : UInt8).toNat ∧ (32 : UInt8).toNat ≠ 127)⟩
      · exact ⟨by decide, fun i h => by
          rcases (show i = 0 ∨ i = 1 by simp [ByteArray.size] at h; omega) with rfl | rfl
          · exact (by decide : 32 ≤ (32 : UInt8).toNat ∧ (32 : UInt8).toNat ≠ 127)
          · exact (by decide : 32 ≤ (118 : UInt8).toNat ∧ (118 : UInt8).toNat ≠ 127)⟩
theorem good_ok (d e s coll ver kind n time : Int) (a b : Nat) (l : List Dt) :
    checkF (d % 6) (1 + e % 3) (1 + s % 30) (coll % 3) (1 + ver % 3) (1 + kind % 5) (nG (1 + kind % 5) n) (time % 50) (keyP a) (textP b) (dotsF (1 + kind % 5) l) = 0 := by
  unfold checkF gateP
  rw [if_neg (fun h => h ⟨by omega, by omega⟩), if_neg (fun h => h ⟨by omega, by omega⟩), if_neg (fun h => h ⟨by omega, by omega⟩), if_neg (fun h => h ⟨by omega, by omega⟩), if_neg (fun h => h ⟨by omega, by omega⟩), if_neg (fun h => h ⟨by omega, by omega⟩), if_neg (fun h => h ⟨by omega, by omega⟩), if_neg (fun h => h (keyP_ok a).1), if_neg (fun h => h (textP_ok b))]
  have hk : 1 ≤ 1 + kind % 5 ∧ 1 + kind % 5 ≤ 5 := by omega
  obtain ⟨K, hK⟩ : ∃ K, 1 + kind % 5 = K := ⟨_, rfl⟩
  rw [hK] at hk ⊢
  clear hK
  unfold kindF
  by_cases h3 : K = 3
  · subst h3
    rw [if_pos rfl, if_neg (keyP_ok a).2]
    unfold dotsP dotsF
    rw [if_pos rfl, if_neg (by have := dotsG_len l; omega), (risesB_iff _).2 (dotsG_rises l)]
    rfl
  · rw [if_neg h3]
    unfold kindP nG
    rcases (show K = 1 ∨ K = 2 ∨ K = 4 ∨ K = 5 by omega) with rfl | rfl | rfl | rfl
    · rw [if_neg (by omega), if_neg (keyP_ok a).2, if_neg (by omega)]
    · rw [if_neg (by omega), if_neg (keyP_ok a).2, if_neg (by omega)]
    · rw [if_neg (by omega), if_neg (keyP_ok a).2, if_pos rfl, if_pos rfl]
      by_cases hz : n % 12 - 6 = 0
      · rw [if_pos hz]; decide
      · rw [if_neg hz, if_neg hz, if_pos ⟨by omega, by omega⟩]
    · rw [if_pos rfl, show (if (5 : Int) = 4 then (if n % 12 - 6 = 0 then (6 : Int) else n % 12 - 6) else if (5 : Int) = 5 then n % 30 else n) = n % 30 by simp, if_pos ⟨by omega, by omega⟩]

def goodV (v : OpV) : OpV := ⟨v.d % 6, 1 + v.e % 3, 1 + v.s % 30, v.coll % 3, 1 + v.ver % 3, 1 + v.kind % 5, nG (1 + v.kind % 5) v.n, v.time % 50, keyP (v.key.size % 3), textP (v.text.size % 4), dotsF (1 + v.kind % 5) v.l⟩
/-- An operation that is not too much. -/
structure Fw (v : OpV) : Prop where
  ok : OkO v.d v.e v.s v.coll v.ver v.kind v.n v.time v.key v.text v.l
  key : v.key.size ≤ 60
  text : v.text.size ≤ 60
  few : v.l.length ≤ 12
def Gd (v : OpV) : Prop := v.check = 0 ∧ v.l.length ≤ 8
theorem good_fw (v : OpV) (hn : I64 v.n) : Fw (goodV v) ∧ Gd (goodV v) := by
  have h := good_sm v.d v.e v.s v.coll v.ver v.kind v.n v.time (v.key.size % 3) (v.text.size % 4) v.l hn
  have hk : (goodV v).key.size ≤ 2 := h.key
  have ht : (goodV v).text.size ≤ 2 := h.text
  have hl : (goodV v).l.length ≤ 8 := h.few
  exact ⟨⟨h.ok, by omega, by omega, by omega⟩, good_ok v.d v.e v.s v.coll v.ver v.kind v.n v.time (v.key.size % 3) (v.text.size % 4) v.l, hl⟩
theorem goodv_any (v : OpV) (A : Option Addr) (c : Nat) (w : World) (h : Fw v) (hA : Has w w.heap.size A (dc v.l)) (hc : v.l.length ≤ c) :
    Calls Try.prog 12 #[.agg #[.int .i64 v.d, .int .i64 v.e, .int .i64 v.s, .int .i64 v.coll, .int .i64 v.ver, .int .i64 v.kind, .string v.key, .string v.text, .int .i64 v.n, .int .i64 v.time, .slice A v.l.length c]] w fun e' w' => ∃ (AL : Option Addr) (cL : Nat), e' = .returned (.agg #[.int .i64 (goodV v).d, .int .i64 (goodV v).e, .int .i64 (goodV v).s, .int .i64 (goodV v).coll, .int .i64 (goodV v).ver, .int .i64 (goodV v).kind, .string (goodV v).key, .string (goodV v).text, .int .i64 (goodV v).n, .int .i64 (goodV v).time, .slice AL (goodV v).l.length cL]) ∧ w'.ownsRow w.heap.size 23 3 (.slice AL (goodV v).l.length cL) (goodV v).l.length (dc (goodV v).l) ∧ w.grownBy w' none :=
  good_any v.d v.e v.s v.coll v.ver v.kind v.n v.time v.key v.text A c v.l w h.ok.dot.1 h.ok.dot.2.1 h.ok.dot.2.2 (h.ok.nums _ (by simp)) (h.ok.nums _ (by simp)) (h.ok.nums _ (by simp)) h.ok.n (h.ok.nums _ (by simp)) (by have := h.key; unfold maxLen; omega) (by have := h.text; unfold maxLen; omega) hA h.ok.dots (by have := h.few; omega) hc
/-- A row that stands in neither of two blocks. -/
def Rw (w : World) (q1 q2 : Nat) (A : Option Addr) (c : Nat) (l : List Dt) : Prop :=
  (dc l = [] ∨ ∃ b off, A = some ⟨b, off, none⟩ ∧ b < w.heap.size ∧ b ≠ q1 ∧ b ≠ q2 ∧ ∀ j u, (dc l)[j]? = some u → w.cell? ⟨b, off + j, none⟩ = some u) ∧ l.length ≤ c
theorem Rw.has {w : World} {q1 q2 : Nat} {A : Option Addr} {c : Nat} {l : List Dt} (h : Rw w q1 q2 A c l) : Has w w.heap.size A (dc l) := by
  rcases h.1 with h | ⟨b, off, hA, hb, _, _, hc⟩
  · exact .inl h
  · exact .inr ⟨b, off, hA, hb, hc⟩
theorem Rw.keep {w w' : World} {q1 q2 : Nat} {A : Option Addr} {c : Nat} {l : List Dt} {r : Option Nat} (h : Rw w q1 q2 A c l) (hg : w.grownBy w' r) (hr : ∀ k, r = some k → k = q1 ∨ k = q2) : Rw w' q1 q2 A c l := by
  refine ⟨?_, h.2⟩
  rcases h.1 with h | ⟨b, off, hA, hb, h1, h2, hc⟩
  · exact .inl h
  · exact .inr ⟨b, off, hA, Nat.lt_of_lt_of_le hb hg.size, h1, h2, fun j u hu => (World.cell?_of_block (hg.block b hb (fun e => by rcases hr b e.symm with h | h <;> omega))).trans (hc j u hu)⟩
theorem Rw.of {w : World} {q1 q2 lim : Nat} {A : Option Addr} {c : Nat} {l : List Dt} (h : Has w lim A (dc l)) (h1 : lim ≤ q1) (h2 : lim ≤ q2) (hw : lim ≤ w.heap.size) (hc : l.length ≤ c) : Rw w q1 q2 A c l := by
  refine ⟨?_, hc⟩
  rcases h with h | ⟨b, off, hA, hb, h⟩
  · exact .inl h
  · exact .inr ⟨b, off, hA, by omega, by omega, by omega, h⟩
theorem Rw.own {w : World} {base q1 q2 : Nat} {A : Option Addr} {c : Nat} {l : List Dt} {va vb : OpV} {ua ub : Value} (h : w.ownsRow base 23 3 (.slice A l.length c) l.length (dc l)) (h1 : OpB w q1 va.d va.e va.s va.coll va.ver va.kind va.key va.text va.n va.time ua) (h2 : OpB w q2 vb.d vb.e vb.s vb.coll vb.ver vb.kind vb.key vb.text vb.n vb.time ub) : Rw w q1 q2 A c l := by
  refine ⟨?_, (Vw.own h).1.cap⟩
  by_cases h0 : 0 < l.length
  · obtain ⟨g, rfl, _, hg, _, hc⟩ := own_form_w h h0
    have n1 : g ≠ q1 := by
      rcases own_apart h h1 with e | e
      · cases e
      · intro e2; exact e (by rw [e2]; rfl)
    have n2 : g ≠ q2 := by
      rcases own_apart h h2 with e | e
      · cases e
      · intro e2; exact e (by rw [e2]; rfl)
    exact .inr ⟨g, 0, rfl, hg, n1, n2, fun j u hu => by rw [Nat.zero_add]; exact hc j u hu⟩
  · refine .inl (List.eq_nil_of_length_eq_zero ?_)
    rw [dc_len]
    omega
theorem opB_pos (d e s coll ver kind n time : Int) (key text : ByteArray) (l : List Dt) (h : I64 d) : 0 < (opB d e s coll ver kind n time key text l).length := by
  have := (enc_len d h.1 h.2).1
  simp only [opB, dotB, encs, List.flatMap_cons, List.length_append]
  omega
theorem readV_few (s : RS) (en : Int) : (readV (opV s) en).l.length ≤ 8 := by
  unfold readV
  split
  · show (rdots s).length ≤ 8
    rw [show (rdots s).length = cntS s from dotsV_len _ _]
    exact cntS_le s
  · exact Nat.zero_le _
theorem own_lit0 (w : World) : (w.alloc (.cells #[] 5)).ownsRow w.heap.size 5 1 (.slice (some ⟨w.heap.size, 0, none⟩) 0 0) ([] : List Value).length [] :=
  ⟨rfl, .inr ⟨w.heap.size, 0, #[], rfl, Nat.le_refl _, heap_alloc_new w _, Nat.le_refl _, Nat.zero_le _, rfl, rfl⟩⟩
theorem Has.srcAt {w w' : World} {A : Option Addr} {l : List Int} (h : Has w w.heap.size A (bs l)) (hg : w.grownBy w' none) (c : Nat) : Src Try.prog 1 35 (.slice A l.length c) (bs l).length (bs l) w' := by
  have h := ((h.only hg (Nat.le_refl _) (fun _ h => by cases h)).more hg.size).src (P := Try.prog) (tx := 35) Try.underlying35 c (bs_one _)
  rw [bs_len] at h ⊢
  exact h
end Go.Proofs.Ytcmpeohooiehcaa
