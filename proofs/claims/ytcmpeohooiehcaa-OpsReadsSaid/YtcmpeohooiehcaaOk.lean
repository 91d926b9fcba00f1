/- Words of OpsReads: texts that were read are short; bytes turned. No condition of the program's own. -/
import Derived.Test.YtcmpeohooiehcaaOj
namespace Go.Proofs.Ytcmpeohooiehcaa
open Go.RowKit Go.Deep Go.ChangeShapes
theorem vT_size (s : RS) : (vT s).size ≤ 65535 := by
  unfold vT ans
  by_cases h0 : s.2 = 0
  · rw [if_pos h0]
    rcases hn : textB s.1 with ⟨c | n, r⟩
    · show ByteArray.size { data := #[] } ≤ 65535
      decide
    · dsimp only
      rw [strOfNums_size]
      unfold textB lengthB at hn
      rcases hm : number s.1 with ⟨c' | m, q⟩
      · rw [hm] at hn; dsimp only at hn; injection hn with h1 _; cases h1
      · rw [hm] at hn
        dsimp only at hn
        by_cases hr : m < 0 ∨ 65535 < m
        · rw [if_pos hr] at hn; dsimp only at hn; injection hn with h1 _; cases h1
        · rw [if_neg hr] at hn
          dsimp only at hn
          by_cases hq : q.length < m.toNat
          · rw [if_pos hq] at hn; injection hn with h1 _; cases h1
          · rw [if_neg hq] at hn
            injection hn with h1 h2
            injection h1 with h1
            rw [← h1, List.length_take]
            omega
  · rw [if_neg h0]
    show ByteArray.size { data := #[] } ≤ 65535
    decide
theorem opV_ok (s : RS) (h : (rdots s).length ≤ 8) : OkO (opV s).d (opV s).e (opV s).s (opV s).coll (opV s).ver (opV s).kind (opV s).n (opV s).time (opV s).key (opV s).text (opV s).l :=
  ⟨⟨vI_bd _, vI_bd _, vI_bd _⟩, fun m hm => by
    simp only [List.mem_cons, List.not_mem_nil, or_false] at hm
    rcases hm with rfl | rfl | rfl | rfl <;> exact vI_bd _, vI_bd _, by have := vT_size (t5 s); show (vT (t5 s)).size ≤ _; omega, by have := vT_size (t6 s); show (vT (t6 s)).size ≤ _; omega, dotsV_w _ _, by show (rdots s).length ≤ _; omega⟩
/-- What was read well is written as it stood. -/
theorem read_back (l : List Int) (hb : bytesOk l) (h : readE (opV (l, 0)) (endE (l, 0)) = 0) : readV (opV (l, 0)) (endE (l, 0)) = opV (l, 0) ∧ (opV (l, 0)).bytes = l ∧ (rdots (l, 0)).length ≤ 8 := by
  refine ⟨by unfold readV; rw [if_pos h], ?_⟩
  have he : endE (l, 0) = 0 := by
    unfold readE at h
    split at h
    · assumption
    · exact absurd h (by assumption)
  exact bytes_parse l hb he
theorem bytes_set {X : List Int} (h : bytesOk X) (m : Nat) (z : Int) (h1 : 0 ≤ z) (h2 : z ≤ 255) : bytesOk (X.set m z) := fun x hx => by
  rcases List.mem_or_eq_of_mem_set hx with h3 | h3
  · exact h x h3
  · omega
theorem bytes_take {X : List Int} (h : bytesOk X) (n : Nat) : bytesOk (X.take n) := fun x hx => h x (List.mem_of_mem_take hx)
theorem bytes_app {X Y : List Int} (h : bytesOk X) (h2 : bytesOk Y) : bytesOk (X ++ Y) := fun x hx => by
  rcases List.mem_append.1 hx with h3 | h3
  · exact h x h3
  · exact h2 x h3
theorem tdiv_i64 {c : Int} (h : I64 c) : I64 (Int.tdiv c 2) := by
  unfold I64 at h ⊢
  rcases Int.le_total 0 c with h0 | h0
  · rw [Int.tdiv_eq_ediv_of_nonneg h0]
    omega
  · have e : Int.tdiv c 2 = -((-c) / 2) := by
      rw [← Int.tdiv_eq_ediv_of_nonneg (by omega), Int.neg_tdiv, Int.neg_neg]
    rw [e]
    omega
theorem few_fw (d e s coll ver kind n time : Int) (key text : ByteArray) (l : List Dt) (h : I64 d ∧ I64 e ∧ I64 s ∧ I64 coll ∧ I64 ver ∧ I64 kind ∧ I64 n ∧ I64 time) (hd : ∀ p ∈ l, I64 p.1 ∧ I64 p.2.1 ∧ I64 p.2.2) (hf : fewP key text l = true) : Fw ⟨d, e, s, coll, ver, kind, n, time, key, text, l⟩ := by
  have hf' : key.size ≤ 60 ∧ text.size ≤ 60 ∧ l.length ≤ 12 := by
    unfold fewP at hf
    simpa using hf
  refine ⟨⟨⟨h.1, h.2.1, h.2.2.1⟩, fun m hm => ?_, h.2.2.2.2.2.2.1, by dsimp only; omega, by dsimp only; omega, hd, by dsimp only; omega⟩, hf'.1, hf'.2.1, hf'.2.2⟩
  simp only [List.mem_cons, List.not_mem_nil, or_false] at hm
  rcases hm with rfl | rfl | rfl | rfl
  · exact h.2.2.2.1
  · exact h.2.2.2.2.1
  · exact h.2.2.2.2.2.1
  · exact h.2.2.2.2.2.2.2
/-- A row of bytes: what it reads, and its room. -/
structure Bw (w : World) (A : Option Addr) (c : Nat) (l : List Int) : Prop where
  has : Has w w.heap.size A (bs l)
  cap : l.length ≤ c
  byt : bytesOk l
  len : l.length ≤ 1073741824
theorem Bw.up {w w' : World} {A : Option Addr} {c : Nat} {l : List Int} (h : Bw w A c l) (g : w.grownBy w' none) : Bw w' A c l := ⟨h.has.up g, h.cap, h.byt, h.len⟩
end Go.Proofs.Ytcmpeohooiehcaa
