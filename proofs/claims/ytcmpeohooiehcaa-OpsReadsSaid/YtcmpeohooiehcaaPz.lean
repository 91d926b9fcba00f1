/- What was written as an operation is read as it was; what is read was so written. It speaks of no program. -/
import Derived.Test.YtcmpeohooiehcaaPw
import Derived.Test.YtcmpeohooiehcaaOi
namespace Go.Proofs.Ytcmpeohooiehcaa
open Go.RowKit Go.Deep
theorem nums_sb (s : ByteArray) : strOfNums (sb s) = s := by
  apply Go.WideShapes.bytes_inj
  rw [strOfNums_data]
  unfold sb
  rw [List.map_map]
  have : (UInt8.ofNat ∘ Int.toNat) ∘ (fun b : UInt8 => (b.toNat : Int)) = id := by
    funext b
    simp
  conv => lhs; arg 1; rw [show ((fun n : Int => UInt8.ofNat n.toNat) ∘ fun b : UInt8 => (b.toNat : Int)) = id from this]
  simp
theorem sb_of (l : List Int) (hb : bytesOk l) : sb (strOfNums l) = l := by
  unfold sb
  rw [strOfNums_data, List.map_map]
  apply List.ext_getElem (by simp)
  intro i h1 h2
  have h := hb l[i] (List.getElem_mem h2)
  simp only [List.getElem_map, Function.comp]
  rw [UInt8.toNat_ofNat']
  omega
/-! Written, then read. -/
theorem rd_num (n : Int) (r : List Int) (h : I64 n) : vI (enc n ++ r, 0) = n ∧ stI (enc n ++ r, 0) = (r, 0) := by
  unfold vI stI ans
  dsimp only
  rw [if_pos rfl, number_enc n r h.1 h.2]
  exact ⟨rfl, rfl⟩
theorem rd_text (s : ByteArray) (r : List Int) (h : s.size ≤ 65535) : vT (enc s.size ++ (sb s ++ r), 0) = s ∧ stT (enc s.size ++ (sb s ++ r), 0) = (r, 0) := by
  have hl : (sb s).length = s.size := sb_len s
  have ht : textB (enc s.size ++ (sb s ++ r)) = (.ok (sb s), r) := by
    unfold textB lengthB
    rw [number_enc _ _ (by omega) (by omega)]
    dsimp only
    rw [if_neg (by omega)]
    dsimp only
    rw [if_neg (by simp only [List.length_append]; omega)]
    rw [List.take_left' (by omega), List.drop_left' (by omega)]
  unfold vT stT ans
  dsimp only
  rw [if_pos rfl, ht]
  exact ⟨nums_sb s, rfl⟩
theorem rd_dot (p : Dt) (r : List Int) (h : W64 p) : dotV (dotB p ++ r, 0) = p ∧ s3 (dotB p ++ r, 0) = (r, 0) := by
  obtain ⟨a, b, c⟩ := p
  have h : I64 a ∧ I64 b ∧ I64 c := h
  have e : dotB (a, b, c) ++ r = enc a ++ (enc b ++ (enc c ++ r)) := by simp [dotB, encs]
  rw [e]
  unfold dotV s3
  have q1 := rd_num a (enc b ++ (enc c ++ r)) h.1
  have q2 := rd_num b (enc c ++ r) h.2.1
  have q3 := rd_num c r h.2.2
  rw [q1.1, q1.2, q2.1, q2.2, q3.1, q3.2]
  exact ⟨rfl, rfl⟩
theorem rd_dots (r : List Int) : ∀ (k : Nat) (l : List Dt), (∀ p ∈ l, W64 p) → k ≤ l.length → dotsV k (dotsB l ++ r, 0) = l.take k ∧ dotsT k (dotsB l ++ r, 0) = (dotsB (l.drop k) ++ r, 0)
  | 0, l, _, _ => ⟨by simp [dotsV], by simp [dotsT]⟩
  | k + 1, l, h, hk => by
    obtain ⟨h1, h2⟩ := rd_dots r k l h (by omega)
    have hlt : k < l.length := by omega
    have hd : l.drop k = l[k] :: l.drop (k + 1) := List.drop_eq_getElem_cons hlt
    have e : dotsB (l.drop k) ++ r = dotB l[k] ++ (dotsB (l.drop (k + 1)) ++ r) := by
      rw [hd, show dotsB (l[k] :: l.drop (k + 1)) = dotB l[k] ++ dotsB (l.drop (k + 1)) from List.flatMap_cons, List.append_assoc]
    have q := rd_dot l[k] (dotsB (l.drop (k + 1)) ++ r) (h _ (List.getElem_mem hlt))
    rw [dotsV, dotsT, h1, h2, e, q.1, q.2, List.take_succ_eq_append_getElem hlt]
    exact ⟨rfl, rfl⟩
theorem parse_bytes (v : OpV) (h : OkO v.d v.e v.s v.coll v.ver v.kind v.n v.time v.key v.text v.l) (hk : v.key.size ≤ 65535) (ht : v.text.size ≤ 65535) (h8 : v.l.length ≤ 8) : opV (v.bytes, 0) = v ∧ endE (v.bytes, 0) = 0 := by
  obtain ⟨d, e, s, coll, ver, kind, n, time, key, text, l⟩ := v
  dsimp only at h hk ht h8
  have e0 : (OpV.mk d e s coll ver kind n time key text l).bytes = dotB (d, e, s) ++ (enc coll ++ (enc ver ++ (enc kind ++ (enc time ++ (enc key.size ++ (sb key ++ (enc text.size ++ (sb text ++ (enc n ++ (enc l.length ++ (dotsB l ++ []))))))))))) := by
    simp [OpV.bytes, opB, dotB, encs, strs]
  rw [e0]
  have n4 := h.nums coll (by simp)
  have n5 := h.nums ver (by simp)
  have n6 := h.nums kind (by simp)
  have n7 := h.nums time (by simp)
  have hlI : I64 (l.length : Int) := ⟨by omega, by omega⟩
  obtain ⟨X, hX⟩ : ∃ X, dotB (d, e, s) ++ (enc coll ++ (enc ver ++ (enc kind ++ (enc time ++ (enc key.size ++ (sb key ++ (enc text.size ++ (sb text ++ (enc n ++ (enc l.length ++ (dotsB l ++ []))))))))))) = X := ⟨_, rfl⟩
  have hd := rd_dot (d, e, s) (enc coll ++ (enc ver ++ (enc kind ++ (enc time ++ (enc key.size ++ (sb key ++ (enc text.size ++ (sb text ++ (enc n ++ (enc l.length ++ (dotsB l ++ []))))))))))) h.dot
  rw [hX] at hd
  have q2 := rd_num coll (enc ver ++ (enc kind ++ (enc time ++ (enc key.size ++ (sb key ++ (enc text.size ++ (sb text ++ (enc n ++ (enc l.length ++ (dotsB l ++ [])))))))))) n4
  have q3 := rd_num ver (enc kind ++ (enc time ++ (enc key.size ++ (sb key ++ (enc text.size ++ (sb text ++ (enc n ++ (enc l.length ++ (dotsB l ++ []))))))))) n5
  have q4 := rd_num kind (enc time ++ (enc key.size ++ (sb key ++ (enc text.size ++ (sb text ++ (enc n ++ (enc l.length ++ (dotsB l ++ [])))))))) n6
  have q5 := rd_num time (enc key.size ++ (sb key ++ (enc text.size ++ (sb text ++ (enc n ++ (enc l.length ++ (dotsB l ++ []))))))) n7
  have q6 := rd_text key (enc text.size ++ (sb text ++ (enc n ++ (enc l.length ++ (dotsB l ++ []))))) hk
  have q7 := rd_text text (enc n ++ (enc l.length ++ (dotsB l ++ []))) ht
  have q8 := rd_num n (enc l.length ++ (dotsB l ++ [])) h.n
  have q9 := rd_num l.length (dotsB l ++ []) hlI
  have e1 : t1 (X, 0) = (enc coll ++ (enc ver ++ (enc kind ++ (enc time ++ (enc key.size ++ (sb key ++ (enc text.size ++ (sb text ++ (enc n ++ (enc l.length ++ (dotsB l ++ [])))))))))), 0) := hd.2
  have e2 : t2 (X, 0) = (enc ver ++ (enc kind ++ (enc time ++ (enc key.size ++ (sb key ++ (enc text.size ++ (sb text ++ (enc n ++ (enc l.length ++ (dotsB l ++ []))))))))), 0) := by unfold t2; rw [e1, q2.2]
  have e3 : t3 (X, 0) = (enc kind ++ (enc time ++ (enc key.size ++ (sb key ++ (enc text.size ++ (sb text ++ (enc n ++ (enc l.length ++ (dotsB l ++ [])))))))), 0) := by unfold t3; rw [e2, q3.2]
  have e4 : t4 (X, 0) = (enc time ++ (enc key.size ++ (sb key ++ (enc text.size ++ (sb text ++ (enc n ++ (enc l.length ++ (dotsB l ++ []))))))), 0) := by unfold t4; rw [e3, q4.2]
  have e5 : t5 (X, 0) = (enc key.size ++ (sb key ++ (enc text.size ++ (sb text ++ (enc n ++ (enc l.length ++ (dotsB l ++ [])))))), 0) := by unfold t5; rw [e4, q5.2]
  have e6 : t6 (X, 0) = (enc text.size ++ (sb text ++ (enc n ++ (enc l.length ++ (dotsB l ++ [])))), 0) := by unfold t6; rw [e5, q6.2]
  have e7 : t7 (X, 0) = (enc n ++ (enc l.length ++ (dotsB l ++ [])), 0) := by unfold t7; rw [e6, q7.2]
  have e8 : t8 (X, 0) = (enc l.length ++ (dotsB l ++ []), 0) := by unfold t8; rw [e7, q8.2]
  have hr : 0 ≤ vI (t8 (X, 0)) ∧ vI (t8 (X, 0)) ≤ 8 := by rw [e8, q9.1]; omega
  have ec : cntS (X, 0) = l.length := by unfold cntS; rw [if_pos hr, e8, q9.1]; omega
  have e10 : t10 (X, 0) = (dotsB l ++ [], 0) := by unfold t10; rw [if_pos hr, e8, q9.2]
  have qd := rd_dots [] l.length l h.dots (Nat.le_refl _)
  have er : rdots (X, 0) = l := by unfold rdots; rw [ec, e10, qd.1, List.take_length]
  have ee : endS (X, 0) = ([], 0) := by unfold endS; rw [ec, e10, qd.2, List.drop_length]; rfl
  rw [hX]
  have hd1 : vI (X, 0) = d ∧ vI (stI (X, 0)) = e ∧ vI (stI (stI (X, 0))) = s := by
    have := hd.1
    unfold dotV at this
    simp only [Prod.mk.injEq] at this
    exact this
  constructor
  · unfold opV
    rw [hd1.1, hd1.2.1, hd1.2.2, e1, e2, e3, e4, e5, e6, e7, er, q2.1, q3.1, q4.1, q5.1, q6.1, q7.1, q8.1]
  · unfold endE
    rw [ee]
    rfl
/-! Read, then written. -/
theorem stI_zero {s : RS} (hb : bytesOk s.1) (h : (stI s).2 = 0) : s.2 = 0 ∧ s.1 = enc (vI s) ++ (stI s).1 := by
  by_cases h0 : s.2 = 0
  · refine ⟨h0, ?_⟩
    unfold stI ans at h ⊢
    unfold vI ans
    rw [if_pos h0] at h ⊢
    rcases hn : number s.1 with ⟨c | n, r⟩
    · rw [hn] at h
      have := number_errs _ _ _ hn
      dsimp only at h
      omega
    · exact number_ok_enc _ _ _ hb hn
  · rw [stI_err h0] at h
    exact absurd h h0
theorem text_errs (l : List Int) (c : Int) (r : List Int) (hn : textB l = (.error c, r)) : c ≠ 0 := by
  unfold textB lengthB at hn
  rcases hm : number l with ⟨c' | m, q⟩
  · rw [hm] at hn
    have := number_errs _ _ _ hm
    dsimp only at hn
    injection hn with h1 _
    injection h1 with h1
    omega
  · rw [hm] at hn
    dsimp only at hn
    by_cases hr : m < 0 ∨ 65535 < m
    · rw [if_pos hr] at hn
      dsimp only at hn
      injection hn with h1 _
      injection h1 with h1
      omega
    · rw [if_neg hr] at hn
      dsimp only at hn
      by_cases hq : q.length < m.toNat
      · rw [if_pos hq] at hn
        injection hn with h1 _
        injection h1 with h1
        omega
      · rw [if_neg hq] at hn
        injection hn with h1 _
        cases h1
theorem stT_zero {s : RS} (hb : bytesOk s.1) (h : (stT s).2 = 0) : s.2 = 0 ∧ s.1 = enc (vT s).size ++ (sb (vT s) ++ (stT s).1) := by
  by_cases h0 : s.2 = 0
  · refine ⟨h0, ?_⟩
    unfold stT ans at h ⊢
    unfold vT ans
    rw [if_pos h0] at h ⊢
    rcases hn : textB s.1 with ⟨c | n, r⟩
    · rw [hn] at h
      exact absurd h (text_errs _ _ _ hn)
    · dsimp only
      unfold textB lengthB at hn
      rcases hm : number s.1 with ⟨c' | m, q⟩
      · rw [hm] at hn; dsimp only at hn; injection hn with h1 _; cases h1
      · rw [hm] at hn
        dsimp only at hn
        by_cases hr : m < 0 ∨ 65535 < m
        · rw [if_pos hr] at hn; dsimp only at hn; injection hn with h1 _; cases h1
        · rw [if_neg hr] at hn
          dsimp only at hn
          by_cases hq : q.length < m.toNat
          · rw [if_pos hq] at hn; injection hn with h1 _; cases h1
          · rw [if_neg hq] at hn
            injection hn with h1 h2
            injection h1 with h1
            have e := number_ok_enc _ _ _ hb hm
            have hbq : bytesOk (q.take m.toNat) := fun x hx => hb x (by rw [e]; exact List.mem_append_right _ (List.mem_of_mem_take hx))
            rw [strOfNums_size, ← h1, sb_of _ hbq, List.length_take, Nat.min_eq_left (by omega), ← h2, List.take_append_drop, show ((m.toNat : Nat) : Int) = m by omega]
            exact e
  · rw [stT_err h0] at h
    exact absurd h h0
theorem s3_zero {s : RS} (hb : bytesOk s.1) (h : (s3 s).2 = 0) : s.2 = 0 ∧ s.1 = dotB (dotV s) ++ (s3 s).1 := by
  unfold s3 at h
  have b1 : bytesOk (stI s).1 := by
    obtain ⟨p, hp⟩ := stI_suf s
    exact (suf_ok hp hb).1
  have b2 : bytesOk (stI (stI s)).1 := by
    obtain ⟨p, hp⟩ := stI_suf (stI s)
    exact (suf_ok hp b1).1
  obtain ⟨h3, e3⟩ := stI_zero b2 h
  obtain ⟨h2, e2⟩ := stI_zero b1 h3
  obtain ⟨h1, e1⟩ := stI_zero hb h2
  refine ⟨h1, ?_⟩
  rw [show dotB (dotV s) ++ (s3 s).1 = enc (vI s) ++ (enc (vI (stI s)) ++ (enc (vI (stI (stI s))) ++ (s3 s).1)) by simp [dotB, dotV, encs]]
  unfold s3
  rw [← e3, ← e2]
  exact e1
theorem s3_bytes {s : RS} (hb : bytesOk s.1) : bytesOk (s3 s).1 := by
  obtain ⟨p, hp⟩ := stI_suf s
  have b1 := (suf_ok hp hb).1
  obtain ⟨p, hp⟩ := stI_suf (stI s)
  have b2 := (suf_ok hp b1).1
  obtain ⟨p, hp⟩ := stI_suf (stI (stI s))
  exact (suf_ok hp b2).1
theorem dotsT_bytes {s : RS} (hb : bytesOk s.1) : ∀ k, bytesOk (dotsT k s).1
  | 0 => hb
  | k + 1 => s3_bytes (dotsT_bytes hb k)
theorem dotsT_zero {s : RS} (hb : bytesOk s.1) : ∀ k, (dotsT k s).2 = 0 → s.2 = 0 ∧ s.1 = dotsB (dotsV k s) ++ (dotsT k s).1
  | 0, h => ⟨h, by simp [dotsV, dotsB, dotsT]⟩
  | k + 1, h => by
    obtain ⟨h1, e1⟩ := s3_zero (dotsT_bytes hb k) h
    obtain ⟨h2, e2⟩ := dotsT_zero hb k h1
    refine ⟨h2, ?_⟩
    rw [dotsV, show dotsB (dotsV k s ++ [dotV (dotsT k s)]) = dotsB (dotsV k s) ++ dotB (dotV (dotsT k s)) by simp [dotsB], List.append_assoc]
    rw [show (dotsT (k + 1) s) = s3 (dotsT k s) from rfl, ← e1]
    exact e2
/-- What is read without an error was written so. -/
theorem bytes_parse (l : List Int) (hb : bytesOk l) (h : endE (l, 0) = 0) : (opV (l, 0)).bytes = l ∧ (rdots (l, 0)).length ≤ 8 := by
  have hz : (endS (l, 0)).2 = 0 := endOf_zero h
  have hn : (endS (l, 0)).1 = [] := by
    unfold endE endOf at h
    split at h
    · omega
    · rename_i hh
      rcases Nat.eq_zero_or_pos (endS (l, 0)).1.length with h0 | h0
      · exact List.eq_nil_of_length_eq_zero h0
      · exact absurd ⟨h, h0⟩ hh
  have b1 : bytesOk (t1 (l, 0)).1 := s3_bytes hb
  have b2 : bytesOk (t2 (l, 0)).1 := by obtain ⟨p, hp⟩ := stI_suf (t1 (l, 0)); exact (suf_ok hp b1).1
  have b3 : bytesOk (t3 (l, 0)).1 := by obtain ⟨p, hp⟩ := stI_suf (t2 (l, 0)); exact (suf_ok hp b2).1
  have b4 : bytesOk (t4 (l, 0)).1 := by obtain ⟨p, hp⟩ := stI_suf (t3 (l, 0)); exact (suf_ok hp b3).1
  have b5 : bytesOk (t5 (l, 0)).1 := by obtain ⟨p, hp⟩ := stI_suf (t4 (l, 0)); exact (suf_ok hp b4).1
  have b6 : bytesOk (t6 (l, 0)).1 := by obtain ⟨p, hp⟩ := stT_suf (t5 (l, 0)); exact (suf_ok hp b5).1
  have b7 : bytesOk (t7 (l, 0)).1 := by obtain ⟨p, hp⟩ := stT_suf (t6 (l, 0)); exact (suf_ok hp b6).1
  have b8 : bytesOk (t8 (l, 0)).1 := by obtain ⟨p, hp⟩ := stI_suf (t7 (l, 0)); exact (suf_ok hp b7).1
  have b9 : bytesOk (stI (t8 (l, 0))).1 := by obtain ⟨p, hp⟩ := stI_suf (t8 (l, 0)); exact (suf_ok hp b8).1
  by_cases hr : 0 ≤ vI (t8 (l, 0)) ∧ vI (t8 (l, 0)) ≤ 8
  · have ht : t10 (l, 0) = stI (t8 (l, 0)) := by unfold t10; rw [if_pos hr]
    have hc : (cntS (l, 0) : Int) = vI (t8 (l, 0)) := by unfold cntS; rw [if_pos hr]; omega
    have hlen : (rdots (l, 0)).length = cntS (l, 0) := dotsV_len _ _
    unfold endS at hz hn
    rw [ht] at hz hn
    obtain ⟨z9, e9⟩ := dotsT_zero b9 _ hz
    obtain ⟨z8, e8⟩ := stI_zero b8 z9
    obtain ⟨z7, e7⟩ := stI_zero b7 z8
    obtain ⟨z6, e6⟩ := stT_zero b6 z7
    obtain ⟨z5, e5⟩ := stT_zero b5 z6
    obtain ⟨z4, e4⟩ := stI_zero b4 z5
    obtain ⟨z3, e3⟩ := stI_zero b3 z4
    obtain ⟨z2, e2⟩ := stI_zero b2 z3
    obtain ⟨z1, e1⟩ := stI_zero b1 z2
    obtain ⟨z0, e0⟩ := s3_zero hb z1
    have e9' : (stI (t8 (l, 0))).1 = dotsB (rdots (l, 0)) := by
      rw [e9, hn, List.append_nil]
      unfold rdots
      rw [ht]
    refine ⟨?_, by have := cntS_le (l, 0); omega⟩
    have hx : (opV (l, 0)).bytes = dotB (dotV (l, 0)) ++ (enc (vI (t1 (l, 0))) ++ (enc (vI (t2 (l, 0))) ++ (enc (vI (t3 (l, 0))) ++ (enc (vI (t4 (l, 0))) ++ (enc (vT (t5 (l, 0))).size ++ (sb (vT (t5 (l, 0))) ++ (enc (vT (t6 (l, 0))).size ++ (sb (vT (t6 (l, 0))) ++ (enc (vI (t7 (l, 0))) ++ (enc (vI (t8 (l, 0))) ++ dotsB (rdots (l, 0)))))))))))) := by
      rw [← hc, ← hlen]
      simp [OpV.bytes, opV, opB, dotB, dotV, encs, strs]
    rw [hx, ← e9']
    have e0' : l = dotB (dotV (l, 0)) ++ (t1 (l, 0)).1 := e0
    have e1' : (t1 (l, 0)).1 = enc (vI (t1 (l, 0))) ++ (t2 (l, 0)).1 := e1
    have e2' : (t2 (l, 0)).1 = enc (vI (t2 (l, 0))) ++ (t3 (l, 0)).1 := e2
    have e3' : (t3 (l, 0)).1 = enc (vI (t3 (l, 0))) ++ (t4 (l, 0)).1 := e3
    have e4' : (t4 (l, 0)).1 = enc (vI (t4 (l, 0))) ++ (t5 (l, 0)).1 := e4
    have e5' : (t5 (l, 0)).1 = enc (vT (t5 (l, 0))).size ++ (sb (vT (t5 (l, 0))) ++ (t6 (l, 0)).1) := e5
    have e6' : (t6 (l, 0)).1 = enc (vT (t6 (l, 0))).size ++ (sb (vT (t6 (l, 0))) ++ (t7 (l, 0)).1) := e6
    have e7' : (t7 (l, 0)).1 = enc (vI (t7 (l, 0))) ++ (t8 (l, 0)).1 := e7
    rw [← e8, ← e7', ← e6', ← e5', ← e4', ← e3', ← e2', ← e1']
    exact e0'.symm
  · have ht : t10 (l, 0) = flS (stI (t8 (l, 0))) 4 := by unfold t10; rw [if_neg hr]
    have hc : cntS (l, 0) = 0 := by unfold cntS; rw [if_neg hr]
    unfold endS at hz
    rw [hc, ht] at hz
    exact absurd hz (fl_ne _)
end Go.Proofs.Ytcmpeohooiehcaa
