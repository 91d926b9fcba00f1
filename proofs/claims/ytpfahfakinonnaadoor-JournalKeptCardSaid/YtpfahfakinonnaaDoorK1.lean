/- JournalKept: the disk's states, pure. No condition of the program's own. -/
import Derived.Test.YtpfahfakinonnaaDoorJ4
namespace Go.Proofs.YtpfahfakinonnaaDoor
open Go.RowKit Go.Deep
/-- A disk that is to stop at its K-th operation, and has not stopped: these records behind this snapshot, all synced. -/
structure KD (d : DS) (recs : List (List Int)) (S : List Int) (K : Int) (i : Nat) : Prop where
  l : d.L = logP recs
  s : d.S = S
  sy : d.sy = (logP recs).length
  rm : d.rm = 1048576
  st : d.st = K
  sn : 0 ≤ d.sn ∧ d.sn < K
  op : 0 ≤ d.op ∧ d.op ≤ 2 * i
  dd : d.dd = false
/-- A disk on which something may stand behind the records that is not synced. -/
structure PC (d : DS) (recs : List (List Int)) (u S : List Int) : Prop where
  l : d.L = logP recs ++ u
  s : d.S = S
  sy : d.sy = (logP recs).length
  rm : d.rm = 1048576
  op : 0 ≤ d.op ∧ d.op ≤ 100
def SnapIs (S sx : List Int) : Prop := (S = [] ∧ sx = []) ∨ (S = frP sx ∧ (∀ x ∈ sx, 0 ≤ x ∧ x ≤ 255) ∧ sx.length ≤ 200)
theorem SnapIs.len {S sx : List Int} (h : SnapIs S sx) : S.length ≤ 208 := by
  rcases h with ⟨rfl, _⟩ | ⟨rfl, _, hl⟩
  · simp
  · rw [frP_len]; omega
theorem SnapIs.byte {S sx : List Int} (h : SnapIs S sx) : ∀ x ∈ S, 0 ≤ x ∧ x ≤ 255 := by
  rcases h with ⟨rfl, _⟩ | ⟨rfl, hb, _⟩
  · intro x hx; cases hx
  · exact frP_byte sx hb
/-- Records that may be. -/
def RecsOk (recs : List (List Int)) : Prop := (∀ l ∈ recs, ∀ x ∈ l, 0 ≤ x ∧ x ≤ 255) ∧ (∀ l ∈ recs, l.length ≤ 200)
theorem RecsOk.add {recs : List (List Int)} {x : List Int} (h : RecsOk recs) (bx : ∀ y ∈ x, 0 ≤ y ∧ y ≤ 255) (lx : x.length ≤ 200) : RecsOk (recs ++ [x]) := by
  constructor
  · intro l hl
    rcases List.mem_append.1 hl with h1 | h1
    · exact h.1 l h1
    · rw [List.mem_singleton.1 h1]; exact bx
  · intro l hl
    rcases List.mem_append.1 hl with h1 | h1
    · exact h.2 l h1
    · rw [List.mem_singleton.1 h1]; exact lx
theorem KD.ok {d : DS} {recs : List (List Int)} {S sx : List Int} {K : Int} {i : Nat} (h : KD d recs S K i) (hS : SnapIs S sx) (hR : RecsOk recs) (nR : recs.length ≤ i) (hi : i ≤ 30) (hK : 1 ≤ K ∧ K ≤ 40) : Ok d := by
  have := logP_le recs hR.2
  have hs := hS.len
  have h1 := h.sn; have h2 := h.op
  refine ⟨by rw [h.l]; omega, by rw [h.s]; omega, ⟨by rw [h.sy]; omega, by rw [h.sy, h.l]; omega⟩, ⟨by rw [h.rm]; decide, by rw [h.rm]; decide⟩, by rw [h.st]; omega, by omega, by omega⟩
theorem PC.ok {d : DS} {recs : List (List Int)} {u S sx : List Int} (h : PC d recs u S) (hS : SnapIs S sx) (hR : RecsOk recs) (nR : recs.length ≤ 30) (hu : u.length ≤ 208) : Ok (stopS d 0) := by
  have := logP_le recs hR.2
  have hs := hS.len
  have h2 := h.op
  have hl : d.L.length = (logP recs).length + u.length := by rw [h.l, List.length_append]
  refine ⟨by show d.L.length ≤ _; omega, by show d.S.length ≤ _; rw [h.s]; omega, ⟨by show 0 ≤ d.sy; rw [h.sy]; omega, by show d.sy ≤ (d.L.length : Int); rw [h.sy, hl]; omega⟩, ⟨by show 0 ≤ d.rm; rw [h.rm]; decide, by show d.rm ≤ _; rw [h.rm]; decide⟩, by show (-9223372036854775808 : Int) ≤ 0; decide, ⟨by show (0 : Int) ≤ 0; decide, by show (0 : Int) ≤ _; decide⟩, ⟨by show 0 ≤ d.op; omega, by show d.op ≤ _; omega⟩⟩
/-- What is left behind the power's going. -/
theorem PC.crash {d : DS} {recs : List (List Int)} {u S : List Int} (h : PC d recs u S) (p : Int) : ∃ k : Nat, k ≤ u.length ∧ crashS (stopS d 0) p = { L := logP recs ++ u.take k, S := S, sy := (logP recs).length + k, rm := 1048576, st := 0, sn := 0, op := d.op, dd := false } := by
  have hl : d.L.length = (logP recs).length + u.length := by rw [h.l, List.length_append]
  have e : ((stopS d 0).L.length : Int) - (stopS d 0).sy + 1 = (u.length : Int) + 1 := by show (d.L.length : Int) - d.sy + 1 = _; rw [h.sy, hl]; omega
  have h1 := Int.emod_nonneg p (show ((u.length : Int) + 1) ≠ 0 by omega)
  have h2 := Int.emod_lt_of_pos p (show (0 : Int) < (u.length : Int) + 1 by omega)
  have hk : crashK (stopS d 0) p = p % ((u.length : Int) + 1) := by unfold crashK; rw [e]
  obtain ⟨k, hk'⟩ : ∃ k : Nat, p % ((u.length : Int) + 1) = (k : Int) := ⟨(p % ((u.length : Int) + 1)).toNat, by omega⟩
  refine ⟨k, by omega, ?_⟩
  unfold crashS
  rw [hk, hk']
  show ({ L := d.L.take (d.sy + (k : Int)).toNat, S := d.S, sy := d.sy + (k : Int), rm := d.rm, st := 0, sn := 0, op := d.op, dd := false } : DS) = _
  rw [h.l, h.s, h.sy, h.rm, show (((logP recs).length : Int) + (k : Int)).toNat = (logP recs).length + k by omega, List.take_length_add_append]
/-- What is found when it is opened anew. -/
def KZ (d : DS) (recs : List (List Int)) (sx more : List Int) (dead sw : Bool) : Prop := Ok (stopS d 0) ∧ ∀ p : Int, ∃ (R : List (List Int)) (s' : List Int),
  Ok (crashS (stopS d 0) p) ∧ (∀ x ∈ (crashS (stopS d 0) p).S, 0 ≤ x ∧ x ≤ 255) ∧ (∀ x ∈ (crashS (stopS d 0) p).L, 0 ≤ x ∧ x ≤ 255) ∧ (crashS (stopS d 0) p).L.length ≤ 4294967296 ∧
  openE (crashS (stopS d 0) p) = 0 ∧ snapP (crashS (stopS d 0) p) = s' ∧ (scanP (crashS (stopS d 0) p).L).1 = R ∧
  ((R = recs ∧ s' = sx) ∨ (dead = true ∧ sw = false ∧ s' = sx ∧ R = recs ++ [more]) ∨ (dead = true ∧ sw = true ∧ s' = more ∧ R = []))
theorem open_fin (recs : List (List Int)) (t S sx : List Int) (sy op : Int) (hS : SnapIs S sx) : openE { L := logP recs ++ t, S := S, sy := sy, rm := 1048576, st := 0, sn := 0, op := op, dd := false } = 0 ∧ snapP { L := logP recs ++ t, S := S, sy := sy, rm := 1048576, st := 0, sn := 0, op := op, dd := false } = sx := by
  obtain ⟨d, hd⟩ : ∃ d : DS, d = { L := logP recs ++ t, S := S, sy := sy, rm := 1048576, st := 0, sn := 0, op := op, dd := false } := ⟨_, rfl⟩
  rw [← hd]
  have hL : d.L = logP recs ++ t := by rw [hd]
  have hSd : d.S = S := by rw [hd]
  have hdd : d.dd = false := by rw [hd]
  have hst : d.st = 0 := by rw [hd]
  have hsn : d.sn = 0 := by rw [hd]
  have hle := scanP_le d.L
  have nb : ¬ badS d := by
    rintro ⟨h1, h2⟩
    rw [hSd] at h1 h2
    rcases hS with ⟨rfl, _⟩ | ⟨rfl, hb, hl⟩
    · simp at h1
    · have := one_fr sx [] hb (by omega)
      rw [List.append_nil, if_pos rfl] at this
      exact h2 this
  constructor
  · unfold openE
    rw [if_neg (by rw [hdd]; decide), if_neg nb]
    by_cases hN : (scanP d.L).2 < d.L.length
    · rw [if_pos hN]
      unfold cutE
      rw [if_neg (by rw [hdd]; decide), if_neg (by rintro (h | h) <;> omega), hst, hsn]
      rfl
    · rw [if_neg hN]
  · unfold snapP
    rw [hSd]
    rcases hS with ⟨rfl, rfl⟩ | ⟨rfl, hb, hl⟩
    · rw [if_pos rfl]
    · rw [if_neg (by intro h; have := congrArg List.length h; rw [frP_len] at this; simp at this)]
      have := recP_fr sx [] (by omega)
      rwa [List.append_nil] at this
theorem fr_front (l : List Int) (hl : l.length ≤ 200) (k : Nat) (hk : k ≤ (frP l).length) :
    (k < (frP l).length ∧ firstE ((frP l).take k) ≠ 0) ∨ (k = (frP l).length) := by
  rcases Nat.lt_or_ge k (frP l).length with h | h
  · left
    refine ⟨h, fun h0 => ?_⟩
    have h1 := one_cut l (by omega) k h
    unfold oneE at h1; rw [h0, if_neg (by omega)] at h1
    split at h1 <;> omega
  · exact .inr (by omega)
theorem PC.kz {d : DS} {recs : List (List Int)} {u S sx more : List Int} {dead sw : Bool} (h : PC d recs u S) (hS : SnapIs S sx) (hR : RecsOk recs) (nR : recs.length ≤ 30)
    (hu : u = [] ∨ (u = frP more ∧ dead = true ∧ sw = false ∧ (∀ x ∈ more, 0 ≤ x ∧ x ≤ 255) ∧ more.length ≤ 200)) : KZ d recs sx more dead sw := by
  have ul : u.length ≤ 208 := by
    rcases hu with rfl | ⟨rfl, _, _, _, hl⟩
    · simp
    · rw [frP_len]; omega
  have ub : ∀ x ∈ u, 0 ≤ x ∧ x ≤ 255 := by
    rcases hu with rfl | ⟨rfl, _, _, hb, _⟩
    · intro x hx; cases hx
    · exact frP_byte more hb
  have hlen := logP_le recs hR.2
  have hsl := hS.len
  have hop := h.op
  refine ⟨h.ok hS hR nR ul, fun p => ?_⟩
  obtain ⟨k, hk, e⟩ := h.crash p
  rw [e]
  have tl : (logP recs ++ u.take k).length = (logP recs).length + k := by rw [List.length_append, List.length_take]; omega
  obtain ⟨R, N, hs, hR2⟩ : ∃ R N, scanP (logP recs ++ u.take k) = (R, N) ∧ (R = recs ∨ (dead = true ∧ sw = false ∧ R = recs ++ [more])) := by
    have lR : ∀ l ∈ recs, l.length ≤ 4194304 := fun l hm => by have := hR.2 l hm; omega
    rcases hu with rfl | ⟨rfl, h1, h2, hb, hl⟩
    · refine ⟨recs, (logP recs).length, ?_, .inl rfl⟩
      rw [List.take_nil, scanP_log recs [] hR.1 lR, scanP_no (by decide)]
      simp
    · rcases fr_front more hl k hk with ⟨hlt, h0⟩ | rfl
      · refine ⟨recs, (logP recs).length, ?_, .inl rfl⟩
        rw [scanP_log recs _ hR.1 lR, scanP_no h0]
        simp
      · refine ⟨recs ++ [more], (logP recs).length + (8 + more.length), ?_, .inr ⟨h1, h2, rfl⟩⟩
        have hf := scanP_fr more [] hb (by omega)
        rw [List.append_nil, scanP_no (l := []) (by decide)] at hf
        rw [List.take_length, scanP_log recs _ hR.1 lR, hf]
        simp
  obtain ⟨o1, o2⟩ := open_fin recs (u.take k) S sx ((logP recs).length + k) d.op hS
  refine ⟨R, sx, ?_, hS.byte, ?_, by rw [tl]; omega, o1, o2, by rw [hs], ?_⟩
  · exact ⟨by show (logP recs ++ u.take k).length ≤ _; omega, by show S.length ≤ _; omega, ⟨by show (0 : Int) ≤ ((logP recs).length : Int) + k; omega, by show ((logP recs).length : Int) + k ≤ ((logP recs ++ u.take k).length : Int); omega⟩, ⟨by show (0 : Int) ≤ 1048576; decide, by show (1048576 : Int) ≤ _; decide⟩, by show (-9223372036854775808 : Int) ≤ 0; decide, ⟨by show (0 : Int) ≤ 0; decide, by show (0 : Int) ≤ _; decide⟩, ⟨by show 0 ≤ d.op; omega, by show d.op ≤ _; omega⟩⟩
  · intro x hx
    rcases List.mem_append.1 hx with h1 | h1
    · exact logP_byte recs hR.1 x h1
    · exact ub x (List.mem_of_mem_take h1)
  · rcases hR2 with rfl | ⟨h1, h2, rfl⟩
    · exact .inl ⟨rfl, rfl⟩
    · exact .inr (.inl ⟨h1, h2, rfl, rfl⟩)
/-- Behind a Swap that was done, and at which the power went. -/
theorem PC.kz_swap {d : DS} {recs : List (List Int)} {sx more : List Int} (h : PC d [] [] (frP more)) (bm : ∀ x ∈ more, 0 ≤ x ∧ x ≤ 255) (lm : more.length ≤ 200) : KZ d recs sx more true true := by
  have h0 : KZ d [] more more true true := h.kz (.inr ⟨rfl, bm, lm⟩) ⟨by simp, by simp⟩ (by simp) (.inl rfl)
  refine ⟨h0.1, fun p => ?_⟩
  obtain ⟨R, s', a1, a2, a3, a4, a5, a6, a7, a8⟩ := h0.2 p
  refine ⟨R, s', a1, a2, a3, a4, a5, a6, a7, ?_⟩
  rcases a8 with ⟨h1, h2⟩ | ⟨_, h2, _⟩ | h3
  · exact .inr (.inr ⟨rfl, rfl, h2, h1⟩)
  · cases h2
  · exact .inr (.inr h3)
theorem KD.pc {d : DS} {recs : List (List Int)} {S : List Int} {K : Int} {i : Nat} (h : KD d recs S K i) (hi : i ≤ 30) : PC d recs [] S :=
  ⟨by rw [h.l]; simp, h.s, h.sy, h.rm, by have := h.op; omega⟩
theorem goesK (K sn : Int) (h : 0 ≤ sn ∧ sn < K) : goes K sn = decide (sn + 1 = K) := by
  unfold goes
  by_cases e : sn + 1 = K
  · rw [decide_eq_true e, decide_eq_true_iff]; omega
  · rw [decide_eq_false e, decide_eq_false_iff_not]; omega
/-- What Add does: the record is there, or the power has gone, and there may be something of it. -/
theorem KD.add {d : DS} {recs : List (List Int)} {S sx l : List Int} {K : Int} {i : Nat} (h : KD d recs S K i) (hS : SnapIs S sx) (hR : RecsOk recs) (nR : recs.length ≤ i) (hi : i < 30) (hK : 1 ≤ K ∧ K ≤ 40) (ll : l.length ≤ 200) :
    Ok (appendS d (frP l)) ∧ ((jaE d (frP l) = 0 ∧ KD (jaS d (frP l)) (recs ++ [l]) S K (i + 1)) ∨ (jaE d (frP l) ≠ 0 ∧ (jaS d (frP l)).dd = true ∧ PC (jaS d (frP l)) recs (frP l) S)) := by
  have hlen := logP_le recs hR.2
  have hsl := hS.len
  have l8 := frP_len l
  have h1 := h.sn; have h2 := h.op
  have hf : ¬ d.rm < (d.L.length : Int) + d.S.length + (frP l).length := by rw [h.rm, h.l, h.s]; omega
  have eS : appendS d (frP l) = spendS { d with L := d.L ++ frP l } := by unfold appendS; rw [if_neg (by rw [h.dd]; rintro (h | h); cases h; exact hf h)]
  have eE : appendE d (frP l) = spR d.st d.sn := by unfold appendE spendE; rw [if_neg (by rw [h.dd]; decide), if_neg hf]
  have lE : logP (recs ++ [l]) = logP recs ++ frP l := by simp [logP]
  have o1 : 0 ≤ spO d.st d.sn d.op ∧ spO d.st d.sn d.op ≤ 2 * (i : Int) + 1 := by unfold spO; split <;> omega
  have okA : Ok (appendS d (frP l)) := by
    rw [eS]
    exact ⟨by show (d.L ++ frP l).length ≤ _; rw [List.length_append, h.l]; omega, by show d.S.length ≤ _; rw [h.s]; omega, ⟨by show 0 ≤ d.sy; rw [h.sy]; omega, by show d.sy ≤ ((d.L ++ frP l).length : Int); rw [h.sy, List.length_append, h.l]; omega⟩, ⟨by show 0 ≤ d.rm; rw [h.rm]; decide, by show d.rm ≤ _; rw [h.rm]; decide⟩, by show _ ≤ d.st; rw [h.st]; omega, ⟨by show 0 ≤ d.sn + 1; omega, by show d.sn + 1 ≤ _; omega⟩, ⟨by show 0 ≤ spO d.st d.sn d.op; omega, by show spO d.st d.sn d.op ≤ _; omega⟩⟩
  refine ⟨okA, ?_⟩
  by_cases hg : goes d.st d.sn = true
  · have e18 : appendE d (frP l) = 18 := by rw [eE, spR, if_pos hg]
    have hE : jaE d (frP l) = 18 := by unfold jaE; rw [if_neg (by rw [e18]; decide), e18]
    have hS' : jaS d (frP l) = appendS d (frP l) := by unfold jaS; rw [if_neg (by rw [e18]; decide)]
    right
    rw [hE, hS', eS]
    refine ⟨by decide, by show (d.dd || goes d.st d.sn) = true; rw [hg]; simp, ⟨by show d.L ++ frP l = _; rw [h.l], h.s, h.sy, h.rm, by show 0 ≤ spO d.st d.sn d.op ∧ spO d.st d.sn d.op ≤ 100; omega⟩⟩
  · have hg0 : goes d.st d.sn = false := by simpa using hg
    have e0 : appendE d (frP l) = 0 := by rw [eE, spR, if_neg hg]
    have hE : jaE d (frP l) = syncE (appendS d (frP l)) := by unfold jaE; rw [if_pos e0]
    have hS' : jaS d (frP l) = syncS (appendS d (frP l)) := by unfold jaS; rw [if_pos e0]
    have hsn : d.sn + 1 < K := by
      have := goesK K d.sn h1
      rw [h.st] at hg0
      rw [hg0] at this
      have := of_decide_eq_false this.symm
      omega
    have add : (appendS d (frP l)).dd = false := by rw [eS]; show (d.dd || goes d.st d.sn) = false; rw [h.dd, hg0]; rfl
    have ast : (appendS d (frP l)).st = d.st := by rw [eS]; rfl
    have asn : (appendS d (frP l)).sn = d.sn + 1 := by rw [eS]; rfl
    have aL : (appendS d (frP l)).L = logP recs ++ frP l := by rw [eS]; show d.L ++ frP l = _; rw [h.l]
    have aS : (appendS d (frP l)).S = S := by rw [eS]; exact h.s
    have asy : (appendS d (frP l)).sy = (logP recs).length := by rw [eS]; exact h.sy
    have arm : (appendS d (frP l)).rm = 1048576 := by rw [eS]; exact h.rm
    have aop : (appendS d (frP l)).op = d.op + 1 := by rw [eS]; show spO d.st d.sn d.op = _; rw [spO, if_neg hg]
    obtain ⟨a, ha⟩ : ∃ a, a = appendS d (frP l) := ⟨_, rfl⟩
    rw [← ha] at hE hS' add ast asn aL aS asy arm aop
    have e2 : syncE a = spR a.st a.sn := by unfold syncE; rw [if_neg (by rw [add]; decide)]
    have o2 : 0 ≤ spO a.st a.sn a.op ∧ spO a.st a.sn a.op ≤ 2 * (i : Int) + 2 := by unfold spO; split <;> omega
    by_cases hg2 : goes a.st a.sn = true
    · right
      have s2 : syncS a = spendS a := by unfold syncS; rw [if_neg (by rw [add]; decide), if_pos hg2]
      rw [hE, hS', e2, s2, spR, if_pos hg2]
      exact ⟨by decide, by show (a.dd || goes a.st a.sn) = true; rw [hg2]; simp, ⟨aL, aS, asy, arm, by show 0 ≤ spO a.st a.sn a.op ∧ spO a.st a.sn a.op ≤ 100; omega⟩⟩
    · left
      have hg20 : goes a.st a.sn = false := by simpa using hg2
      have hsn2 : a.sn + 1 < K := by
        have := goesK K a.sn (by omega)
        rw [ast, h.st] at hg20
        rw [hg20] at this
        have := of_decide_eq_false this.symm
        omega
      have s2 : syncS a = { spendS a with sy := a.L.length } := by unfold syncS; rw [if_neg (by rw [add]; decide), if_neg hg2]
      rw [hE, hS', e2, s2, spR, if_neg hg2]
      exact ⟨rfl, ⟨by show a.L = _; rw [aL, lE], aS, by show (a.L.length : Int) = _; rw [aL, lE], arm, by show a.st = K; rw [ast]; exact h.st, ⟨by show 0 ≤ a.sn + 1; omega, by show a.sn + 1 < K; omega⟩, ⟨by show 0 ≤ spO a.st a.sn a.op; omega, by show spO a.st a.sn a.op ≤ _; omega⟩, by show (a.dd || goes a.st a.sn) = false; rw [add, hg20]; rfl⟩⟩
/-- What Snap does: it is there, or the power has gone, and it is there, or nothing has turned. -/
theorem KD.swap {d : DS} {recs : List (List Int)} {S l : List Int} {K : Int} {i : Nat} (h : KD d recs S K i) (hi : i < 30) (ll : l.length ≤ 200) :
    (swapE d (frP l) = 0 ∧ KD (swapS d (frP l)) [] (frP l) K (i + 1)) ∨ (swapE d (frP l) ≠ 0 ∧ (swapS d (frP l)).dd = true ∧ (PC (swapS d (frP l)) [] [] (frP l) ∨ PC (swapS d (frP l)) recs [] S)) := by
  have l8 := frP_len l
  have h1 := h.sn; have h2 := h.op
  have hf : ¬ d.rm < ((frP l).length : Int) := by rw [h.rm]; omega
  have eE : swapE d (frP l) = spR d.st d.sn := by unfold swapE; rw [if_neg (by rw [h.dd]; decide), if_neg hf]
  have eS : swapS d (frP l) = if doneB d = true then keepS { spendS d with S := frP l } 0 else spendS d := by unfold swapS; rw [if_neg (by rw [h.dd]; rintro (h | h); cases h; exact hf h)]
  have o1 : 0 ≤ spO d.st d.sn d.op ∧ spO d.st d.sn d.op ≤ 2 * (i : Int) + 1 := by unfold spO; split <;> omega
  by_cases hg : goes d.st d.sn = true
  · right
    rw [eE, spR, if_pos hg]
    by_cases hd : doneB d = true
    · rw [eS, if_pos hd]
      exact ⟨by decide, by show (d.dd || goes d.st d.sn) = true; rw [hg]; simp, .inl ⟨by show d.L.take 0 = _; simp [logP], rfl, rfl, h.rm, by show 0 ≤ spO d.st d.sn d.op ∧ spO d.st d.sn d.op ≤ 100; omega⟩⟩
    · rw [eS, if_neg hd]
      exact ⟨by decide, by show (d.dd || goes d.st d.sn) = true; rw [hg]; simp, .inr ⟨by show d.L = _; rw [h.l]; simp, h.s, h.sy, h.rm, by show 0 ≤ spO d.st d.sn d.op ∧ spO d.st d.sn d.op ≤ 100; omega⟩⟩
  · left
    have hg0 : goes d.st d.sn = false := by simpa using hg
    have hd : doneB d = true := by simp [doneB, hg0]
    have hsn : d.sn + 1 < K := by
      have := goesK K d.sn h1
      rw [h.st] at hg0
      rw [hg0] at this
      have := of_decide_eq_false this.symm
      omega
    rw [eE, spR, if_neg hg, eS, if_pos hd]
    exact ⟨rfl, ⟨by show d.L.take 0 = _; simp [logP], rfl, rfl, h.rm, h.st, ⟨by show 0 ≤ d.sn + 1; omega, by show d.sn + 1 < K; omega⟩, ⟨by show 0 ≤ spO d.st d.sn d.op; omega, by show spO d.st d.sn d.op ≤ _; omega⟩, by show (d.dd || goes d.st d.sn) = false; rw [h.dd, hg0]; rfl⟩⟩
end Go.Proofs.YtpfahfakinonnaaDoor
