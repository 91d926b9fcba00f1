/- The walk of DiskTurns: it returns true for every input. No condition. -/
import Derived.Test.YtmjfemnjkgfgfaaStays
namespace Go.Proofs.Ytmjfemnjkgfgfaa
open Go.RowKit Go.Deep

/-- A disk that holds a, synced, and has seen i operations since the Stop with k + 1. -/
structure Uv (a : List Int) (k : Int) (i : Nat) (d : DS) : Prop where
  rm : d.rm = 100000
  st : d.st = k + 1
  dd : d.dd = false
  l : d.L = a
  s : d.S = []
  sy : d.sy = a.length
  sn : d.sn = i
  op : 0 ≤ d.op ∧ d.op ≤ 2 + i
theorem Uv.ok {a : List Int} {k : Int} {i : Nat} {d : DS} (h : Uv a k i d) (ha : a.length ≤ 300) (hk : 0 ≤ k) (hi : i ≤ 20) : Ok d := by
  have h1 := h.rm; have h2 := h.st; have h5 := h.sy; have h6 := h.sn; have h7 := h.op
  exact ⟨by rw [h.l]; omega, by rw [h.s]; decide, by rw [h.l]; omega, by omega, by omega, by omega, by omega⟩
theorem Uv.append {a : List Int} {k : Int} {i : Nat} {d : DS} (h : Uv a k i d) (ha : a.length ≤ 300) (hi : (i : Int) < k) : Uv a k (i + 1) (appendS d []) ∧ appendE d [] = 0 := by
  have h1 := h.rm; have h2 := h.st; have h5 := h.sy; have h6 := h.sn; have h7 := h.op
  have hf : ¬ d.rm < (d.L.length : Int) + d.S.length + ([] : List Int).length := by rw [h.l, h.s]; simp only [List.length_nil]; omega
  have hg : goes d.st d.sn = false := by rw [h2, h6]; show decide (0 < k + 1 ∧ (i : Int) + 1 = k + 1) = false; rw [decide_eq_false_iff_not]; omega
  rw [show appendS d [] = spendS { d with L := d.L ++ [] } by unfold appendS; rw [if_neg (by rw [h.dd]; simp only [Bool.false_eq_true, false_or]; exact hf)], show appendE d [] = spendE d by unfold appendE; rw [if_neg (by rw [h.dd]; decide), if_neg hf]]
  refine ⟨⟨h1, h2, by show (d.dd || goes d.st d.sn) = false; rw [hg, h.dd]; rfl, by show d.L ++ [] = a; rw [List.append_nil]; exact h.l, h.s, h5, by show d.sn + 1 = ((i + 1 : Nat) : Int); omega, ?_⟩, by show spR d.st d.sn = 0; rw [spR, if_neg (by rw [hg]; decide)]⟩
  show 0 ≤ spO d.st d.sn d.op ∧ spO d.st d.sn d.op ≤ _
  rw [spO, if_neg (by rw [hg]; decide)]; omega
theorem Uv.end_ {a : List Int} {k : Int} {i : Nat} {d : DS} (h : Uv a k i d) (hk : 0 ≤ k) (hi : (i : Int) = k) : goes d.st d.sn = true := by
  rw [h.st, h.sn]; show decide (0 < k + 1 ∧ (i : Int) + 1 = k + 1) = true; rw [decide_eq_true_iff]; omega
/-- The power is off, and the disk holds l and s. -/
structure Ended (l s : List Int) (d : DS) : Prop where
  dd : d.dd = true
  l : d.L = l
  s : d.S = s
  ok : Ok d
theorem op_ok (st sn op : Int) (i : Nat) (h : 0 ≤ op ∧ op ≤ 2 + i) (hi : i ≤ 20) : 0 ≤ spO st sn op ∧ spO st sn op ≤ 1099511627776 := by
  rw [spO]; split <;> omega
theorem Uv.cut {a : List Int} {k : Int} {i : Nat} {d : DS} (h : Uv a k i d) (ha : a.length ≤ 300) (hk : 0 ≤ k) (hi : (i : Int) = k) (hi20 : i ≤ 20) {m : Nat} (hm : m ≤ a.length) :
    Ended (if (k + 1) % 2 = 0 then a.take m else a) [] (cutS d m) ∧ cutE d m = 18 := by
  have hg := h.end_ hk hi
  have h1 := h.rm; have h2 := h.st; have h5 := h.sy; have h6 := h.sn; have h7 := op_ok d.st d.sn d.op i h.op hi20
  have hl : d.L.length = a.length := by rw [h.l]
  have hd : doneB d = decide ((k + 1) % 2 = 0) := by rw [doneB, hg, h2]; simp; rfl
  have hdd : (d.dd || goes d.st d.sn) = true := by rw [hg, h.dd]; rfl
  rw [show cutE d m = spR d.st d.sn by unfold cutE; rw [if_neg (by rw [h.dd]; decide), if_neg (by rw [hl]; omega)], show spR d.st d.sn = 18 by rw [spR, if_pos hg]]
  refine ⟨?_, rfl⟩
  rw [show cutS d m = if doneB d = true then keepS (spendS d) m else spendS d by unfold cutS; rw [if_neg (by rw [h.dd, hl]; simp; omega)]; rfl, hd]
  by_cases he : (k + 1) % 2 = 0
  · rw [if_pos he, if_pos (by rw [decide_eq_true he])]
    exact ⟨hdd, by show d.L.take m = a.take m; rw [h.l], h.s, ⟨by show (d.L.take m).length ≤ _; rw [List.length_take]; omega, by show d.S.length ≤ _; rw [h.s]; decide, by show 0 ≤ (m : Int) ∧ (m : Int) ≤ ((d.L.take m).length : Int); rw [List.length_take]; omega, by show 0 ≤ d.rm ∧ d.rm ≤ _; omega, by show 0 ≤ d.st; omega, by show 0 ≤ d.sn + 1 ∧ d.sn + 1 ≤ _; omega, h7⟩⟩
  · rw [if_neg he, if_neg (by rw [decide_eq_false he]; decide)]
    exact ⟨hdd, h.l, h.s, ⟨by show d.L.length ≤ _; omega, by show d.S.length ≤ _; rw [h.s]; decide, by show 0 ≤ d.sy ∧ d.sy ≤ (d.L.length : Int); omega, by show 0 ≤ d.rm ∧ d.rm ≤ _; omega, by show 0 ≤ d.st; omega, by show 0 ≤ d.sn + 1 ∧ d.sn + 1 ≤ _; omega, h7⟩⟩
theorem Uv.swap {a b : List Int} {k : Int} {i : Nat} {d : DS} (h : Uv a k i d) (ha : a.length ≤ 300) (hb : b.length ≤ 300) (hk : 0 ≤ k) (hi : (i : Int) = k) (hi20 : i ≤ 20) :
    Ended (if (k + 1) % 2 = 0 then [] else a) (if (k + 1) % 2 = 0 then b else []) (swapS d b) ∧ swapE d b = 18 := by
  have hg := h.end_ hk hi
  have h1 := h.rm; have h2 := h.st; have h5 := h.sy; have h6 := h.sn; have h7 := op_ok d.st d.sn d.op i h.op hi20
  have hl : d.L.length = a.length := by rw [h.l]
  have hd : doneB d = decide ((k + 1) % 2 = 0) := by rw [doneB, hg, h2]; simp; rfl
  have hdd : (d.dd || goes d.st d.sn) = true := by rw [hg, h.dd]; rfl
  have hf : ¬ d.rm < (b.length : Int) := by omega
  rw [show swapE d b = spR d.st d.sn by unfold swapE; rw [if_neg (by rw [h.dd]; decide), if_neg hf], show spR d.st d.sn = 18 by rw [spR, if_pos hg]]
  refine ⟨?_, rfl⟩
  rw [show swapS d b = if doneB d = true then keepS { spendS d with S := b } 0 else spendS d by unfold swapS; rw [if_neg (by rw [h.dd]; simp only [Bool.false_eq_true, false_or]; exact hf)], hd]
  by_cases he : (k + 1) % 2 = 0
  · rw [if_pos he, if_pos he, if_pos (by rw [decide_eq_true he])]
    exact ⟨hdd, by show d.L.take 0 = []; rfl, rfl, ⟨by show (d.L.take 0).length ≤ _; exact Nat.zero_le _, by show b.length ≤ _; omega, by show 0 ≤ ((0 : Nat) : Int) ∧ ((0 : Nat) : Int) ≤ ((d.L.take 0).length : Int); exact ⟨by decide, by simp⟩, by show 0 ≤ d.rm ∧ d.rm ≤ _; omega, by show 0 ≤ d.st; omega, by show 0 ≤ d.sn + 1 ∧ d.sn + 1 ≤ _; omega, h7⟩⟩
  · rw [if_neg he, if_neg he, if_neg (by rw [decide_eq_false he]; decide)]
    exact ⟨hdd, h.l, h.s, ⟨by show d.L.length ≤ _; omega, by show d.S.length ≤ _; rw [h.s]; decide, by show 0 ≤ d.sy ∧ d.sy ≤ (d.L.length : Int); omega, by show 0 ≤ d.rm ∧ d.rm ≤ _; omega, by show 0 ≤ d.st; omega, by show 0 ≤ d.sn + 1 ∧ d.sn + 1 ≤ _; omega, h7⟩⟩
theorem first_up (a : List Int) (ha : a.length ≤ 300) (k : Int) : Uv a k 0 (stopS (first a) (k + 1)) := by
  have h := (first_ok a ha).1
  have hf : ¬ (newS 100000).rm < ((newS 100000).L.length : Int) + (newS 100000).S.length + a.length := by simp [newS]; omega
  have e1 : appendS (newS 100000) a = spendS { newS 100000 with L := a } := by unfold appendS; rw [if_neg (by simp only [newS, Bool.false_eq_true, false_or]; exact hf)]; rfl
  have e2 : first a = { spendS (spendS { newS 100000 with L := a }) with sy := a.length } := by
    unfold first
    rw [e1]
    unfold syncS
    rw [if_neg (by show ¬ (false || goes 0 0) = true; decide), if_neg (by show ¬ goes 0 (0 + 1) = true; decide)]
    rfl
  refine ⟨h.rm, rfl, h.dd, ?_, ?_, ?_, rfl, h.op⟩
  · show (first a).L = a; rw [e2]; rfl
  · show (first a).S = []; rw [e2]; rfl
  · show (first a).sy = a.length; rw [e2]
theorem Ended.logs {B g : Nat} {l s : List Int} {d : DS} (h : Ended l s d) (w : World) (hW : Dk w B g d) :
    Calls Try.prog 25 #[.pointer (some ⟨g, 0, none⟩)] w fun e w' => (∃ A q, e = .returned (.slice A l.length q) ∧ Has w' w'.heap.size A (bs l)) ∧ w.grownBy w' none :=
  (log_any B g d w hW (by have := h.ok.l; omega)).mono fun _ _ ⟨⟨v, he, ho⟩, hg⟩ => by
    obtain ⟨A, q, rfl⟩ := own_slice ho
    rw [h.l] at he ho
    exact ⟨⟨A, q, he, Has.own ho⟩, hg⟩
theorem Ended.snaps {B g : Nat} {l s : List Int} {d : DS} (h : Ended l s d) (w : World) (hW : Dk w B g d) :
    Calls Try.prog 26 #[.pointer (some ⟨g, 0, none⟩)] w fun e w' => (∃ A q, e = .returned (.slice A s.length q) ∧ Has w' w'.heap.size A (bs s)) ∧ w.grownBy w' none :=
  (snap_any B g d w hW (by have := h.ok.s; omega)).mono fun _ _ ⟨⟨v, he, ho⟩, hg⟩ => by
    obtain ⟨A, q, rfl⟩ := own_slice ho
    rw [h.s] at he ho
    exact ⟨⟨A, q, he, Has.own ho⟩, hg⟩
theorem Ended.dead {B g : Nat} {l s : List Int} {d : DS} (h : Ended l s d) (w : World) (hW : Dk w B g d) :
    Calls Try.prog 27 #[.pointer (some ⟨g, 0, none⟩)] w fun e w' => e = .returned (.bool true) ∧ w = w' := by
  have := dead_any B g d w hW
  rw [h.dd] at this
  exact this
theorem Ended.sync {B g : Nat} {l s : List Int} {d : DS} (h : Ended l s d) (w : World) (hW : Dk w B g d) :
    Calls Try.prog 15 #[.pointer (some ⟨g, 0, none⟩)] w fun e w' => e = .returned (.int .i64 18) ∧ Dk w' B g d ∧ w.grownBy w' (some g) := by
  have := sync_any B g d w hW h.ok
  rw [show syncE d = 18 by unfold syncE; rw [if_pos h.dd], show syncS d = d by unfold syncS; rw [if_pos h.dd]] at this
  exact this
theorem Ended.cut {B g : Nat} {l s : List Int} {d : DS} (h : Ended l s d) (w : World) (hW : Dk w B g d) :
    Calls Try.prog 23 #[.pointer (some ⟨g, 0, none⟩), .int .i64 0] w fun e w' => e = .returned (.int .i64 18) ∧ Dk w' B g d ∧ w.grownBy w' (some g) := by
  have := cut_any B g d 0 w hW h.ok
  rw [show cutE d 0 = 18 by unfold cutE; rw [if_pos h.dd], show cutS d 0 = d by unfold cutS; rw [if_pos (.inl h.dd)]] at this
  exact this
set_option maxRecDepth 100000 in
set_option maxHeartbeats 2000000 in
theorem turns_core (A B : Option Addr) (ca cb : Nat) (a b : List Int) (n first0 : Int) (sw : Bool) (w : World) (hA : Has w w.heap.size A (bs a)) (hB : Has w w.heap.size B (bs b)) (hca : a.length ≤ ca)
    (n1 : -9223372036854775808 ≤ n) (n2 : n ≤ 9223372036854775807) (f1 : -9223372036854775808 ≤ first0) (f2 : first0 ≤ 9223372036854775807) (ha : a.length ≤ 300) (hb : b.length ≤ 300) :
    Calls Try.prog 5 #[.slice A a.length ca, .slice B b.length cb, .int .i64 n, .bool sw, .int .i64 first0] w fun e w' => e = .returned (.bool true) ∧ Below w.heap.size w w' := by
  have t1 : ¬ (300 : Int) < (a.length : Int) := by omega
  have t2 : ¬ (300 : Int) < (b.length : Int) := by omega
  have KN := fun W => Lib.hid (known_any W)
  have WK := fun W => Lib.hid (within_any first0 3 f1 f2 (by omega) (by omega) W)
  have pq1 := Int.emod_nonneg first0 (show (3 : Int) ≠ 0 by decide)
  have pq2 := Int.emod_lt_of_pos first0 (show (0 : Int) < 3 by decide)
  obtain ⟨q, hq⟩ : ∃ q, q = first0 % 3 := ⟨_, rfl⟩
  rw [← hq] at WK pq1 pq2
  have WM := fun W => Lib.hid (within_any n ((a.length : Int) + 1) n1 n2 (by omega) (by omega) W)
  have pm1 := Int.emod_nonneg n (show ((a.length : Int) + 1) ≠ 0 by omega)
  have pm2 := Int.emod_lt_of_pos n (show (0 : Int) < (a.length : Int) + 1 by omega)
  obtain ⟨m, hm⟩ : ∃ m : Nat, (m : Int) = n % ((a.length : Int) + 1) := ⟨(n % ((a.length : Int) + 1)).toNat, by omega⟩
  rw [← hm] at WM pm2
  have hml : m ≤ a.length := by omega
  have hw0 : IntKind.i64.wrap (q + 1) = q + 1 := by rw [IntKind.wrap_i64]; omega
  obtain ⟨_, g2, g3, g4⟩ := first_ok a ha
  have F1 := Lib.hid (first_up a ha q)
  have F4 := Lib.hid g4
  have HA := Lib.hid hA
  have HB := Lib.hid hB
  have HCA : Hid (∀ W : World, Below w.heap.size w W → (convert 31 9 (.slice A a.length ca)).run Try.prog W = .ok (.string (strOfNums a)) W) := fun W hW => conv_string (hA.below hW) ca
  have HCB : Hid (∀ W : World, Below w.heap.size w W → (convert 31 9 (.slice B b.length cb)).run Try.prog W = .ok (.string (strOfNums b)) W) := fun W hW => conv_string (hB.below hW) cb
  have HCM : Hid (∀ W : World, Below w.heap.size w W → (convert 31 9 (.slice A m ca)).run Try.prog W = .ok (.string (strOfNums (a.take m))) W) := fun W hW => by
    have h := (hA.below hW).take m
    rw [show (bs a).take m = bs (a.take m) by rw [bs, ← List.map_take]; rfl] at h
    have h2 := conv_string h ca
    rw [show (a.take m).length = m by rw [List.length_take]; omega] at h2
    exact h2
  have hgb : Hid (b.length ≤ 300) := hb
  have hga : Hid ((a.length : Int) ≤ 300 ∧ a.length ≤ 300) := ⟨by omega, ha⟩
  clear hA hB hq g4 n1 n2 f1 f2 pm1 hm
  go_enter Try.func5, Try.ntmps5
  go_wp2_with fail
  refine (KN _).out.mono ?_
  rintro _ w1 ⟨rfl, b1⟩
  have z1 := b1.size
  have NW := Lib.hid (new_any w.heap.size 100000 w1 (by decide) (by decide) z1)
  go_wp2_with fail
  refine NW.out.mono ?_
  rintro _ w2 ⟨g, rfl, D2, gg2⟩
  have hgB := D2.lt
  have b2 : Below w.heap.size w w2 := b1.trans (bel gg2 (fun _ h => by cases h) z1)
  have AP := append_any w.heap.size g (newS 100000) A ca a w2 D2 (new_ok 100000 (by decide) (by decide)) ((HA.out.below b2).more b2.size) (by omega)
  rw [g2] at AP
  have AP := Lib.hid AP
  clear D2 NW gg2 b1
  go_wp2_with fail
  refine AP.out.mono ?_
  rintro _ w3 ⟨rfl, D3, b3⟩
  have z3 := b3.size
  have SY := sync_any w.heap.size g _ w3 D3 F4.out
  rw [g3] at SY
  have SY := Lib.hid SY
  clear D3 AP
  go_wp2_with fail
  refine SY.out.mono ?_
  rintro _ w4 ⟨rfl, D4, g4⟩
  have b4 : Below w.heap.size w w4 := (b2.trans b3).trans (bel g4 (fun k hk => by cases hk; exact hgB.1) (by have := b2.size; omega))
  have D4 : Hid (Dk w4 w.heap.size g (first a)) := D4
  have z4 := b4.size
  clear SY g4 b3 b2 g2 g3 F4
  go_wp2_with fail
  refine (WK _).out.mono ?_
  rintro _ w5 ⟨rfl, rfl⟩
  have ST := Lib.hid (stop_any w.heap.size g (first a) (q + 1) w4 D4.out)
  clear D4
  go_wp2_with fail
  refine ST.out.mono ?_
  rintro _ w5 ⟨rfl, D5, g5⟩
  have b5 : Below w.heap.size w w5 := b4.trans (bel g5 (fun k hk => by cases hk; exact hgB.1) z4)
  have D5 := Lib.hid D5
  clear ST b4 g5
  go_wp2_with fail
  go_loopw [14] (fun si wr => ∃ (i : Nat) (d : DS), (i : Int) ≤ q ∧ si = .int .i64 i ∧ Hid (Dk wr w.heap.size g d) ∧ Hid (Uv a q i d) ∧ Below w.heap.size w wr) (fun si _ => 20 - (intOf si).toNat)
  case atStart => exact ⟨0, _, by omega, rfl, D5, F1, b5⟩
  case round =>
    clear D5 F1 b5
    obtain ⟨i, d, hi, rfl, HD, HS, hB⟩ := hrel
    have hzr := hB.size
    have t0 : (0 : Int) ≤ (i : Int) := by omega
    by_cases hlt : (i : Int) < q
    · have hes : IntKind.i64.wrap ((i : Int) + 1) = (i : Int) + 1 := by rw [IntKind.wrap_i64]; omega
      have AP := append_any w.heap.size g d none 0 [] wr HD.out (HS.out.ok hga.out.2 (by omega) (by omega)) Has.nil (by decide)
      have T2 := HS.out.append hga.out.2 hlt
      rw [T2.2] at AP
      obtain ⟨d2, hd2⟩ : ∃ d2, d2 = appendS d [] := ⟨_, rfl⟩
      rw [← hd2] at AP
      have SV2 : Hid (Uv a q (i + 1) d2) := by rw [hd2]; exact T2.1
      have AP : Hid (Calls Try.prog 13 #[.pointer (some ⟨g, 0, none⟩), .slice none 0 0] wr fun e w' => e = .returned (.int .i64 0) ∧ Dk w' w.heap.size g d2 ∧ Below w.heap.size wr w') := AP
      clear T2 hd2
      go_wp2_with fail
      refine AP.out.mono ?_
      rintro _ w6 ⟨rfl, D6, b6⟩
      go_wp2_with fail
      go_roundw
      case rel => exact ⟨i + 1, d2, by omega, by go_num, D6, SV2, hB.trans b6⟩
      case measure => simp [intOf]; omega
    · have hiq : (i : Int) = q := by omega
      have hwa : IntKind.i64.wrap ((a.length : Int) + 1) = (a.length : Int) + 1 := by rw [IntKind.wrap_i64]; omega
      have OKd := Lib.hid (HS.out.ok hga.out.2 (by omega) (by omega))
      have hi20 : i ≤ 20 := by omega
      have C1 := Lib.hid (HS.out.cut hga.out.2 (by omega) hiq hi20 hml)
      have C2 := Lib.hid (HS.out.swap (b := b) hga.out.2 (by omega) (by omega) hiq hi20)
      have t3 : (q + 1) % 2 = 0 ∨ (q + 1) % 2 = 1 := by omega
      have HBW : Hid (∀ W, wr.grownBy W (some g) → Has W W.heap.size B (bs b)) := fun W hW => by
        have hb6 := hB.trans (bel hW (fun k hk => by cases hk; exact hgB.1) hzr)
        exact (HB.out.below hb6).more hb6.size
      clear HS
      obtain ⟨lm, hlm⟩ : ∃ lm, lm = a.take m := ⟨_, rfl⟩
      rw [← hlm] at HCM C1
      clear hlm
      have ht3 : (q + 1) % 2 = 0 ∨ ¬ (q + 1) % 2 = 0 := by omega
      clear t3
      cases sw
      · rcases ht3 with t3 | t3
        · as_aux_lemma =>
            have CT : Hid (Calls Try.prog 23 #[.pointer (some ⟨g, 0, none⟩), .int .i64 m] wr fun e w' => e = .returned (.int .i64 18) ∧ Dk w' w.heap.size g (cutS d m) ∧ wr.grownBy w' (some g)) := by
              have h := cut_any w.heap.size g d m wr HD.out OKd.out
              rw [C1.out.2] at h
              exact h
            have E1 := C1.out.1
            rw [if_pos t3] at E1
            obtain ⟨d3, hd3⟩ : ∃ d3, d3 = cutS d m := ⟨_, rfl⟩
            rw [← hd3] at CT E1
            have E1 := Lib.hid E1
            have t4 : ((q + 1) % 2 == 0) = true := by rw [beq_iff_eq]; exact t3
            clear hd3 C1 C2 t3 OKd HBW
            go_wp2_with fail
            refine (WM _).out.mono ?_
            rintro _ w5b ⟨rfl, rfl⟩
            go_wp2_with fail
            refine CT.out.mono ?_
            rintro _ w6 ⟨rfl, D6, g6⟩
            have b6 := hB.trans (bel g6 (fun k hk => by cases hk; exact hgB.1) hzr)
            have hca6 := HCA.out w6 b6
            have hcb6 : ∀ k : Nat, (convert 31 9 (.slice B b.length cb)).run Try.prog (w6.drewN k) = .ok (.string (strOfNums b)) (w6.drewN k) := fun k => HCB.out _ (drewB b6 k)
            have hcm6 := HCM.out w6 b6
            go_wp2_with fail
            refine (E1.out.dead _ D6).mono ?_
            rintro _ w7 ⟨rfl, rfl⟩
            go_wp2_with fail
            refine (E1.out.logs _ D6).mono ?_
            rintro _ w7 ⟨⟨A7, c7, rfl, H7⟩, g7⟩
            have cv7 : (convert 31 9 (.slice A7 lm.length c7)).run Try.prog w7 = .ok (.string (strOfNums lm)) w7 := conv_string H7 c7
            have D7 := D6.below g7
            have z6 := b6.size
            have b7 := b6.trans (bel g7 (fun _ h => by cases h) z6)
            have z7 := b7.size
            go_wp2_with fail
            refine (E1.out.snaps _ D7).mono ?_
            rintro _ w8 ⟨⟨A8, c8, rfl, H8⟩, g8⟩
            have cv8 : (convert 31 9 (.slice A8 0 c8)).run Try.prog w8 = .ok (.string { data := #[] }) w8 := conv_string H8 c8
            have D8 := D7.below g8
            have b8 := b7.trans (bel g8 (fun _ h => by cases h) z7)
            have z8 := b8.size
            go_wp2_with fail
            refine (E1.out.sync _ D8).mono ?_
            rintro _ w9 ⟨rfl, D9, g9⟩
            have b9 := b8.trans (bel g9 (fun k hk => by cases hk; exact hgB.1) z8)
            have z9 := b9.size
            go_wp2_with fail
            refine (E1.out.cut _ D9).mono ?_
            rintro _ w10 ⟨rfl, D10, g10⟩
            have b10 := b9.trans (bel g10 (fun k hk => by cases hk; exact hgB.1) z9)
            go_wp2_with fail
            go_ret
            exact ⟨rfl, b10⟩
        · as_aux_lemma =>
            have CT : Hid (Calls Try.prog 23 #[.pointer (some ⟨g, 0, none⟩), .int .i64 m] wr fun e w' => e = .returned (.int .i64 18) ∧ Dk w' w.heap.size g (cutS d m) ∧ wr.grownBy w' (some g)) := by
              have h := cut_any w.heap.size g d m wr HD.out OKd.out
              rw [C1.out.2] at h
              exact h
            have E1 := C1.out.1
            rw [if_neg t3] at E1
            obtain ⟨d3, hd3⟩ : ∃ d3, d3 = cutS d m := ⟨_, rfl⟩
            rw [← hd3] at CT E1
            have E1 := Lib.hid E1
            have t4 : ((q + 1) % 2 == 0) = false := by rw [beq_eq_false_iff_ne]; exact t3
            clear hd3 C1 C2 t3 OKd HBW
            go_wp2_with fail
            refine (WM _).out.mono ?_
            rintro _ w5b ⟨rfl, rfl⟩
            go_wp2_with fail
            refine CT.out.mono ?_
            rintro _ w6 ⟨rfl, D6, g6⟩
            have b6 := hB.trans (bel g6 (fun k hk => by cases hk; exact hgB.1) hzr)
            have hca6 := HCA.out w6 b6
            have hcb6 : ∀ k : Nat, (convert 31 9 (.slice B b.length cb)).run Try.prog (w6.drewN k) = .ok (.string (strOfNums b)) (w6.drewN k) := fun k => HCB.out _ (drewB b6 k)
            have hcm6 := HCM.out w6 b6
            go_wp2_with fail
            refine (E1.out.dead _ D6).mono ?_
            rintro _ w7 ⟨rfl, rfl⟩
            go_wp2_with fail
            refine (E1.out.logs _ D6).mono ?_
            rintro _ w7 ⟨⟨A7, c7, rfl, H7⟩, g7⟩
            have cv7 : (convert 31 9 (.slice A7 a.length c7)).run Try.prog w7 = .ok (.string (strOfNums a)) w7 := conv_string H7 c7
            have D7 := D6.below g7
            have z6 := b6.size
            have b7 := b6.trans (bel g7 (fun _ h => by cases h) z6)
            have z7 := b7.size
            go_wp2_with fail
            refine (E1.out.snaps _ D7).mono ?_
            rintro _ w8 ⟨⟨A8, c8, rfl, H8⟩, g8⟩
            have cv8 : (convert 31 9 (.slice A8 0 c8)).run Try.prog w8 = .ok (.string { data := #[] }) w8 := conv_string H8 c8
            have D8 := D7.below g8
            have b8 := b7.trans (bel g8 (fun _ h => by cases h) z7)
            have z8 := b8.size
            go_wp2_with fail
            refine (E1.out.sync _ D8).mono ?_
            rintro _ w9 ⟨rfl, D9, g9⟩
            have b9 := b8.trans (bel g9 (fun k hk => by cases hk; exact hgB.1) z8)
            have z9 := b9.size
            go_wp2_with fail
            refine (E1.out.cut _ D9).mono ?_
            rintro _ w10 ⟨rfl, D10, g10⟩
            have b10 := b9.trans (bel g10 (fun k hk => by cases hk; exact hgB.1) z9)
            go_wp2_with fail
            go_ret
            exact ⟨rfl, b10⟩
      · rcases ht3 with t3 | t3
        · as_aux_lemma =>
            have CT : Hid (Calls Try.prog 21 #[.pointer (some ⟨g, 0, none⟩), .slice B b.length cb] wr fun e w' => e = .returned (.int .i64 18) ∧ Dk w' w.heap.size g (swapS d b) ∧ wr.grownBy w' (some g)) := by
              have h := swap_any w.heap.size g d B cb b wr HD.out OKd.out HBW.out (by have := hgb.out; omega)
              rw [C2.out.2] at h
              exact h
            have E1 := C2.out.1
            rw [if_pos t3, if_pos t3] at E1
            obtain ⟨d3, hd3⟩ : ∃ d3, d3 = swapS d b := ⟨_, rfl⟩
            rw [← hd3] at CT E1
            have E1 := Lib.hid E1
            have t4 : ((q + 1) % 2 == 0) = true := by rw [beq_iff_eq]; exact t3
            clear hd3 C1 C2 t3 OKd HBW
            go_wp2_with fail
            refine (WM _).out.mono ?_
            rintro _ w5b ⟨rfl, rfl⟩
            go_wp2_with fail
            refine CT.out.mono ?_
            rintro _ w6 ⟨rfl, D6, g6⟩
            have b6 := hB.trans (bel g6 (fun k hk => by cases hk; exact hgB.1) hzr)
            have hca6 := HCA.out w6 b6
            have hcb6 : ∀ k : Nat, (convert 31 9 (.slice B b.length cb)).run Try.prog (w6.drewN k) = .ok (.string (strOfNums b)) (w6.drewN k) := fun k => HCB.out _ (drewB b6 k)
            have hcm6 := HCM.out w6 b6
            go_wp2_with fail
            go_quiet (fail)
            have D6 : Dk (w6.drewN nq) w.heap.size g d3 := D6.below (only_drewN (only_refl w6 none) _)
            have b6 : Below w.heap.size w (w6.drewN nq) := drewB b6 nq
            go_wp2_with fail
            refine (E1.out.dead _ D6).mono ?_
            rintro _ w7 ⟨rfl, rfl⟩
            go_wp2_with fail
            refine (E1.out.logs _ D6).mono ?_
            rintro _ w7 ⟨⟨A7, c7, rfl, H7⟩, g7⟩
            have cv7 : (convert 31 9 (.slice A7 0 c7)).run Try.prog w7 = .ok (.string { data := #[] }) w7 := conv_string H7 c7
            have D7 := D6.below g7
            have z6 := b6.size
            have b7 := b6.trans (bel g7 (fun _ h => by cases h) z6)
            have z7 := b7.size
            go_wp2_with fail
            refine (E1.out.snaps _ D7).mono ?_
            rintro _ w8 ⟨⟨A8, c8, rfl, H8⟩, g8⟩
            have cv8 : (convert 31 9 (.slice A8 b.length c8)).run Try.prog w8 = .ok (.string (strOfNums b)) w8 := conv_string H8 c8
            have D8 := D7.below g8
            have b8 := b7.trans (bel g8 (fun _ h => by cases h) z7)
            have z8 := b8.size
            go_wp2_with fail
            refine (E1.out.sync _ D8).mono ?_
            rintro _ w9 ⟨rfl, D9, g9⟩
            have b9 := b8.trans (bel g9 (fun k hk => by cases hk; exact hgB.1) z8)
            have z9 := b9.size
            go_wp2_with fail
            refine (E1.out.cut _ D9).mono ?_
            rintro _ w10 ⟨rfl, D10, g10⟩
            have b10 := b9.trans (bel g10 (fun k hk => by cases hk; exact hgB.1) z9)
            go_wp2_with fail
            go_ret
            exact ⟨rfl, b10⟩
        · as_aux_lemma =>
            have CT : Hid (Calls Try.prog 21 #[.pointer (some ⟨g, 0, none⟩), .slice B b.length cb] wr fun e w' => e = .returned (.int .i64 18) ∧ Dk w' w.heap.size g (swapS d b) ∧ wr.grownBy w' (some g)) := by
              have h := swap_any w.heap.size g d B cb b wr HD.out OKd.out HBW.out (by have := hgb.out; omega)
              rw [C2.out.2] at h
              exact h
            have E1 := C2.out.1
            rw [if_neg t3, if_neg t3] at E1
            obtain ⟨d3, hd3⟩ : ∃ d3, d3 = swapS d b := ⟨_, rfl⟩
            rw [← hd3] at CT E1
            have E1 := Lib.hid E1
            have t4 : ((q + 1) % 2 == 0) = false := by rw [beq_eq_false_iff_ne]; exact t3
            clear hd3 C1 C2 t3 OKd HBW
            go_wp2_with fail
            refine (WM _).out.mono ?_
            rintro _ w5b ⟨rfl, rfl⟩
            go_wp2_with fail
            refine CT.out.mono ?_
            rintro _ w6 ⟨rfl, D6, g6⟩
            have b6 := hB.trans (bel g6 (fun k hk => by cases hk; exact hgB.1) hzr)
            have hca6 := HCA.out w6 b6
            have hcb6 : ∀ k : Nat, (convert 31 9 (.slice B b.length cb)).run Try.prog (w6.drewN k) = .ok (.string (strOfNums b)) (w6.drewN k) := fun k => HCB.out _ (drewB b6 k)
            have hcm6 := HCM.out w6 b6
            go_wp2_with fail
            refine (E1.out.dead _ D6).mono ?_
            rintro _ w7 ⟨rfl, rfl⟩
            go_wp2_with fail
            refine (E1.out.logs _ D6).mono ?_
            rintro _ w7 ⟨⟨A7, c7, rfl, H7⟩, g7⟩
            have cv7 : (convert 31 9 (.slice A7 a.length c7)).run Try.prog w7 = .ok (.string (strOfNums a)) w7 := conv_string H7 c7
            have D7 := D6.below g7
            have z6 := b6.size
            have b7 := b6.trans (bel g7 (fun _ h => by cases h) z6)
            have z7 := b7.size
            go_wp2_with fail
            refine (E1.out.snaps _ D7).mono ?_
            rintro _ w8 ⟨⟨A8, c8, rfl, H8⟩, g8⟩
            have cv8 : (convert 31 9 (.slice A8 0 c8)).run Try.prog w8 = .ok (.string { data := #[] }) w8 := conv_string H8 c8
            have D8 := D7.below g8
            have b8 := b7.trans (bel g8 (fun _ h => by cases h) z7)
            have z8 := b8.size
            go_wp2_with fail
            refine (E1.out.sync _ D8).mono ?_
            rintro _ w9 ⟨rfl, D9, g9⟩
            have b9 := b8.trans (bel g9 (fun k hk => by cases hk; exact hgB.1) z8)
            have z9 := b9.size
            go_wp2_with fail
            refine (E1.out.cut _ D9).mono ?_
            rintro _ w10 ⟨rfl, D10, g10⟩
            have b10 := b9.trans (bel g10 (fun k hk => by cases hk; exact hgB.1) z9)
            go_wp2_with fail
            go_ret
            exact ⟨rfl, b10⟩

theorem diskTurns_walk (A B : Option Addr) (ca cb : Nat) (a b : List Int) (n first0 : Int) (sw : Bool) (w : World) (hA : Has w w.heap.size A (bs a)) (hB : Has w w.heap.size B (bs b)) (hca : a.length ≤ ca)
    (n1 : -9223372036854775808 ≤ n) (n2 : n ≤ 9223372036854775807) (f1 : -9223372036854775808 ≤ first0) (f2 : first0 ≤ 9223372036854775807) :
    Calls Try.prog 5 #[.slice A a.length ca, .slice B b.length cb, .int .i64 n, .bool sw, .int .i64 first0] w fun e w' => e = .returned (.bool true) ∧ Below w.heap.size w w' := by
  have KN := fun W => Lib.hid (known_any W)
  by_cases ha : a.length ≤ 300
  · by_cases hb : b.length ≤ 300
    · exact turns_core A B ca cb a b n first0 sw w hA hB hca n1 n2 f1 f2 ha hb
    · have t1 : ¬ (300 : Int) < (a.length : Int) := by omega
      have t2 : (300 : Int) < (b.length : Int) := by omega
      clear hA hB
      go_enter Try.func5, Try.ntmps5
      go_wp2_with fail
      refine (KN _).out.mono ?_
      rintro _ w1 ⟨rfl, b1⟩
      go_wp2_with fail
      go_ret
      exact ⟨rfl, b1⟩
  · have t1 : (300 : Int) < (a.length : Int) := by omega
    clear hA hB
    go_enter Try.func5, Try.ntmps5
    go_wp2_with fail
    refine (KN _).out.mono ?_
    rintro _ w1 ⟨rfl, b1⟩
    go_wp2_with fail
    go_ret
    exact ⟨rfl, b1⟩
end Go.Proofs.Ytmjfemnjkgfgfaa
