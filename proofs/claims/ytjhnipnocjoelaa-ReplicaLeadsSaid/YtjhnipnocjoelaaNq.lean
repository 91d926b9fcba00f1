/- The law's known; nodes that are kept in variables. No condition. -/
import Derived.Test.YtjhnipnocjoelaaNp
import Derived.Deep.WholeRow
namespace Go.Proofs.Ytjhnipnocjoelaa
open Go.RowKit Go.Deep
/-- A node is laid in a new variable. -/
theorem wpList_store_new {ops : Array Oper} {rest : List Oper} {o : Oper} {a : Act} {Q : Exit → Act → World → Prop} {w0 : World} {cur : Array Value} (hgd : o.guard = none) (x y : Operand) (ho : o.op = .store 37 x y) (n : Nd) (A : Option Addr) (k c : Nat) (hz : cur.size = 19)
    (hx : a.eval x = .pointer (some ⟨w0.heap.size, 0, none⟩)) (hy : a.eval y = n.val (.slice A k c)) (h : wpList Try.prog ops Q rest (a.put o.dst undef) (w0.alloc (.cells (n.cells (.slice A k c)) 37))) : wpList Try.prog ops Q (o :: rest) a (w0.alloc (.cells cur 37)) := by
  refine wpList_store_at hgd _ x y ho _ _ _ (store_node n A k c (heap_alloc_new w0 _) hz) hx hy ?_
  rw [World.setRow_alloc_new]
  exact h
theorem NB.new (w : World) (n : Nd) (L : Value) : NB (w.alloc (.cells (n.cells L) 37)) w.heap.size n L := ⟨heap_alloc_new w _⟩
theorem NB.grow {w w' : World} {b : Nat} {n : Nd} {L : Value} (h : NB w b n L) (hg : w.grownBy w' none) : NB w' b n L := ⟨(hg.block b (Array.getElem?_eq_some_iff.1 h.at_).1 (by simp)).trans h.at_⟩
theorem NB.lt {w : World} {b : Nat} {n : Nd} {L : Value} (h : NB w b n L) : b < w.heap.size := (Array.getElem?_eq_some_iff.1 h.at_).1
theorem NB.cell {w : World} {b : Nat} {n : Nd} {L : Value} (h : NB w b n L) (k : Nat) (u : Value) (hu : (n.cells L)[k]? = some u) : w.cell? ⟨b, k, none⟩ = some u := by
  simp [World.cell?, h.at_, hu]
theorem NB.over {w : World} {b : Nat} {n n' : Nd} {L L' : Value} (h : NB w b n L) : NB (w.setRow b (n'.cells L')) b n' L' ∧ w.grownBy (w.setRow b (n'.cells L')) (some b) := ⟨⟨row_at h.at_⟩, only_row _⟩
theorem Msgs.skip {R : Nat → Mg → Prop} {id : Int} {k : Nat} {l : List Mg} (h : Msgs R id (k + 1) l) (e : (k : Int) = id) : Msgs R id k l := by
  unfold Msgs at h
  rwa [if_pos e] at h
theorem Msgs.last {R : Nat → Mg → Prop} {id : Int} {k : Nat} {l : List Mg} (h : Msgs R id (k + 1) l) (e : (k : Int) ≠ id) : ∃ l' m, l = l' ++ [m] ∧ Msgs R id k l' ∧ R k m := by
  unfold Msgs at h
  rwa [if_neg e] at h
theorem msgs_two {f : Nat → Mg} {S : List Mg} (h : Msgs (fun j m => m = f j) 0 3 S) : S = [f 1, f 2] := by
  obtain ⟨l2, m2, e2, h2, r2⟩ := Msgs.last (k := 2) h (by decide)
  obtain ⟨l1, m1, e1, h1, r1⟩ := Msgs.last (k := 1) h2 (by decide)
  have h0 : l1 = [] := Msgs.skip (k := 0) h1 (by decide)
  rw [e2, e1, h0, r1, r2]
  rfl
theorem Has.msg {w : World} {lim : Nat} {B : Option Addr} {m : Mg} {r : List Mg} (h : Has w lim B (ms (m :: r))) : ∃ b off, B = some ⟨b, off, none⟩ ∧ b < lim ∧ w.cell? ⟨b, off, none⟩ = some (.int .i64 m.kind) ∧ w.cell? ⟨b, off + 7, none⟩ = some (.bool m.yes) ∧ w.cell? ⟨b, off + 3, none⟩ = some (.int .i64 m.term) := by
  have e : ms (m :: r) = m.cs ++ ms r := rfl
  rcases h with h | ⟨b, off, hB, hb, hc⟩
  · rw [e] at h; cases h
  · refine ⟨b, off, hB, hb, ?_, ?_, ?_⟩
    · have := hc 0 _ (by rw [e]; rfl)
      simpa using this
    · exact hc 7 _ (by rw [e]; rfl)
    · exact hc 3 _ (by rw [e]; rfl)
def waitN (k : Nat) : Nd := { newN 0 with wait := k }
set_option maxRecDepth 100000 in
set_option maxHeartbeats 4000000 in
theorem known_any (w : World) : Calls Try.prog 9 #[] w fun e w' => e = .returned (.bool true) ∧ w.grownBy w' none := by
  have NA := new_any 0 (by omega) w
  rw [show ((0 : Nat) : Int) = 0 from rfl] at NA
  have NAH := Lib.hid NA
  clear NA
  go_enter Try.func9, Try.ntmps9
  go_wp2_with fail
  refine NAH.out.mono ?_
  rintro _ w1 ⟨rfl, g1⟩
  go_upto_region 2 with (refine wpList_store_new rfl _ _ rfl (newN 0) none 0 0 rfl rfl rfl ?_)
  have N2 := NB.new w1 (newN 0) (.slice none 0 0)
  have g2 := only_alloc g1 (.cells ((newN 0).cells (.slice none 0 0)) 37)
  have hb := g1.size
  obtain ⟨nb, hnb⟩ : ∃ nb, w1.heap.size = nb := ⟨_, rfl⟩
  obtain ⟨w2, hw2⟩ : ∃ w2, w1.alloc (.cells ((newN 0).cells (.slice none 0 0)) 37) = w2 := ⟨_, rfl⟩
  rw [hnb, hw2] at N2
  rw [hnb] at hb
  rw [hw2] at g2
  rw [hw2]
  try rw [hnb]
  have HN2 := Lib.hid (show NB w2 nb (waitN 0) (.slice none 0 0) from N2)
  have HG2 := Lib.hid g2
  have HB := Lib.hid hb
  clear N2 g2 g1 hb hnb hw2 NAH
  go_wp2_with fail
  go_loopw [2] (fun s2 wr => ∃ (k : Nat) (A : Option Addr) (c : Nat), k ≤ 4 ∧ s2 = .int .i64 k ∧ Hid (NB wr nb (waitN k) (.slice A 0 c)) ∧ Hid (w.grownBy wr none)) (fun s2 _ => 4 - (intOf s2).toNat)
  case atStart => exact ⟨0, none, 0, by omega, rfl, HN2, HG2⟩
  case round =>
    clear HN2 HG2
    obtain ⟨k, A, c, hk, rfl, HNB, HG⟩ := hrel
    by_cases hk4 : k < 4
    · have t1 : (k : Int) < 4 := by omega
      have LD := Lib.hid HNB.out.load
      have TK0 := (tick_wait (waitN k) A c 0 wr rfl (by omega) (by show (0 : Int) ≠ 2; omega) ⟨⟨by show (0 : Int) ≤ 0; omega, by show (0 : Int) ≤ _; omega⟩, by show (0 : Nat) ≤ _; omega⟩ (.inl rfl) (by show (0 : Int) ≤ (k : Int); omega) (by show (k : Int) + 1 < 5 + 3 * ((0 : Nat) : Int); omega))
      rw [show ({ waitN k with wait := (waitN k).wait + 1 } : Nd) = waitN (k + 1) from rfl] at TK0
      have TK := Lib.hid TK0
      clear TK0
      go_wp2_with (refine wpList_load_at rfl 37 (Operand.tmp 1) rfl _ _ LD.out rfl ?_)
      refine TK.out.mono ?_
      rintro _ w3 ⟨A2, c2, B2, cb2, S2, rfl, rfl, hA2, hc2, hB2, hcb2, g3⟩
      have N3 := HNB.out.grow g3
      have g4 := World.grownBy_alloc w3 (.cells ((waitN (k + 1)).cells (.slice A2 (waitN (k + 1)).log.length c2)) 37) none
      have N4 := N3.grow g4
      have M4 := NB.new w3 (waitN (k + 1)) (.slice A2 (waitN (k + 1)).log.length c2)
      have G4 := only_step (only_step HG.out g3 (fun _ h => .inl h)) g4 (fun _ h => .inl h)
      obtain ⟨w4, hw4⟩ : ∃ w4, w3.alloc (.cells ((waitN (k + 1)).cells (.slice A2 (waitN (k + 1)).log.length c2)) 37) = w4 := ⟨_, rfl⟩
      rw [hw4] at N4 M4 G4
      have HW4 := Lib.hid hw4
      have LM := Lib.hid M4.load
      have ST := Lib.hid (store_node (waitN (k + 1)) A2 (waitN (k + 1)).log.length c2 N4.at_ rfl)
      have HN5 := Lib.hid (N4.over (n' := waitN (k + 1)) (L' := .slice A2 (waitN (k + 1)).log.length c2))
      have HG4 := Lib.hid G4
      clear N3 N4 M4 g3 g4 G4 hw4 hA2 hB2 LD TK HNB HG
      go_upto_region 6 with (refine wpList_store_new rfl _ _ rfl (waitN (k + 1)) A2 (waitN (k + 1)).log.length c2 rfl rfl rfl ?_; rw [HW4.out])
      go_wp2_with (first | (refine wpList_load_at rfl 37 (Operand.tmp 3) rfl _ _ LM.out rfl ?_) | (refine wpList_store_at rfl 37 _ _ rfl _ _ _ ST.out rfl rfl ?_))
      go_roundw
      case rel => exact ⟨k + 1, A2, c2, by omega, by go_num, HN5.out.1, only_step HG4.out HN5.out.2 (fun j hj => by cases hj; exact .inr HB.out)⟩
      case measure => simp [intOf]; omega
    · have hk5 : k = 4 := by omega
      subst hk5
      have t1 : ¬ ((4 : Nat) : Int) < 4 := by omega
      have LD := Lib.hid HNB.out.load
      have TK := Lib.hid (tick_camp (waitN 4) A c 0 wr rfl (by omega) (by show (0 : Int) ≠ 2; omega) ⟨⟨by show (0 : Int) ≤ 0; omega, by show (0 : Int) ≤ _; omega⟩, by show (0 : Nat) ≤ _; omega⟩ (.inl rfl) (by show (0 : Int) ≤ ((4 : Nat) : Int); omega) (by show ((4 : Nat) : Int) ≤ 1000; omega) (by show 5 + 3 * ((0 : Nat) : Int) ≤ ((4 : Nat) : Int) + 1; omega) ⟨by show (0 : Int) ≤ 0; omega, by show (0 : Int) < _; omega⟩)
      go_wp2_with (refine wpList_load_at rfl 37 (Operand.tmp 1) rfl _ _ LD.out rfl ?_)
      refine TK.out.mono ?_
      rintro _ w3 ⟨A2, c2, B2, cb2, S2, rfl, hS2, hA2, hc2, hB2, hcb2, g3⟩
      have hS := msgs_two (f := fun j => Nd.voteM _ (waitN 4).li (waitN 4).lt j) hS2
      obtain ⟨m1, hm1⟩ : ∃ m1, m1 = Nd.voteM { waitN 4 with term := (waitN 4).term + 1 } (waitN 4).li (waitN 4).lt 1 := ⟨_, rfl⟩
      obtain ⟨m2, hm2⟩ : ∃ m2, m2 = Nd.voteM { waitN 4 with term := (waitN 4).term + 1 } (waitN 4).li (waitN 4).lt 2 := ⟨_, rfl⟩
      have hS3 : S2 = [m1, m2] := by rw [hm1, hm2]; exact hS
      have hk1 : m1.kind = 1 := by rw [hm1]; rfl
      clear hS hS2 hm1 hm2
      subst hS3
      obtain ⟨b, off, rfl, hbl, hcb, _⟩ := hB2.msg
      rw [hk1] at hcb
      obtain ⟨nn, hnn⟩ : ∃ x, (waitN 4).camped 0 = x := ⟨_, rfl⟩
      have r1 : nn.role = 1 := by rw [← hnn]; rfl
      have r2 : nn.term = 1 := by rw [← hnn]; rfl
      rw [hnn]
      have M4 := NB.new w3 nn (.slice A2 nn.log.length c2)
      have g4 := World.grownBy_alloc w3 (.cells (nn.cells (.slice A2 nn.log.length c2)) 37) none
      have G4 := only_step (only_step HG.out g3 (fun _ h => .inl h)) g4 (fun _ h => .inl h)
      have e7 := M4.cell 7 (.int .i64 nn.role) rfl
      have e1 := M4.cell 1 (.int .i64 nn.term) rfl
      rw [r1] at e7
      rw [r2] at e1
      have eb := (World.cell?_of_block (a := ⟨b, off, none⟩) (g4.block b hbl (by simp))).trans hcb
      obtain ⟨w4, hw4⟩ : ∃ w4, w3.alloc (.cells (nn.cells (.slice A2 nn.log.length c2)) 37) = w4 := ⟨_, rfl⟩
      rw [hw4] at G4 e7 e1 eb
      have HW4 := Lib.hid hw4
      have HG4 := Lib.hid G4
      clear M4 g4 G4 hw4 hnn r1 r2 hk1 hA2 hB2 hc2 hcb2 g3 TK LD HNB HG hcb hbl
      go_upto_region 10 with (refine wpList_store_new rfl _ _ rfl nn A2 nn.log.length c2 rfl rfl rfl ?_; rw [HW4.out])
      go_wp2_with fail
      go_ret
      exact ⟨rfl, HG4.out⟩
end Go.Proofs.Ytjhnipnocjoelaa
