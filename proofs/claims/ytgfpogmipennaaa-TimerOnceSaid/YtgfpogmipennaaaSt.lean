/- Timers.Set, Cancel, Len, Next, New. No condition of the program's own. -/
import Derived.Test.YtgfpogmipennaaaTs
namespace Go.Proofs.Ytgfpogmipennaaa
open Go.RowKit Go.Deep
theorem zero_int (w : World) : (zeroValue 3).run Try.prog w = .ok (.int .i64 0) w := by kernel_rfl
/-- Where an id stands, as the map tells it. -/
theorem QW.look {w : World} {B : Nat} {v mv : Value} {l : List It} (h : QW w B v mv l) (id : Int) :
    (isIn id l = false ∧ (Instr.lookup 48 mv (.int .i64 id) true).run Try.prog w = .ok (.tuple #[.int .i64 0, .bool false]) w) ∨
    ∃ i, i < l.length ∧ (itm l i).1 = id ∧ (Instr.lookup 48 mv (.int .i64 id) true).run Try.prog w = .ok (.tuple #[.int .i64 (i : Int), .bool true]) w := by
  have kd : Try.prog.underlying 3 = some (.int .i64) := Try.underlying3
  have km : Try.prog.underlying 48 = some (.map 3 3) := Try.underlying48
  rcases h.map with ⟨rfl, rfl⟩ | ⟨b, m, rfl, hm, hI⟩
  · exact .inl ⟨rfl, run_look_nil km kd (zero_int w) id⟩
  · have hr := run_look (P := Try.prog) km kd (zero_int w) hm id
    cases hc : m id with
    | none =>
      rw [hc] at hr
      refine .inl ⟨isIn_false.2 (fun y hy e => ?_), hr⟩
      obtain ⟨i, hi⟩ := List.mem_iff_getElem?.1 hy
      have := (hI id i).2 ⟨i, y.2, by rw [hi, ← e], rfl⟩
      rw [hc] at this
      cases this
    | some q =>
      obtain ⟨i, t, hi, rfl⟩ := (hI _ _).1 hc
      rw [hc] at hr
      exact .inr ⟨i, (List.getElem?_eq_some_iff.1 hi).1, by rw [itm_of hi], hr⟩
theorem isIn_perm {l S : List It} (h : l.Perm S) (id : Int) : isIn id S = isIn id l := by
  cases hc : isIn id l with
  | true =>
    obtain ⟨y, hy, e⟩ := isIn_iff.1 hc
    exact isIn_iff.2 ⟨y, h.mem_iff.1 hy, e⟩
  | false => exact isIn_false.2 (fun y hy => isIn_false.1 hc y (h.mem_iff.2 hy))
theorem tlen (B : Nat) (S : List It) (F : Nat → Prop) (w : World) (h : TS w B S F) :
    Calls Try.prog 23 #[.pointer (some ⟨B, 0, none⟩)] w fun e w' => e = .returned (.int .i64 S.length) ∧ w = w' := by
  obtain ⟨l, q, hp, p, hS⟩ := h
  rw [← p.length_eq]
  go_enter Try.func23, Try.ntmps23
  go_wp2_with fail
  refine (lenq B l F w q).mono ?_
  rintro e w2 ⟨rfl, rfl⟩
  go_wp2_with fail
  go_ret
  exact ⟨rfl, rfl⟩
theorem tnew (w : World) : Calls Try.prog 11 #[] w fun e w' => ∃ B, e = .returned (.pointer (some ⟨B, 0, none⟩)) ∧ w.heap.size ≤ B ∧ TS w' B [] (fun k => k = B) ∧ w.grownBy w' none := by
  have G := World.grownBy_alloc w (.cells #[.slice none 0 0, .map none] 54) none
  have N := heap_alloc_new w (.cells #[.slice none 0 0, .map none] 54)
  have HG := Lib.hid G
  have HN := Lib.hid N
  clear G N
  go_enter Try.func11, Try.ntmps11
  go_wp2_with fail
  go_ret
  refine ⟨w.heap.size, rfl, Nat.le_refl _, ⟨[], ⟨_, _, ⟨HN.out, World.ownsRow_nil _ _ _ 2, by simp [Value.ownBlock], .inl ⟨rfl, rfl⟩⟩, fun k hk => ?_⟩, fun c c0 cn => by simp at cn, List.Perm.refl _, List.Pairwise.nil⟩, HG.out⟩
  rcases hk with h | h | h
  · exact h
  · cases h
  · cases h
theorem tcancel (B : Nat) (id : Int) (S : List It) (F : Nat → Prop) (w : World) (h : TS w B S F) (hl : S.length ≤ 1099511627770) :
    Calls Try.prog 16 #[.pointer (some ⟨B, 0, none⟩), .int .i64 id] w fun e w' => e = .returned (.bool (isIn id S)) ∧ TS w' B (del id S) F ∧ OnlyF F w w' := by
  obtain ⟨l, q, hp, p, hS⟩ := h
  have qn := q.nodup
  obtain ⟨v, mv, h, hF⟩ := q
  rw [← p.length_eq] at hl
  have c1 := h.cells.2
  have Q : Hid (QS w B l F) := Lib.hid ⟨v, mv, h, hF⟩
  rcases h.look id with ⟨h1, h2⟩ | ⟨i, hi, hid, h2⟩
  · have hin : isIn id S = false := by rw [isIn_perm p]; exact h1
    rw [del_none hin, hin]
    clear hF h
    go_enter Try.func16, Try.ntmps16
    go_wp2_with fail
    go_ret
    exact ⟨rfl, ⟨l, Q.out, hp, p, hS⟩, OnlyF.refl _ _⟩
  · have hin : isIn id S = true := by rw [isIn_perm p]; exact isIn_iff.2 ⟨_, List.mem_of_getElem? (itm_get hi), hid⟩
    rw [hin]
    clear hF h
    have HID := Lib.hid hid
    clear hid hin
    go_enter Try.func16, Try.ntmps16
    go_wp2_with fail
    refine (heap_remove B i l F w Q.out hp hi hl).mono ?_
    rintro e w2 ⟨⟨v2, rfl⟩, l', H, pl⟩
    go_wp2_with fail
    go_ret
    have d1 := del_perm pl qn
    rw [HID.out] at d1
    have d2 : (del id S).Perm l' := (List.Perm.filter _ p.symm).trans d1
    exact ⟨rfl, ⟨l', H.q, H.hp, d2.symm, del_srt id hS⟩, H.only⟩
end Go.Proofs.Ytgfpogmipennaaa
