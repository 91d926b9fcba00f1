/- The law's log: the frames, one behind the other. No condition of the program's own. -/
import Derived.Test.YtjdpnidenjeigaaDoorFlg
namespace Go.Proofs.YtjdpnidenjeigaaDoor
open Go.RowKit Go.ChangeShapes

theorem logT_succ (L : List (List Int)) (i : Nat) (x : List Int) (h : L[i]? = some x) : logP (L.take i) ++ frP x = logP (L.take (i + 1)) := by
  rw [List.take_add_one, h]
  unfold logP
  rw [List.flatMap_append]
  simp
theorem logP_bound (L : List (List Int)) (h : ∀ x ∈ L, x.length ≤ 300) : (logP L).length ≤ L.length * 308 := by
  induction L with
  | nil => simp [logP]
  | cons l r ih =>
    have e : (logP (l :: r)).length = (8 + l.length) + (logP r).length := by show (frP l ++ logP r).length = _; rw [List.length_append, frP_len]; omega
    have h1 := h l (by simp)
    have h2 := ih (fun x hx => h x (by simp [hx]))
    rw [e, List.length_cons, Nat.add_mul]
    omega
set_option maxRecDepth 100000 in
set_option maxHeartbeats 1000000 in
theorem log_any (A : Option Addr) (ca : Nat) (L : List (List Int)) (w : World) (hA : RR w A L) (hb : ∀ l ∈ L, ∀ x ∈ l, 0 ≤ x ∧ x ≤ 255) (hl : ∀ x ∈ L, x.length ≤ 300) (hn : L.length ≤ 10) :
    Calls Tryd.prog 18 #[.slice A L.length ca] w fun e w' => ∃ v, e = .returned v ∧ w'.ownsRow w.heap.size 5 1 v (logP L).length (bs (logP L)) ∧ w.grownBy w' none := by
  have HA := Lib.hid hA
  have HB := Lib.hid hb
  have HL := Lib.hid hl
  clear hA hb hl
  go_enter Tryd.func18, Tryd.ntmps18
  go_wp2_with fail
  go_loopw [3, 4] (fun s3 si wr => ∃ (i n : Nat) (A' : Option Addr) (c' : Nat), i ≤ L.length ∧ si = .int .i64 i ∧ s3 = .slice A' n c' ∧ Hid (n = (logP (L.take i)).length) ∧
      Hid (wr.ownsRow w.heap.size 5 1 (.slice A' n c') n (bs (logP (L.take i)))) ∧ Hid (w.grownBy wr none)) (fun _ si _ => L.length - (intOf si).toNat)
  case atStart => exact ⟨0, 0, none, 0, Nat.zero_le _, rfl, rfl, rfl, World.ownsRow_nil _ _ _ 1, only_refl _ _⟩
  case round =>
    obtain ⟨i, n, A', c', hi, rfl, rfl, HN, HO, hG⟩ := hrel
    by_cases hlt : i < L.length
    · have v1 : (i : Int) < (L.length : Int) := by omega
      have v0 : (0 : Int) ≤ (i : Int) := by omega
      have v2 : (i : Int) < 10 := by omega
      have vs : IntKind.i64.wrap ((i : Int) + 1) = (i : Int) + 1 := by rw [IntKind.wrap_i64]; omega
      obtain ⟨x, hx⟩ : ∃ x, L[i]? = some x := ⟨_, List.getElem?_eq_getElem hlt⟩
      have RRw := HA.out.grow hG.out
      obtain ⟨b, off, Ax, cx, rfl, hb, hc, hh⟩ := RRw i x hx
      have hm := List.mem_of_getElem? hx
      have x3 := HL.out x hm
      have RF := Lib.hid (rframe_any Ax cx x wr hh (HB.out x hm) (by omega))
      have TS := Lib.hid (logT_succ L i x hx)
      have FLx := Lib.hid (frP_len x)
      have nb : n ≤ 3080 := by
        rw [HN.out]
        have h1 := logP_bound (L.take i) (fun y hy => HL.out y (List.mem_of_mem_take hy))
        have h2 : (L.take i).length ≤ 10 := by rw [List.length_take]; omega
        have h3 : (L.take i).length * 308 ≤ 10 * 308 := Nat.mul_le_mul_right _ h2
        omega
      obtain ⟨F, hF⟩ : ∃ F, F = frP x := ⟨_, rfl⟩
      rw [← hF] at RF TS FLx
      clear RRw hh hx hm hF
      go_wp2_with fail
      refine RF.out.mono ?_
      rintro _ w3 ⟨v3, rfl, o3, g3⟩
      rw [bs_len] at o3
      obtain ⟨A3, c3, rfl⟩ := own_slice o3
      have G3 : Hid (w.grownBy w3 none) := only_step hG.out g3 (fun _ h => by cases h)
      have s3 : Hid (Src Tryd.prog 1 22 (.slice A3 F.length c3) (bs F).length (bs F) w3) := by
        have h := (Has.own o3).src (P := Tryd.prog) (tx := 22) Tryd.underlying22 c3 (bs_one _)
        rw [bs_len] at h ⊢
        exact h
      have own3 : Hid (w3.ownsRow w.heap.size 5 1 (.slice A' n c') (bs (logP (L.take i))).length (bs (logP (L.take i)))) := by
        have := HO.out.kept g3 (by cases (Value.slice A' n c').ownBlock <;> simp)
        rw [bs_len, ← HN.out]; exact this
      have l3 : (bs (logP (L.take i))).length + (bs F).length ≤ 70368744177664 := by rw [bs_len, bs_len, ← HN.out, FLx.out]; omega
      have z3 := G3.out.size
      clear g3 o3 RF
      go_wp2_with (at_builtin; go_loud (refine app_bytes rfl _ _ 22 rfl w.heap.size (.slice A' n c') (bs (logP (L.take i))) rfl own3.out (.slice A3 F.length c3) (bs F) rfl s3.out l3 z3 ?_); intro v5 w5 g5)
      rw [← bs_append, TS.out] at g5
      have G5 : Hid (w.grownBy w5 none) := g5.all own3.out G3.out (Nat.le_refl _)
      have o5 := g5.own
      rw [bs_len] at o5
      obtain ⟨A5, c5, rfl⟩ := own_slice o5
      exact ⟨⟨i + 1, _, A5, c5, by omega, by go_num, rfl, rfl, o5, G5⟩, by simp [intOf]; omega⟩
    · have v1 : ¬ (i : Int) < (L.length : Int) := by omega
      obtain rfl : i = L.length := by omega
      rw [List.take_length] at HO HN
      go_wp2_with fail
      go_ret
      refine ⟨_, rfl, ?_, hG.out⟩
      rw [← HN.out]; exact HO.out
end Go.Proofs.YtjdpnidenjeigaaDoor
