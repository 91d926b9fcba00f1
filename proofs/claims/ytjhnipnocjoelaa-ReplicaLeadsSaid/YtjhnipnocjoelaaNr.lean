/- What the laws use besides: within, a node in a variable whose log grows. No condition. -/
import Derived.Test.YtjhnipnocjoelaaNq
namespace Go.Proofs.Ytjhnipnocjoelaa
open Go.RowKit Go.Deep
theorem within_any (n m : Int) (h1 : -9223372036854775808 ≤ n) (h2 : n ≤ 9223372036854775807) (m1 : 1 ≤ m) (m2 : m ≤ 9223372036854775807) (w : World) :
    Calls Try.prog 13 #[.int .i64 n, .int .i64 m] w fun e w' => e = .returned (.int .i64 (n % m)) ∧ w = w' := by
  have hb1 := Int.emod_nonneg n (show m ≠ 0 by omega)
  have hb2 := Int.emod_lt_of_pos n (show 0 < m by omega)
  by_cases hn : 0 ≤ n
  · have ht : ¬ n % m < 0 := by omega
    go_enter Try.func13, Try.ntmps13
    go_wp2
    go_ret
    exact ⟨rfl, rfl⟩
  · have e : n.tmod m = if n % m = 0 then 0 else n % m - m := by
      have h := @Int.tmod_eq_emod n m
      rw [h]
      by_cases h0 : n % m = 0
      · rw [if_pos h0, if_pos (by right; exact Int.dvd_of_emod_eq_zero h0), h0]; rfl
      · rw [if_neg h0, if_neg (by
          rintro (h | h)
          · exact hn h
          · exact h0 (Int.emod_eq_zero_of_dvd h))]
        omega
    by_cases h0 : n % m = 0
    · rw [if_pos h0] at e
      have E := Lib.hid h0
      clear h0
      go_enter Try.func13, Try.ntmps13
      go_wp2
      go_ret
      exact ⟨by rw [E.out]; rfl, rfl⟩
    · rw [if_neg h0] at e
      obtain ⟨r, hr⟩ : ∃ r, r = n % m := ⟨_, rfl⟩
      rw [← hr] at e hb1 hb2 h0
      have E := Lib.hid hr
      clear hr
      have ht : r - m < 0 := by omega
      go_enter Try.func13, Try.ntmps13
      go_wp2
      go_ret
      exact ⟨by rw [← E.out]; congr 2, rfl⟩
theorem NB.all {w : World} {b : Nat} {n : Nd} {L : Value} (h : NB w b n L) : w.cell? ⟨b, 0, none⟩ = some (.int .i64 n.id) ∧ w.cell? ⟨b, 1, none⟩ = some (.int .i64 n.term) ∧ w.cell? ⟨b, 6, none⟩ = some L ∧ w.cell? ⟨b, 7, none⟩ = some (.int .i64 n.role) ∧ w.cell? ⟨b, 8, none⟩ = some (.int .i64 n.cm) := by
  have h := h.at_
  simp [World.cell?, h, Nd.cells]
theorem NB.fr {w : World} {b : Nat} {n : Nd} {L : Value} (h : NB w b n L) (k : Nat) : w.frozen? ⟨b, k, none⟩ = false := by simp [World.frozen?, h.at_]
theorem NB.set {w : World} {b : Nat} {n n' : Nd} {L L' : Value} (h : NB w b n L) (k : Nat) (u : Value) (hc : (n.cells L).setIfInBounds k u = n'.cells L') : NB (w.setCell ⟨b, k, none⟩ u) b n' L' ∧ w.grownBy (w.setCell ⟨b, k, none⟩ u) (some b) := by
  refine ⟨⟨?_⟩, only_set (only_refl w (some b)) (.inl rfl) u⟩
  have : (w.setCell ⟨b, k, none⟩ u).heap[b]? = some (.cells ((n.cells L).setIfInBounds k u) 37 (0, 0)) := by simp [World.setCell, Array.getElem?_modify, h.at_]
  rw [this, hc]
/-- append to a row of entries, as an arm. -/
theorem app_entry {w : World} {ops : Array Oper} {rest : List Oper} {o : Oper} {a : Act} {Q : Exit → Act → World → Prop} (hgd : o.guard = none) (s x : Operand)
    (ho : o.op = .call { callee := .builtin .append, args := #[s, x], argTypes := #[23, 23] })
    (base : Nat) (v : Value) (n : Nat) (xs : List Value) (hown : w.ownsRow base 49 2 v n xs) (u : Value) (m : Nat) (news : List Value) (hsrc : Src Try.prog 2 23 u m news w) (hs : a.eval s = v) (hu : a.eval x = u)
    (hlen : n + m ≤ 1099511627776) (hbase : base ≤ w.heap.size)
    (h : ∀ v' w', GrewW w w' base 49 2 v v' (n + m) (xs ++ news) → wpList Try.prog ops Q rest (a.put o.dst v') w') : wpList Try.prog ops Q (o :: rest) a w := by
  obtain ⟨i0, hi, hz0, hz1, hz2⟩ := info_parts Try.info_entry
  exact wpList_append_wide w hgd s x 23 23 ho base 49 i0 _ 24 2 Try.underlying23 hi hz0 hz1 hz2 rfl v n xs hs hown u m news hu hsrc (by unfold maxLen; omega) (by omega) hbase h
theorem src_entry (w : World) (x : Int × ByteArray) : Src Try.prog 2 23 (.slice (some ⟨w.heap.size, 0, none⟩) 1 1) 1 (es [x]) (w.alloc (.cells #[.int .i64 x.1, .string x.2] 49)) := by
  exact Src.ofSlice _ Try.underlying23 ⟨w.heap.size, 0, none⟩ 1 1 (es [x]) rfl (fun j u hu => by
    rw [Addr.add_lit, Nat.zero_add]
    have : (w.alloc (.cells #[.int .i64 x.1, .string x.2] 49)).cell? ⟨w.heap.size, j, none⟩ = (#[.int .i64 x.1, .string x.2] : Array Value)[j]? := cell_of_row _ _ _ _ _ (0, 0) (heap_alloc_new w _)
    rw [this]
    simpa [es] using hu) (es_one _)
/-- A node in a variable b whose log is the law's own. -/
structure Vn (w0 w : World) (b : Nat) (n : Nd) (L : Value) : Prop where
  nb : NB w b n L
  row : w.ownsRow w0.heap.size 49 2 L n.log.length (es n.log)
  gr : w0.grownBy w none
  le : w0.heap.size ≤ b
section
variable {w0 w w' : World} {b : Nat} {n : Nd} {L : Value}
theorem Vn.apart (h : Vn w0 w b n L) : L.ownBlock ≠ some b := fun e => by
  obtain ⟨cur, hc⟩ := own_ty h.row e
  rw [h.nb.at_] at hc; cases hc
theorem Vn.grow (h : Vn w0 w b n L) (g : w.grownBy w' none) : Vn w0 w' b n L := ⟨h.nb.grow g, own_blk h.row (fun k hk => g.block k (h.row.lt k hk).2 (by simp)), only_step h.gr g (fun _ h => .inl h), h.le⟩
theorem Vn.set (h : Vn w0 w b n L) (k : Nat) (u : Value) (n' : Nd) (hc : (n.cells L).setIfInBounds k u = n'.cells L) (hl : n'.log = n.log) : Vn w0 (w.setCell ⟨b, k, none⟩ u) b n' L := by
  have hs := h.nb.set k u hc
  exact ⟨hs.1, by rw [hl]; exact own_blk h.row (fun j hj => hs.2.block j (h.row.lt j hj).2 (fun e => by injection e with e; exact h.apart (e ▸ hj))), only_step h.gr hs.2 (fun j hj => by cases hj; exact .inr h.le), h.le⟩
/-- The log has grown, and is laid in its place. -/
theorem Vn.app (h : Vn w0 w b n L) {w1 : World} (g1 : w.grownBy w1 none) {L' : Value} {l : List (Int × ByteArray)} (hg : GrewW w1 w' w0.heap.size 49 2 L L' l.length (es l)) : Vn w0 (w'.setCell ⟨b, 6, none⟩ L') b { n with log := l } L' ∧ w'.cell? ⟨b, 6, none⟩ = some L ∧ w'.frozen? ⟨b, 6, none⟩ = false := by
  have h1 := h.grow g1
  have hap := h1.apart
  have hb := hg.only.block b (Array.getElem?_eq_some_iff.1 h1.nb.at_).1 (fun e => hap e.symm)
  have nb' : NB w' b n L := ⟨hb.trans h1.nb.at_⟩
  have hs := nb'.set (n' := { n with log := l }) (L' := L') 6 L' rfl
  have hL : L'.ownBlock ≠ some b := fun e => by
    obtain ⟨cur, hc⟩ := own_ty hg.own e
    rw [nb'.at_] at hc; cases hc
  refine ⟨⟨hs.1, own_blk hg.own (fun j hj => hs.2.block j (hg.own.lt j hj).2 (fun e => by injection e with e; exact hL (e ▸ hj))), only_step (only_step h1.gr hg.only (fun j hj => .inr (h1.row.lt j hj).1)) hs.2 (fun j hj => by cases hj; exact .inr h.le), h.le⟩, nb'.all.2.2.1, nb'.fr 6⟩
end
end Go.Proofs.Ytjhnipnocjoelaa
