/- Words that the walks of this seat share: append onto a []byte of the call's own, bytes as a string, rows that came in. No condition of the program's own. -/
import Derived.Test.YtmjfemnjkgfgfaaMem
import Derived.RegionTactic
import Derived.ChangeAlike
import Derived.BigRegion
import Derived.Laws.BytesArg
import Derived.OpenShut
import Derived.Laws.CopyOwn
import Derived.Deep.RegionHeld3
import Derived.Deep.DrawnRows
import Derived.BigQuiet
import Derived.Deep.QuietTactic
namespace Go.Proofs.Ytmjfemnjkgfgfaa
open Go.RowKit Go.ChangeShapes

theorem Try.info_u8 : (Try.prog.info? 5).map (fun i => (i.zero, i.size, i.bytes)) = some (some (.int .u8 0), 1, 1) := by kernel_rfl
def bs (l : List Int) : List Value := l.map (Value.int .u8)
theorem bs_one (l : List Int) : ∀ u ∈ bs l, u.oneCell' = true := fun u hu => by obtain ⟨_, _, rfl⟩ := List.mem_map.1 hu; rfl
theorem bs_len (l : List Int) : (bs l).length = l.length := by simp [bs]
theorem bs_append (l m : List Int) : bs (l ++ m) = bs l ++ bs m := by simp [bs]

/-- A call has handed back a row of the call's own that holds xs, grown out of v0. -/
def Out (w : World) (base : Nat) (v0 : Value) (xs : List Value) (e : Ending) (w' : World) : Prop := ∃ v, e = .returned v ∧ Grew w w' base 5 v0 v xs

/-- append onto a []byte of the call's own. -/
theorem app_bytes {w : World} {ops : Array Oper} {rest : List Oper} {o : Oper} {a : Act} {Q : Exit → Act → World → Prop} (hgd : o.guard = none) (s x : Operand) (tx : TypeId)
    (ho : o.op = .call { callee := .builtin .append, args := #[s, x], argTypes := #[31, tx] })
    (base : Nat) (v : Value) (xs : List Value) (hs : a.eval s = v) (hown : w.ownsRow base 5 1 v xs.length xs) (u : Value) (news : List Value) (hu : a.eval x = u) (hsrc : Src Try.prog 1 tx u news.length news w)
    (hlen : xs.length + news.length ≤ 70368744177664) (hbase : base ≤ w.heap.size)
    (h : ∀ v' w', Grew w w' base 5 v v' (xs ++ news) → wpList Try.prog ops Q rest (a.put o.dst v') w') : wpList Try.prog ops Q (o :: rest) a w := by
  obtain ⟨i0, hi, hz0, hz1, hz2⟩ := info_parts Try.info_u8
  exact wpList_append_row w hgd s x 31 tx ho base 5 i0 (.int .u8 0) 1 Try.underlying31 hi hz0 hz1 hz2 rfl v xs hs hown u news hu hsrc (by simp only [maxLen]; omega) (by omega) hbase h
/-- One element, just laid in a block of its own. -/
theorem src_one {w : World} (tx e : TypeId) (hk : Try.prog.underlying tx = some (.slice e)) (u : Value) (t : TypeId) (h1 : u.oneCell' = true) : Src Try.prog 1 tx (.slice (some ⟨w.heap.size, 0, none⟩) 1 1) 1 [u] (w.alloc (.cells #[u] t)) :=
  Src.ofSlice _ hk ⟨w.heap.size, 0, none⟩ 1 1 [u] rfl (fun j u hu => by
    match j, hu with
    | 0, hu => simp at hu; subst hu; simp [Addr.add]) (fun x hx => by simp at hx; subst hx; exact h1)

theorem own_form {w : World} {base e n : Nat} {v : Value} {xs : List Value} (h : w.ownsRow base e 1 v n xs) (hn : 0 < n) : ∃ g cap, v = .slice (some ⟨g, 0, none⟩) n cap ∧ base ≤ g := by
  rcases h.2 with ⟨_, h0⟩ | ⟨g, cap, _, hv, hb, _⟩
  · omega
  · exact ⟨g, cap, hv, hb⟩
theorem own_slice {w : World} {base e n : Nat} {v : Value} {xs : List Value} (h : w.ownsRow base e 1 v n xs) : ∃ A c, v = .slice A n c := by
  rcases h.2 with ⟨hv, h0⟩ | ⟨g, cap, _, hv, _⟩
  · exact ⟨none, 0, by rw [hv, h0]⟩
  · exact ⟨_, cap, hv⟩
theorem own_mono {w : World} {base base' e n : Nat} {v : Value} {xs : List Value} (h : w.ownsRow base e 1 v n xs) (hb : base' ≤ base) : w.ownsRow base' e 1 v n xs := by
  rcases h.2 with hv | ⟨g, cap, cur, hv, hg, h2⟩
  · exact ⟨h.1, .inl hv⟩
  · exact ⟨h.1, .inr ⟨g, cap, cur, hv, by omega, h2⟩⟩
theorem own_at {w : World} {base e n : Nat} {v : Value} {xs : List Value} (h : w.ownsRow base e 1 v n xs) : v.ownBlock = none ∨ ∃ q, v.ownBlock = some q ∧ base ≤ q := by
  rcases h.2 with ⟨hv, _⟩ | ⟨g, cap, cur, hv, hg, h2⟩
  · left; rw [hv]; rfl
  · right; exact ⟨g, by rw [hv]; rfl, hg⟩

theorem own_cap {w : World} {base e n c : Nat} {A : Option Addr} {xs : List Value} (h : w.ownsRow base e 1 (.slice A n c) n xs) : n ≤ c := by
  rcases h.2 with ⟨h, h0⟩ | ⟨q, cap, cur, h, _, _, hn, _⟩
  · omega
  · injection h with h1 h2 h3; omega
theorem own_len {w : World} {base e n : Nat} {v : Value} {xs : List Value} (h : w.ownsRow base e 1 v n xs) : n ≤ maxLen := by
  rcases h.2 with ⟨_, h0⟩ | ⟨g, cap, cur, _, _, _, h1, h2, _⟩
  · omega
  · omega
theorem conv_string {w : World} {lim : Nat} {A : Option Addr} {l : List Int} (h : Has w lim A (bs l)) (c : Nat) :
    (convert 31 9 (.slice A l.length c)).run Try.prog w = .ok (.string (strOfNums l)) w := by
  rcases h with h | ⟨b, off, rfl, _, hc⟩
  · have hl : l = [] := by simpa [bs] using h
    subst hl
    cases A with
    | none => exact run_convert_bytes_nil w 31 5 Try.underlying31 Try.underlying5 0 c 9 Try.underlying9
    | some a =>
      show (convert 31 9 (.slice (some a) 0 c)).run Try.prog w = _
      rw [run_convert_bytes_string w 31 9 5 _ 0 c Try.underlying31 Try.underlying5 Try.underlying9, run_bytesToString w a 0 c [] (run_loadCells_list (P := Try.prog) w a [] (fun j v hj => by simp at hj))]
      rfl
  · exact run_convert_bytes_arg w 31 5 Try.underlying31 Try.underlying5 b off l.length c l rfl (fun i hi => hc i _ (by simp [bs, hi])) 9 Try.underlying9

theorem Has.take {w : World} {lim : Nat} {A : Option Addr} {xs : List Value} (h : Has w lim A xs) (n : Nat) : Has w lim A (xs.take n) := by
  rcases h with h | ⟨b, off, hA, hb, hc⟩
  · exact .inl (by rw [h]; simp)
  · refine .inr ⟨b, off, hA, hb, fun j u hu => hc j u ?_⟩
    rw [List.getElem?_take] at hu
    split at hu
    · exact hu
    · cases hu

/-- A slice of integers that came in, as 'Has' says it. -/
theorem of_row {k : IntKind} {w : World} {A : Option Addr} {n c : Nat} {zs : List Int} (h : (A = none ∧ n = 0 ∧ c = 0 ∧ zs = []) ∨
    ∃ x, A = some x ∧ n ≤ c ∧ c ≤ maxLen ∧ zs.length = c ∧ (∀ i, i < zs.length → w.cell? (x.add i) = some (.int k (zs.getD i 0))) ∧ ∀ m ∈ zs, (Lit.int k m).wf = true) :
    ∃ l : List Int, l.length = n ∧ Has w w.heap.size A (l.map (Value.int k)) ∧ (∀ m ∈ l, (Lit.int k m).wf = true) ∧ n ≤ c ∧ c ≤ maxLen := by
  rcases h with ⟨rfl, rfl, rfl, rfl⟩ | ⟨x, rfl, h1, h2, h3, h4, h5⟩
  · exact ⟨[], rfl, .inl rfl, (fun m hm => by simp at hm), Nat.le_refl _, Nat.zero_le _⟩
  · refine ⟨zs.take n, by rw [List.length_take]; omega, ?_, fun m hm => h5 m (List.mem_of_mem_take hm), h1, h2⟩
    rcases Nat.eq_zero_or_pos n with h0 | h0
    · subst h0; exact .inl (by simp)
    · obtain ⟨b, off, spot⟩ := x
      have hc0 := h4 0 (by omega)
      have hs : spot = none := by simpa [Addr.add] using World.cell?_spot hc0
      subst hs
      have hb : b < w.heap.size := by
        rcases Nat.lt_or_ge b w.heap.size with h | h
        · exact h
        · rw [Addr.add_lit] at hc0
          simp [World.cell?, Array.getElem?_eq_none h] at hc0
      refine .inr ⟨b, off, rfl, hb, fun j u hu => ?_⟩
      rw [List.getElem?_map, List.getElem?_take] at hu
      split at hu
      · rename_i hj
        have hjl : j < zs.length := by omega
        rw [List.getElem?_eq_getElem hjl] at hu
        have := h4 j hjl
        rw [Addr.add_lit] at this
        rw [this]
        simp [List.getD, List.getElem?_eq_getElem hjl] at hu ⊢
        exact hu
      · cases hu
theorem bytes_of {l : List Int} (h : ∀ m ∈ l, (Lit.int .u8 m).wf = true) : ∀ x ∈ l, 0 ≤ x ∧ x ≤ 255 := fun x hx => bounds_u8 (h x hx)
theorem sb_of_nums (l : List Int) (hb : ∀ x ∈ l, 0 ≤ x ∧ x ≤ 255) (m : List Int) (hm : ∀ x ∈ m, 0 ≤ x ∧ x ≤ 255) (h : strOfNums l = strOfNums m) : l = m := by
  have key : ∀ l : List Int, (∀ x ∈ l, 0 ≤ x ∧ x ≤ 255) → ((strOfNums l).data.toList.map fun b => (b.toNat : Int)) = l := fun l hb => by
    rw [strOfNums_data, List.map_map]
    apply List.ext_getElem (by simp)
    intro i h1 h2
    have h := hb l[i] (List.getElem_mem h2)
    simp only [List.getElem_map, Function.comp]
    rw [UInt8.toNat_ofNat']
    omega
  rw [← key l hb, ← key m hm, h]
end Go.Proofs.Ytmjfemnjkgfgfaa
