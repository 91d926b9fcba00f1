/- Contracts of the Reader's length, text and numbers; bytes as a string ('conv_string'). -/
import Derived.Test.YtcmpeohooiehcaaCr
import Derived.Laws.BytesArg
namespace Go.Proofs.Ytcmpeohooiehcaa
open Go.RowKit

theorem Has.drop {w : World} {lim : Nat} {A : Option Addr} {l : List Int} (h : Has w lim A (bs l)) (k : Nat) : Has w lim (A.map (·.add k)) (bs (l.drop k)) := by
  rcases h with h | ⟨b, off, rfl, hb, hc⟩
  · have : l = [] := by simpa [bs] using h
    exact .inl (by simp [this, bs])
  · refine .inr ⟨b, off + k, by simp [Addr.add_lit], hb, fun j u hu => ?_⟩
    rw [show off + k + j = off + (k + j) by omega]
    refine hc _ u ?_
    simp only [bs, List.map_drop, List.getElem?_drop] at hu ⊢
    exact hu

/-- A step that hands back a value of its own, or throws. -/
def StepPost {α : Type} (enc : α → World → Value → Prop) (w : World) (g : Nat) (e0 : Int) (r : Except Int α × List Int) (e : Ending) (w' : World) : Prop :=
  (match r.1 with
    | .ok n => ∃ v, e = .returned v ∧ enc n w' v
    | .error c => e = .panicked (fault c)) ∧ Rdr w' g r.2 e0 ∧ w.grownBy w' (some g)

theorem number_ok {g : Nat} {l l' : List Int} {n : Int} {e0 : Int} {w : World} (hr : number l = (.ok n, l')) (h : Rdr w g l e0) (hl : l.length ≤ 1099511627776) (hb : bytesOk l) :
    Calls Try.prog 64 #[.pointer (some ⟨g, 0, none⟩)] w fun e w' => e = .returned (.int .i64 n) ∧ Rdr w' g l' e0 ∧ w.grownBy w' (some g) :=
  (number_any g l e0 w h hl hb).mono fun e w' hp => by unfold NumPost at hp; rw [hr] at hp; exact hp
theorem number_err {g : Nat} {l l' : List Int} {c : Int} {e0 : Int} {w : World} (hr : number l = (.error c, l')) (h : Rdr w g l e0) (hl : l.length ≤ 1099511627776) (hb : bytesOk l) :
    Calls Try.prog 64 #[.pointer (some ⟨g, 0, none⟩)] w fun e w' => e = .panicked (fault c) ∧ Rdr w' g l' e0 ∧ w.grownBy w' (some g) :=
  (number_any g l e0 w h hl hb).mono fun e w' hp => by unfold NumPost at hp; rw [hr] at hp; exact hp

set_option maxRecDepth 100000 in
theorem length_any (g : Nat) (l : List Int) (e0 : Int) (w : World) (h : Rdr w g l e0) (hl : l.length ≤ 1099511627776) (hb : bytesOk l) :
    Calls Try.prog 76 #[.pointer (some ⟨g, 0, none⟩)] w (NumPost w g e0 (lengthB l)) := by
  rcases hn : number l with ⟨c | n, l'⟩
  · have hL : lengthB l = (.error c, l') := by unfold lengthB; rw [hn]
    rw [hL]
    have HN := Lib.hid (number_err hn h hl hb)
    clear hn hL
    go_enter Try.func76, Try.ntmps76
    go_wp2_with (go_at_call 64; refine (HN.out).mono ?_; rintro e w1 ⟨rfl, h1, g1⟩)
    exact ⟨rfl, rfl, h1, g1⟩
  · have hbd := number_bd l n (by rw [hn])
    have HN := Lib.hid (number_ok hn h hl hb)
    by_cases h0 : n < 0
    · have hL : lengthB l = (.error 4, l') := by unfold lengthB; rw [hn]; simp only [if_pos (show n < 0 ∨ 65535 < n from .inl h0)]
      rw [hL]
      clear hn hL
      go_enter Try.func76, Try.ntmps76
      go_wp2_with (go_at_call 64; refine (HN.out).mono ?_; rintro e w1 ⟨rfl, h1, g1⟩)
      exact ⟨rfl, rfl, h1, g1⟩
    · by_cases h6 : 65535 < n
      · have hL : lengthB l = (.error 4, l') := by unfold lengthB; rw [hn]; simp only [if_pos (show n < 0 ∨ 65535 < n from .inr h6)]
        rw [hL]
        clear hn hL
        go_enter Try.func76, Try.ntmps76
        go_wp2_with (go_at_call 64; refine (HN.out).mono ?_; rintro e w1 ⟨rfl, h1, g1⟩)
        exact ⟨rfl, rfl, h1, g1⟩
      · have hL : lengthB l = (.ok n, l') := by unfold lengthB; rw [hn]; simp only [if_neg (show ¬ (n < 0 ∨ 65535 < n) by omega)]
        rw [hL]
        clear hn hL
        have h0' : 0 ≤ n := by omega
        have h6' : n ≤ 65535 := by omega
        clear h0 h6
        go_enter Try.func76, Try.ntmps76
        go_wp2_with (go_at_call 64; refine (HN.out).mono ?_; rintro e w1 ⟨rfl, h1, g1⟩)
        go_ret
        exact ⟨rfl, h1, g1⟩
theorem length_ok {g : Nat} {l l' : List Int} {n : Int} {e0 : Int} {w : World} (hr : lengthB l = (.ok n, l')) (h : Rdr w g l e0) (hl : l.length ≤ 1099511627776) (hb : bytesOk l) :
    Calls Try.prog 76 #[.pointer (some ⟨g, 0, none⟩)] w fun e w' => e = .returned (.int .i64 n) ∧ Rdr w' g l' e0 ∧ w.grownBy w' (some g) :=
  (length_any g l e0 w h hl hb).mono fun e w' hp => by unfold NumPost at hp; rw [hr] at hp; exact hp
theorem length_err {g : Nat} {l l' : List Int} {c : Int} {e0 : Int} {w : World} (hr : lengthB l = (.error c, l')) (h : Rdr w g l e0) (hl : l.length ≤ 1099511627776) (hb : bytesOk l) :
    Calls Try.prog 76 #[.pointer (some ⟨g, 0, none⟩)] w fun e w' => e = .panicked (fault c) ∧ Rdr w' g l' e0 ∧ w.grownBy w' (some g) :=
  (length_any g l e0 w h hl hb).mono fun e w' hp => by unfold NumPost at hp; rw [hr] at hp; exact hp
theorem lengthB_bd (l : List Int) (n : Int) (l' : List Int) (h : lengthB l = (.ok n, l')) : 0 ≤ n ∧ n ≤ 65535 := by
  unfold lengthB at h
  rcases hn : number l with ⟨c | m, r⟩
  · rw [hn] at h; cases h
  · rw [hn] at h; simp only at h
    split at h
    · cases h
    · cases h; omega

def strOf (t : List Int) (_ : World) (v : Value) : Prop := v = .string (strOfNums t)
set_option maxRecDepth 100000 in
theorem text_step (g : Nat) (l : List Int) (e0 : Int) (w : World) (h : Rdr w g l e0) (hl : l.length ≤ 1099511627776) (hb : bytesOk l) :
    Calls Try.prog 66 #[.pointer (some ⟨g, 0, none⟩)] w (StepPost strOf w g e0 (textB l)) := by
  rcases hn : lengthB l with ⟨c | n, l'⟩
  · have hL : textB l = (.error c, l') := by unfold textB; rw [hn]
    rw [hL]
    have HN := Lib.hid (length_err hn h hl hb)
    clear hn hL
    go_enter Try.func66, Try.ntmps66
    go_wp2_with (go_at_call 76; refine (HN.out).mono ?_; rintro e w1 ⟨rfl, h1, g1⟩)
    exact ⟨rfl, rfl, h1, g1⟩
  · have hbd := lengthB_bd l n l' hn
    have hls : l'.length ≤ l.length := by obtain ⟨p, hp⟩ := lengthB_suffix l; rw [hn] at hp; rw [hp]; simp
    obtain ⟨k, rfl⟩ : ∃ k : Nat, n = k := ⟨n.toNat, by omega⟩
    have HN := Lib.hid (length_ok hn h hl hb)
    by_cases hc : l'.length < k
    · have hL : textB l = (.error 8, l') := by unfold textB; rw [hn]; simp [hc]
      rw [hL]
      clear hn hL
      go_enter Try.func66, Try.ntmps66
      go_wp2_with fail
      refine (HN.out).mono ?_
      rintro e w1 ⟨rfl, h1, g1⟩
      have h1' := h1
      obtain ⟨A, c, hg, ha, hcc⟩ := h1
      have c0 : w1.cell? ⟨g, 0, none⟩ = some (.slice A l'.length c) := by simp [World.cell?, hg]
      clear hg ha
      go_wp2_with fail
      exact ⟨rfl, rfl, h1', g1⟩
    · have hL : textB l = (.ok (l'.take k), l'.drop k) := by unfold textB; rw [hn]; simp [hc]
      rw [hL]
      clear hn hL
      have hck : k ≤ l'.length := by omega
      go_enter Try.func66, Try.ntmps66
      go_wp2_with fail
      refine (HN.out).mono ?_
      rintro e w1 ⟨rfl, h1, g1⟩
      obtain ⟨A, c, hg, ha, hcc⟩ := h1
      have c0 : w1.cell? ⟨g, 0, none⟩ = some (.slice A l'.length c) := by simp [World.cell?, hg]
      have f0 : w1.frozen? ⟨g, 0, none⟩ = false := by simp [World.frozen?, hg]
      have hlt : k ≤ c := by omega
      have hcv : (convert 35 9 (.slice A k c)).run Try.prog w1 = .ok (.string (strOfNums (l'.take k))) w1 := by
        have h := conv_string (l := l'.take k) (by rw [bs, List.map_take]; exact ha.take k) c
        rw [List.length_take, Nat.min_eq_left hck] at h
        exact h
      have hld : (l'.drop k).length = l'.length - k := List.length_drop
      have keep : ∀ (A' : Option Addr) (c' : Nat), Has w1 g A' (bs (l'.drop k)) → l'.length - k ≤ c' → Rdr (w1.setCell ⟨g, 0, none⟩ (.slice A' (l'.length - k) c')) g (l'.drop k) e0 ∧ w1.grownBy (w1.setCell ⟨g, 0, none⟩ (.slice A' (l'.length - k) c')) (some g) := fun A' c' h1 h2 =>
        ⟨⟨A', c', by rw [heap_set hg, hld]; rfl, h1.keep (fun p hp => World.cell?_setCell_other _ _ _ _ (fun e => by subst e; simp at hp)), by rw [hld]; exact h2⟩, only_set (only_refl _ _) (.inl rfl) _⟩
      have K := fun A' c' h1 h2 => Lib.hid (keep A' c' h1 h2)
      have HA := Lib.hid ha
      clear keep hg ha hld
      go_wp2_with fail
      · go_ret
        have hz : bs (l'.drop k) = [] := by simp [bs]; omega
        have h := (K A 0 (.inl hz) (by omega)).out
        exact ⟨⟨_, rfl, rfl⟩, h.1, only_step g1 h.2 (fun q hq => .inl hq)⟩
      · go_ret
        have h := (K (A.map (·.add k)) (c - k) (HA.out.drop k) (by omega)).out
        exact ⟨⟨_, rfl, rfl⟩, h.1, only_step g1 h.2 (fun q hq => .inl hq)⟩

theorem Try.info_int : (Try.prog.info? 3).map (fun i => (i.zero, i.size, i.bytes)) = some (some (.int .i64 0), 1, 8) := by kernel_rfl
theorem is_one (l : List Int) : ∀ u ∈ is l, u.oneCell' = true := fun u hu => by obtain ⟨_, _, rfl⟩ := List.mem_map.1 hu; rfl
theorem is_len (l : List Int) : (is l).length = l.length := by simp [is]
/-- append onto a []int of the call's own. -/
theorem app_ints {w : World} {ops : Array Oper} {rest : List Oper} {o : Oper} {a : Act} {Q : Exit → Act → World → Prop} (hgd : o.guard = none) (s x : Operand) (tx : TypeId)
    (ho : o.op = .call { callee := .builtin .append, args := #[s, x], argTypes := #[43, tx] })
    (base : Nat) (v : Value) (xs : List Value) (hs : a.eval s = v) (hown : w.ownsRow base 3 1 v xs.length xs) (u : Value) (news : List Value) (hu : a.eval x = u) (hsrc : Src Try.prog 1 tx u news.length news w)
    (hlen : xs.length + news.length ≤ 8796093022208) (hbase : base ≤ w.heap.size)
    (h : ∀ v' w', Grew w w' base 3 v v' (xs ++ news) → wpList Try.prog ops Q rest (a.put o.dst v') w') : wpList Try.prog ops Q (o :: rest) a w := by
  obtain ⟨i0, hi, hz0, hz1, hz2⟩ := info_parts Try.info_int
  exact wpList_append_row w hgd s x 43 tx ho base 3 i0 (.int .i64 0) 8 Try.underlying43 hi hz0 hz1 hz2 rfl v xs hs hown u news hu hsrc (by simp only [maxLen]; omega) (by omega) hbase h

theorem numsB_suffix : ∀ (k : Nat) (acc l : List Int), ∃ p, l = p ++ (numsB acc k l).2
  | 0, _, l => ⟨[], rfl⟩
  | k + 1, acc, l => by
    obtain ⟨p, hp⟩ := number_suffix l
    unfold numsB
    rcases hn : number l with ⟨c | n, r⟩
    · rw [hn] at hp; exact ⟨p, hp⟩
    · rw [hn] at hp
      obtain ⟨q, hq⟩ := numsB_suffix k (acc ++ [n]) r
      refine ⟨p ++ q, ?_⟩
      simp only at hp ⊢
      rw [List.append_assoc, ← hq]; exact hp

end Go.Proofs.Ytcmpeohooiehcaa
