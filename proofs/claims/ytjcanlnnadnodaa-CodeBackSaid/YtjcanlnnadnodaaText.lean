/- Contracts of the Reader's length, text and numbers; bytes as a string ('conv_string'). -/
import Derived.Test.YtjcanlnnadnodaaRead
import Derived.Laws.BytesArg
namespace Go.Proofs.Ytjcanlnnadnodaa
open Go.RowKit

theorem conv_string {w : World} {lim : Nat} {A : Option Addr} {l : List Int} (h : Has w lim A (bs l)) (c : Nat) :
    (convert 22 9 (.slice A l.length c)).run Try.prog w = .ok (.string (strOfNums l)) w := by
  rcases h with h | ⟨b, off, rfl, _, hc⟩
  · have hl : l = [] := by simpa [bs] using h
    subst hl
    cases A with
    | none => exact run_convert_bytes_nil w 22 5 Try.underlying22 Try.underlying5 0 c 9 Try.underlying9
    | some a =>
      show (convert 22 9 (.slice (some a) 0 c)).run Try.prog w = _
      rw [run_convert_bytes_string w 22 9 5 _ 0 c Try.underlying22 Try.underlying5 Try.underlying9, run_bytesToString w a 0 c [] (run_loadCells_list (P := Try.prog) w a [] (fun j v hj => by simp at hj))]
      rfl
  · exact run_convert_bytes_arg w 22 5 Try.underlying22 Try.underlying5 b off l.length c l rfl (fun i hi => hc i _ (by simp [bs, hi])) 9 Try.underlying9

theorem Has.take {w : World} {lim : Nat} {A : Option Addr} {xs : List Value} (h : Has w lim A xs) (n : Nat) : Has w lim A (xs.take n) := by
  rcases h with h | ⟨b, off, hA, hb, hc⟩
  · exact .inl (by rw [h]; simp)
  · refine .inr ⟨b, off, hA, hb, fun j u hu => hc j u ?_⟩
    rw [List.getElem?_take] at hu
    split at hu
    · exact hu
    · cases hu

theorem Has.drop {w : World} {lim : Nat} {A : Option Addr} {l : List Int} (h : Has w lim A (bs l)) (k : Nat) : Has w lim (A.map (·.add k)) (bs (l.drop k)) := by
  rcases h with h | ⟨b, off, rfl, hb, hc⟩
  · have : l = [] := by simpa [bs] using h
    exact .inl (by simp [this, bs])
  · refine .inr ⟨b, off + k, by simp [Addr.add_lit], hb, fun j u hu => ?_⟩
    rw [show off + k + j = off + (k + j) by omega]
    refine hc _ u ?_
    simp only [bs, List.map_drop, List.getElem?_drop] at hu ⊢
    exact hu

/-- A step that hands back a value of its own, or throws. -/
def StepPost {α : Type} (enc : α → World → Value → Prop) (w : World) (g : Nat) (e0 : Int) (r : Except Int α × List Int) (e : Ending) (w' : World) : Prop :=
  (match r.1 with
    | .ok n => ∃ v, e = .returned v ∧ enc n w' v
    | .error c => e = .panicked (fault c)) ∧ Rdr w' g r.2 e0 ∧ w.grownBy w' (some g)

theorem number_ok {g : Nat} {l l' : List Int} {n : Int} {e0 : Int} {w : World} (hr : number l = (.ok n, l')) (h : Rdr w g l e0) (hl : l.length ≤ 1099511627776) (hb : bytesOk l) :
    Calls Try.prog 36 #[.pointer (some ⟨g, 0, none⟩)] w fun e w' => e = .returned (.int .i64 n) ∧ Rdr w' g l' e0 ∧ w.grownBy w' (some g) :=
  (number_any g l e0 w h hl hb).mono fun e w' hp => by unfold NumPost at hp; rw [hr] at hp; exact hp
theorem number_err {g : Nat} {l l' : List Int} {c : Int} {e0 : Int} {w : World} (hr : number l = (.error c, l')) (h : Rdr w g l e0) (hl : l.length ≤ 1099511627776) (hb : bytesOk l) :
    Calls Try.prog 36 #[.pointer (some ⟨g, 0, none⟩)] w fun e w' => e = .panicked (fault c) ∧ Rdr w' g l' e0 ∧ w.grownBy w' (some g) :=
  (number_any g l e0 w h hl hb).mono fun e w' hp => by unfold NumPost at hp; rw [hr] at hp; exact hp

theorem length_any (g : Nat) (l : List Int) (e0 : Int) (w : World) (h : Rdr w g l e0) (hl : l.length ≤ 1099511627776) (hb : bytesOk l) :
    Calls Try.prog 48 #[.pointer (some ⟨g, 0, none⟩)] w (NumPost w g e0 (lengthB l)) := by
  rcases hn : number l with ⟨c | n, l'⟩
  · have hL : lengthB l = (.error c, l') := by unfold lengthB; rw [hn]
    rw [hL]
    have HN := Lib.hid (number_err hn h hl hb)
    clear hn hL
    go_enter Try.func48, Try.ntmps48
    go_wp2_with (go_at_call 36; refine (HN.out).mono ?_; rintro e w1 ⟨rfl, h1, g1⟩)
    exact ⟨rfl, rfl, h1, g1⟩
  · have hbd := number_bd l n (by rw [hn])
    have HN := Lib.hid (number_ok hn h hl hb)
    by_cases h0 : n < 0
    · have hL : lengthB l = (.error 4, l') := by unfold lengthB; rw [hn]; simp only [if_pos (show n < 0 ∨ 65535 < n from .inl h0)]
      rw [hL]
      clear hn hL
      go_enter Try.func48, Try.ntmps48
      go_wp2_with (go_at_call 36; refine (HN.out).mono ?_; rintro e w1 ⟨rfl, h1, g1⟩)
      exact ⟨rfl, rfl, h1, g1⟩
    · by_cases h6 : 65535 < n
      · have hL : lengthB l = (.error 4, l') := by unfold lengthB; rw [hn]; simp only [if_pos (show n < 0 ∨ 65535 < n from .inr h6)]
        rw [hL]
        clear hn hL
        go_enter Try.func48, Try.ntmps48
        go_wp2_with (go_at_call 36; refine (HN.out).mono ?_; rintro e w1 ⟨rfl, h1, g1⟩)
        exact ⟨rfl, rfl, h1, g1⟩
      · have hL : lengthB l = (.ok n, l') := by unfold lengthB; rw [hn]; simp only [if_neg (show ¬ (n < 0 ∨ 65535 < n) by omega)]
        rw [hL]
        clear hn hL
        have h0' : 0 ≤ n := by omega
        have h6' : n ≤ 65535 := by omega
        clear h0 h6
        go_enter Try.func48, Try.ntmps48
        go_wp2_with (go_at_call 36; refine (HN.out).mono ?_; rintro e w1 ⟨rfl, h1, g1⟩)
        go_ret
        exact ⟨rfl, h1, g1⟩
theorem length_ok {g : Nat} {l l' : List Int} {n : Int} {e0 : Int} {w : World} (hr : lengthB l = (.ok n, l')) (h : Rdr w g l e0) (hl : l.length ≤ 1099511627776) (hb : bytesOk l) :
    Calls Try.prog 48 #[.pointer (some ⟨g, 0, none⟩)] w fun e w' => e = .returned (.int .i64 n) ∧ Rdr w' g l' e0 ∧ w.grownBy w' (some g) :=
  (length_any g l e0 w h hl hb).mono fun e w' hp => by unfold NumPost at hp; rw [hr] at hp; exact hp
theorem length_err {g : Nat} {l l' : List Int} {c : Int} {e0 : Int} {w : World} (hr : lengthB l = (.error c, l')) (h : Rdr w g l e0) (hl : l.length ≤ 1099511627776) (hb : bytesOk l) :
    Calls Try.prog 48 #[.pointer (some ⟨g, 0, none⟩)] w fun e w' => e = .panicked (fault c) ∧ Rdr w' g l' e0 ∧ w.grownBy w' (some g) :=
  (length_any g l e0 w h hl hb).mono fun e w' hp => by unfold NumPost at hp; rw [hr] at hp; exact hp
theorem lengthB_bd (l : List Int) (n : Int) (l' : List Int) (h : lengthB l = (.ok n, l')) : 0 ≤ n ∧ n ≤ 65535 := by
  unfold lengthB at h
  rcases hn : number l with ⟨c | m, r⟩
  · rw [hn] at h; cases h
  · rw [hn] at h; simp only at h
    split at h
    · cases h
    · cases h; omega

def strOf (t : List Int) (_ : World) (v : Value) : Prop := v = .string (strOfNums t)
theorem text_step (g : Nat) (l : List Int) (e0 : Int) (w : World) (h : Rdr w g l e0) (hl : l.length ≤ 1099511627776) (hb : bytesOk l) :
    Calls Try.prog 38 #[.pointer (some ⟨g, 0, none⟩)] w (StepPost strOf w g e0 (textB l)) := by
  rcases hn : lengthB l with ⟨c | n, l'⟩
  · have hL : textB l = (.error c, l') := by unfold textB; rw [hn]
    rw [hL]
    have HN := Lib.hid (length_err hn h hl hb)
    clear hn hL
    go_enter Try.func38, Try.ntmps38
    go_wp2_with (go_at_call 48; refine (HN.out).mono ?_; rintro e w1 ⟨rfl, h1, g1⟩)
    exact ⟨rfl, rfl, h1, g1⟩
  · have hbd := lengthB_bd l n l' hn
    have hls : l'.length ≤ l.length := by obtain ⟨p, hp⟩ := lengthB_suffix l; rw [hn] at hp; rw [hp]; simp
    obtain ⟨k, rfl⟩ : ∃ k : Nat, n = k := ⟨n.toNat, by omega⟩
    have HN := Lib.hid (length_ok hn h hl hb)
    by_cases hc : l'.length < k
    · have hL : textB l = (.error 8, l') := by unfold textB; rw [hn]; simp [hc]
      rw [hL]
      clear hn hL
      go_enter Try.func38, Try.ntmps38
      go_wp2_with fail
      refine (HN.out).mono ?_
      rintro e w1 ⟨rfl, h1, g1⟩
      have h1' := h1
      obtain ⟨A, c, hg, ha, hcc⟩ := h1
      have c0 : w1.cell? ⟨g, 0, none⟩ = some (.slice A l'.length c) := by simp [World.cell?, hg]
      clear hg ha
      go_wp2_with fail
      exact ⟨rfl, rfl, h1', g1⟩
    · have hL : textB l = (.ok (l'.take k), l'.drop k) := by unfold textB; rw [hn]; simp [hc]
      rw [hL]
      clear hn hL
      have hck : k ≤ l'.length := by omega
      go_enter Try.func38, Try.ntmps38
      go_wp2_with fail
      refine (HN.out).mono ?_
      rintro e w1 ⟨rfl, h1, g1⟩
      obtain ⟨A, c, hg, ha, hcc⟩ := h1
      have c0 : w1.cell? ⟨g, 0, none⟩ = some (.slice A l'.length c) := by simp [World.cell?, hg]
      have f0 : w1.frozen? ⟨g, 0, none⟩ = false := by simp [World.frozen?, hg]
      have hlt : k ≤ c := by omega
      have hcv : (convert 22 9 (.slice A k c)).run Try.prog w1 = .ok (.string (strOfNums (l'.take k))) w1 := by
        have h := conv_string (l := l'.take k) (by rw [bs, List.map_take]; exact ha.take k) c
        rw [List.length_take, Nat.min_eq_left hck] at h
        exact h
      have hld : (l'.drop k).length = l'.length - k := List.length_drop
      have keep : ∀ (A' : Option Addr) (c' : Nat), Has w1 g A' (bs (l'.drop k)) → l'.length - k ≤ c' → Rdr (w1.setCell ⟨g, 0, none⟩ (.slice A' (l'.length - k) c')) g (l'.drop k) e0 ∧ w1.grownBy (w1.setCell ⟨g, 0, none⟩ (.slice A' (l'.length - k) c')) (some g) := fun A' c' h1 h2 =>
        ⟨⟨A', c', by rw [heap_set hg, hld]; rfl, h1.keep (fun p hp => World.cell?_setCell_other _ _ _ _ (fun e => by subst e; simp at hp)), by rw [hld]; exact h2⟩, only_set (only_refl _ _) (.inl rfl) _⟩
      have K := fun A' c' h1 h2 => Lib.hid (keep A' c' h1 h2)
      have HA := Lib.hid ha
      clear keep hg ha hld
      go_wp2_with fail
      · go_ret
        have hz : bs (l'.drop k) = [] := by simp [bs]; omega
        have h := (K A 0 (.inl hz) (by omega)).out
        exact ⟨⟨_, rfl, rfl⟩, h.1, only_step g1 h.2 (fun q hq => .inl hq)⟩
      · go_ret
        have h := (K (A.map (·.add k)) (c - k) (HA.out.drop k) (by omega)).out
        exact ⟨⟨_, rfl, rfl⟩, h.1, only_step g1 h.2 (fun q hq => .inl hq)⟩

/-- A list of numbers of the call's own. -/
def listOf (base : Nat) (t : List Int) (w : World) (v : Value) : Prop := w.ownsRow base 3 1 v t.length (is t)
theorem Try.info_int : (Try.prog.info? 3).map (fun i => (i.zero, i.size, i.bytes)) = some (some (.int .i64 0), 1, 8) := by kernel_rfl
theorem is_one (l : List Int) : ∀ u ∈ is l, u.oneCell' = true := fun u hu => by obtain ⟨_, _, rfl⟩ := List.mem_map.1 hu; rfl
theorem is_len (l : List Int) : (is l).length = l.length := by simp [is]
/-- append onto a []int of the call's own. -/
theorem app_ints {w : World} {ops : Array Oper} {rest : List Oper} {o : Oper} {a : Act} {Q : Exit → Act → World → Prop} (hgd : o.guard = none) (s x : Operand) (tx : TypeId)
    (ho : o.op = .call { callee := .builtin .append, args := #[s, x], argTypes := #[23, tx] })
    (base : Nat) (v : Value) (xs : List Value) (hs : a.eval s = v) (hown : w.ownsRow base 3 1 v xs.length xs) (u : Value) (news : List Value) (hu : a.eval x = u) (hsrc : Src Try.prog 1 tx u news.length news w)
    (hlen : xs.length + news.length ≤ 8796093022208) (hbase : base ≤ w.heap.size)
    (h : ∀ v' w', Grew w w' base 3 v v' (xs ++ news) → wpList Try.prog ops Q rest (a.put o.dst v') w') : wpList Try.prog ops Q (o :: rest) a w := by
  obtain ⟨i0, hi, hz0, hz1, hz2⟩ := info_parts Try.info_int
  exact wpList_append_row w hgd s x 23 tx ho base 3 i0 (.int .i64 0) 8 Try.underlying23 hi hz0 hz1 hz2 rfl v xs hs hown u news hu hsrc (by simp only [maxLen]; omega) (by omega) hbase h

theorem numsB_suffix : ∀ (k : Nat) (acc l : List Int), ∃ p, l = p ++ (numsB acc k l).2
  | 0, _, l => ⟨[], rfl⟩
  | k + 1, acc, l => by
    obtain ⟨p, hp⟩ := number_suffix l
    unfold numsB
    rcases hn : number l with ⟨c | n, r⟩
    · rw [hn] at hp; exact ⟨p, hp⟩
    · rw [hn] at hp
      obtain ⟨q, hq⟩ := numsB_suffix k (acc ++ [n]) r
      refine ⟨p ++ q, ?_⟩
      simp only at hp ⊢
      rw [List.append_assoc, ← hq]; exact hp

set_option maxHeartbeats 1000000 in
theorem numbers_step (g : Nat) (l : List Int) (e0 : Int) (w : World) (h : Rdr w g l e0) (hl : l.length ≤ 1099511627776) (hb : bytesOk l) :
    Calls Try.prog 41 #[.pointer (some ⟨g, 0, none⟩)] w (StepPost (listOf w.heap.size) w g e0 (intsB l)) := by
  have hgl := h.lt
  rcases hn : lengthB l with ⟨c | n, l'⟩
  · have hL : intsB l = (.error c, l') := by unfold intsB; rw [hn]
    rw [hL]
    have HN := Lib.hid (length_err hn h hl hb)
    clear hn hL
    go_enter Try.func41, Try.ntmps41
    go_wp2_with (go_at_call 48; refine (HN.out).mono ?_; rintro e w1 ⟨rfl, h1, g1⟩)
    exact ⟨rfl, rfl, h1, g1⟩
  · have hbd := lengthB_bd l n l' hn
    obtain ⟨p, hp⟩ := lengthB_suffix l
    rw [hn] at hp
    have hls : l'.length ≤ l.length := by rw [hp]; simp
    have hbl : bytesOk l' := fun x hx => hb x (by rw [hp]; simp [hx])
    obtain ⟨k, rfl⟩ : ∃ k : Nat, n = k := ⟨n.toNat, by omega⟩
    have HN := Lib.hid (length_ok hn h hl hb)
    have hL : intsB l = numsB [] k l' := by unfold intsB; rw [hn]; simp
    rw [hL]
    obtain ⟨r, hr⟩ : ∃ r, numsB [] k l' = r := ⟨_, rfl⟩
    rw [hr]
    have HR := Lib.hid hr
    have HB := Lib.hid hbl
    have hk : k ≤ 65535 := by omega
    clear hn hL hp hr hb hbl hbd
    go_enter Try.func41, Try.ntmps41
    go_wp2_with (go_at_call 48; refine (HN.out).mono ?_; rintro e w1 ⟨rfl, h1, g1⟩)
    go_loopw [3, 6] (fun sv si wr => ∃ (j : Nat) (acc l2 : List Int), j ≤ k ∧ si = .int .i64 j ∧ acc.length = j ∧ wr.ownsRow w.heap.size 3 1 sv acc.length (is acc) ∧ Rdr wr g l2 e0 ∧ l2.length ≤ 1099511627776 ∧ Hid (bytesOk l2) ∧ Hid (numsB acc (k - j) l2 = r) ∧ w.grownBy wr (some g))
      (fun _ si _ => k - (intOf si).toNat)
    case atStart => exact ⟨0, [], l', Nat.zero_le _, rfl, rfl, World.ownsRow_nil _ _ _ _, h1, by omega, HB, HR, g1⟩
    case round =>
      obtain ⟨j, acc, l2, hj, rfl, ha, ho, hR, hl2, hB, hV, hG⟩ := hrel
      have hsz := hG.size
      by_cases hlt : j < k
      · rcases hn : number l2 with ⟨c | n, l3⟩
        · have hv : r = (.error c, l3) := by
            rw [← hV.out, show k - j = (k - j - 1) + 1 by omega]; unfold numsB; rw [hn]
          subst hv
          have HN2 := Lib.hid (number_err hn hR hl2 hB.out)
          clear hV hn
          go_wp2_with (go_at_call 36; refine (HN2.out).mono ?_; rintro e w2 ⟨rfl, h2, g2⟩)
          exact ⟨rfl, rfl, h2, only_step hG g2 (fun k hk => .inl hk)⟩
        · have hv : numsB (acc ++ [n]) (k - (j + 1)) l3 = r := by
            have h := hV.out
            rw [show k - j = (k - (j + 1)) + 1 by omega] at h; unfold numsB at h; rw [hn] at h; exact h
          have HV := Lib.hid hv
          have HN2 := Lib.hid (number_ok hn hR hl2 hB.out)
          obtain ⟨p, hp⟩ := number_suffix l2
          rw [hn] at hp
          have hl3 : l3.length ≤ l2.length := by rw [hp]; simp
          have HB3 : Hid (bytesOk l3) := fun x hx => hB.out x (by rw [hp]; simp [hx])
          clear hV hn hv hp
          go_wp2_with (first
            | (go_at_call 36; refine (HN2.out).mono ?_; rintro e w2 ⟨rfl, h2, g2⟩; have ho2 := ho.kept g2 (by
                 rcases ho.2 with ⟨h, _⟩ | ⟨q, _, _, h, hq, _⟩
                 · rw [h]; exact .inl rfl
                 · rw [h]; right; intro e; injection e with e; simp at e; omega); have hsz2 := g2.size; have hil := is_len acc)
            | (at_builtin; go_loud (refine app_ints rfl _ _ 23 rfl w.heap.size _ (is acc) rfl (by rw [is_len]; exact ho2.alloc _) (.slice (some ⟨w2.heap.size, 0, none⟩) 1 1) [.int .i64 n] rfl (src_one 23 3 Try.underlying23 _ _ rfl) (by rw [is_len]; simp only [List.length_singleton]; omega) (by simp; omega) ?_); intro v3 w3 g3))
          go_roundw
          case rel =>
            have e1 : is acc ++ [Value.int .i64 n] = is (acc ++ [n]) := by simp [is]
            have e2 : (is (acc ++ [n])).length = (acc ++ [n]).length := is_len _
            have go3 := g3.own
            rw [e1, e2] at go3
            refine ⟨j + 1, acc ++ [n], l3, by omega, by go_num, by simp [ha], go3, ?_, by omega, HB3, HV, ?_⟩
            · have h2a := h2.only (World.grownBy_alloc w2 (.cells #[.int .i64 n] 3) none) (fun _ h => by cases h)
              refine h2a.only g3.only (fun q hq => ?_)
              have := ho2.lt q hq; omega
            · exact only_step (only_alloc (only_step hG g2 (fun k hk => .inl hk)) _) g3.only (fun q hq => .inr (ho2.lt q hq).1)
          case measure => simp [intOf]; omega
      · have hjk : j = k := by omega
        subst hjk
        have hv : r = (.ok acc, l2) := by rw [← hV.out, Nat.sub_self]; rfl
        subst hv
        clear hV
        go_wp2
        go_ret
        exact ⟨⟨_, rfl, ho⟩, hR, hG⟩
end Go.Proofs.Ytjcanlnnadnodaa
