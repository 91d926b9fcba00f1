/- Where two disks begin: New of the program's and of the reference's. No condition. -/
import Derived.Test.YtmjfemnjkgfgfaaBt
namespace Go.Proofs.Ytmjfemnjkgfgfaa
open Go.RowKit Go.Deep
theorem dnew_anyF (F : Nat → Prop) (room : Int) (w : World) (h1 : 1 ≤ room) (h2 : room ≤ 16777216) :
    Calls Try.prog 10 #[.int .i64 room] w fun e w' => e = .returned (.tuple #[.pointer (some ⟨w.heap.size, 0, none⟩), .int .i64 0]) ∧ Df w' F w.heap.size (newS room) ∧ w'.heap.size = w.heap.size + 1 ∧ w.grownBy w' none := by
  have t1 : ¬ room < 1 := by omega
  have t2 : ¬ (16777216 : Int) < room := by omega
  go_enter Try.func10, Try.ntmps10
  go_wp2_with fail
  go_ret2
  exact ⟨rfl, ⟨.slice none 0 0, .slice none 0 0, heap_alloc_new _ _, World.ownsRow_nil _ _ _ _, World.ownsRow_nil _ _ _ _, by simp [Value.ownBlock], by simp [Value.ownBlock], .inl rfl, (fun k e => by cases e), fun k e => by cases e⟩, by simp, World.grownBy_alloc _ _ none⟩
theorem dnew_no (room : Int) (w : World) (h : room < 1 ∨ 16777216 < room) :
    Calls Try.prog 10 #[.int .i64 room] w fun e w' => e = .returned (.tuple #[.pointer none, .int .i64 1]) ∧ w.grownBy w' none := by
  by_cases t1 : room < 1
  · go_enter Try.func10, Try.ntmps10
    go_wp2_with fail
    go_ret2
    exact ⟨rfl, only_refl _ _⟩
  · have t2 : (16777216 : Int) < room := by omega
    go_enter Try.func10, Try.ntmps10
    go_wp2_with fail
    go_ret2
    exact ⟨rfl, only_refl _ _⟩
theorem rnew_no (room : Int) (w : World) (h : room < 1 ∨ 16777216 < room) :
    Calls Try.prog 11 #[.int .i64 room] w fun e w' => e = .returned (.tuple #[.pointer none, .int .i64 1]) ∧ w.grownBy w' none := by
  by_cases t1 : room < 1
  · go_enter Try.func11, Try.ntmps11
    go_wp2_with fail
    go_ret2
    exact ⟨rfl, only_refl _ _⟩
  · have t2 : (16777216 : Int) < room := by omega
    go_enter Try.func11, Try.ntmps11
    go_wp2_with fail
    go_ret2
    exact ⟨rfl, only_refl _ _⟩
/-- Two new disks. -/
theorem Bt.new {w w' : World} {base p q : Nat} {d : DS} (hD : Df w (fun _ => False) p d) (hR : Rk w' (fun _ => False) q d) (g : w.grownBy w' none) (hpq : p ≠ q) (h1 : base ≤ p) (h2 : base ≤ q) : Bt w' base p q (fun _ => False) d d :=
  ⟨fun _ => False, fun _ => False, hD.keep (g.block p hD.lt (by simp)) (fun _ _ h => h.elim), hR, fun _ h => h.elim, id, id, hpq, h1, h2, fun _ h => h.elim, fun _ h => h.elim⟩
/-- How far the numbers of a disk have gone behind k calls. -/
structure Gone (d : DS) (k : Nat) : Prop where
  ok : Ok d
  st : d.st ≤ 9223372036854775807
  op : d.op ≤ k
  sn : d.sn ≤ k
  len : (d.L.length : Int) + d.S.length ≤ d.rm + d.rm
  rm : d.rm ≤ 16777216
  l : (d.L.length : Int) ≤ d.rm
  s : (d.S.length : Int) ≤ d.rm
theorem gone_new (room : Int) (h1 : 1 ≤ room) (h2 : room ≤ 16777216) : Gone (newS room) 0 :=
  ⟨⟨by simp [newS], by simp [newS], by simp [newS], by simp [newS]; omega, by simp [newS], by simp [newS], by simp [newS]⟩, by simp [newS], by simp [newS], by simp [newS], by simp [newS]; omega, h2, by simp [newS]; omega, by simp [newS]; omega⟩
theorem gone_spend {d : DS} {k : Nat} (h : Gone d k) (hk : k ≤ 1000) : Gone (spendS d) (k + 1) := by
  obtain ⟨⟨o1, o2, o3, o4, o5, o6, o7⟩, h2, h3, h4, h5, h6, h7, h8⟩ := h
  have hs : spO d.st d.sn d.op = d.op ∨ spO d.st d.sn d.op = d.op + 1 := by unfold spO; split <;> simp
  exact ⟨⟨o1, o2, o3, o4, o5, by show 0 ≤ d.sn + 1 ∧ d.sn + 1 ≤ _; omega, by show 0 ≤ spO d.st d.sn d.op ∧ spO d.st d.sn d.op ≤ _; omega⟩, h2, by show spO d.st d.sn d.op ≤ _; omega, by show d.sn + 1 ≤ _; omega, h5, h6, h7, h8⟩
theorem gone_more {d : DS} {k : Nat} (h : Gone d k) : Gone d (k + 1) := by
  obtain ⟨h1, h2, h3, h4, h5, h6, h7, h8⟩ := h
  exact ⟨h1, h2, by omega, by omega, h5, h6, h7, h8⟩
theorem gone_keep {d : DS} {k n : Nat} (h : Gone d k) (hn : n ≤ d.L.length) : Gone (keepS d n) k := by
  obtain ⟨⟨o1, o2, o3, o4, o5, o6, o7⟩, h2, h3, h4, h5, h6, h7, h8⟩ := h
  have hl : (d.L.take n).length = n := by rw [List.length_take]; omega
  exact ⟨⟨by show (d.L.take n).length ≤ _; omega, o2, by show 0 ≤ (n : Int) ∧ (n : Int) ≤ (d.L.take n).length; omega, o4, o5, o6, o7⟩, h2, h3, h4, by show ((d.L.take n).length : Int) + d.S.length ≤ d.rm + d.rm; omega, h6, by show ((d.L.take n).length : Int) ≤ d.rm; omega, h8⟩
theorem gone_append {d : DS} {k : Nat} (h : Gone d k) (hk : k ≤ 1000) (b : List Int) : Gone (appendS d b) (k + 1) := by
  unfold appendS
  split
  · exact gone_more h
  · rename_i hh
    have hr : (d.L.length : Int) + d.S.length + b.length ≤ d.rm := by
      have := not_or.1 hh
      omega
    have h' : Gone { d with L := d.L ++ b } k := by
      obtain ⟨⟨o1, o2, o3, o4, o5, o6, o7⟩, h2, h3, h4, h5, h6, h7, h8⟩ := h
      have hl : (d.L ++ b).length = d.L.length + b.length := List.length_append
      exact ⟨⟨by show (d.L ++ b).length ≤ _; omega, o2, by show 0 ≤ d.sy ∧ d.sy ≤ ((d.L ++ b).length : Int); omega, o4, o5, o6, o7⟩, h2, h3, h4, by show ((d.L ++ b).length : Int) + d.S.length ≤ d.rm + d.rm; omega, h6, by show ((d.L ++ b).length : Int) ≤ d.rm; omega, h8⟩
    exact gone_spend h' hk
theorem gone_sync {d : DS} {k : Nat} (h : Gone d k) (hk : k ≤ 1000) : Gone (syncS d) (k + 1) := by
  unfold syncS
  split
  · exact gone_more h
  · split
    · exact gone_spend h hk
    · obtain ⟨⟨o1, o2, o3, o4, o5, o6, o7⟩, h2, h3, h4, h5, h6, h7, h8⟩ := gone_spend h hk
      exact ⟨⟨o1, o2, by show 0 ≤ (d.L.length : Int) ∧ (d.L.length : Int) ≤ d.L.length; omega, o4, o5, o6, o7⟩, h2, h3, h4, h5, h6, h7, h8⟩
theorem gone_stop {d : DS} {k : Nat} (h : Gone d k) (n : Int) (h1 : -9223372036854775808 ≤ n) (h2 : n ≤ 9223372036854775807) : Gone (stopS d n) (k + 1) := by
  obtain ⟨⟨o1, o2, o3, o4, o5, o6, o7⟩, q2, h3, h4, h5, h6, h7, h8⟩ := h
  exact ⟨⟨o1, o2, o3, o4, h1, by show (0 : Int) ≤ 0 ∧ (0 : Int) ≤ _; omega, o7⟩, h2, by show d.op ≤ _; omega, by show (0 : Int) ≤ _; omega, h5, h6, h7, h8⟩
theorem gone_crash {d : DS} {k : Nat} (h : Gone d k) (p : Int) : Gone (crashS d p) (k + 1) := by
  obtain ⟨⟨o1, o2, o3, o4, o5, o6, o7⟩, q2, h3, h4, h5, h6, h7, h8⟩ := h
  have hk1 := Int.emod_nonneg p (show ((d.L.length : Int) - d.sy + 1) ≠ 0 by omega)
  have hk2 := Int.emod_lt_of_pos p (show (0 : Int) < (d.L.length : Int) - d.sy + 1 by omega)
  have hc : crashK d p = p % ((d.L.length : Int) - d.sy + 1) := rfl
  have hl : ((d.L.take (d.sy + crashK d p).toNat).length : Int) = d.sy + crashK d p := by rw [List.length_take]; omega
  exact ⟨⟨by show (d.L.take (d.sy + crashK d p).toNat).length ≤ _; omega, o2, by show 0 ≤ d.sy + crashK d p ∧ d.sy + crashK d p ≤ ((d.L.take (d.sy + crashK d p).toNat).length : Int); omega, o4, by show (-9223372036854775808 : Int) ≤ 0; omega, by show (0 : Int) ≤ 0 ∧ (0 : Int) ≤ _; omega, o7⟩, by show (0 : Int) ≤ _; omega, by show d.op ≤ _; omega, by show (0 : Int) ≤ _; omega, by show ((d.L.take (d.sy + crashK d p).toNat).length : Int) + d.S.length ≤ d.rm + d.rm; omega, h6, by show ((d.L.take (d.sy + crashK d p).toNat).length : Int) ≤ d.rm; omega, h8⟩
theorem gone_swap {d : DS} {k : Nat} (h : Gone d k) (hk : k ≤ 1000) (b : List Int) : Gone (swapS d b) (k + 1) := by
  unfold swapS
  split
  · exact gone_more h
  · rename_i hh
    have hr : (b.length : Int) ≤ d.rm := by
      have := not_or.1 hh
      omega
    split
    · have h' : Gone { spendS d with S := b } (k + 1) := by
        obtain ⟨⟨o1, o2, o3, o4, o5, o6, o7⟩, h2, h3, h4, h5, h6, h7, h8⟩ := gone_spend h hk
        have e1 : (spendS d).L = d.L := rfl
        have e2 : (spendS d).rm = d.rm := rfl
        rw [e1, e2] at h5 h7
        rw [e2] at h6
        exact ⟨⟨o1, by show b.length ≤ _; omega, o3, o4, o5, o6, o7⟩, h2, h3, h4, by show (d.L.length : Int) + b.length ≤ d.rm + d.rm; omega, h6, h7, hr⟩
      exact gone_keep h' (Nat.zero_le _)
    · exact gone_spend h hk
theorem gone_cut {d : DS} {k : Nat} (h : Gone d k) (hk : k ≤ 1000) (n : Int) : Gone (cutS d n) (k + 1) := by
  unfold cutS
  split
  · exact gone_more h
  · rename_i hh
    have h2 := (not_or.1 hh).2
    have h3 := not_or.1 h2
    split
    · exact gone_keep (gone_spend h hk) (by show n.toNat ≤ d.L.length; omega)
    · exact gone_spend h hk
end Go.Proofs.Ytmjfemnjkgfgfaa
