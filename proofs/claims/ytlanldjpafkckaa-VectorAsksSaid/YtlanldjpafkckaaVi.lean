/- slices.Insert of one entry where there is room for one. No condition of the program's own. -/
import Derived.Test.YtlanldjpafkckaaVq
import Derived.Lib.Overlaps
import Derived.Laws.Externs
import Derived.Laws.Tables
import Derived.Deep.RegionLaw
namespace Go.Proofs.Ytlanldjpafkckaa
open Go.RowKit Go.Deep

section
variable {P : Program} (w : World)
/-- copy within one row that is known whole. -/
theorem run_copy_into (dT sT ty elem : TypeId) (s : Nat) (g o dLen dCap : Nat) (a : Addr) (sLen sCap : Nat) (cur : Array Value) (t : TypeId) (cs : List Value) (m : Nat)
    (hu : P.underlying dT = some (.slice elem)) (hs : (P.info? elem).map (·.size) = some s)
    (hg : w.heap[g]? = some (.cells cur t (0, 0))) (hm : m = Nat.min sLen dLen) (hn : cs.length = m * s)
    (hsrc : ∀ j v, cs[j]? = some v → w.cell? (a.add j) = some v) (hfit : o + cs.length ≤ cur.size) (h1 : ∀ v ∈ cs, v.oneCell' = true) :
    (Builtin.copy_ #[dT, sT] ty #[.slice (some ⟨g, o, none⟩) dLen dCap, .slice (some a) sLen sCap]).run P w =
      .ok (goInt m) (w.setRow g (cur.toList.take o ++ cs ++ cur.toList.drop (o + cs.length)).toArray) := by
  subst hm
  exact run_copy_wide w dT sT ty elem s g o dLen dCap a sLen sCap cur t cs hu hs hg hn hsrc hfit h1
theorem wpList_copy_run {ops : Array Oper} {rest : List Oper} {o : Oper} {a : Act} {Q : Exit → Act → World → Prop} (hgd : o.guard = none) (d s : Operand) (t t' : TypeId)
    (ho : o.op = .call { callee := .builtin .copy, args := #[d, s], argTypes := #[t, t'] }) (v u : Value) (hd : a.eval d = v) (hs : a.eval s = u) {v' : Value} {w' : World}
    (hr : (Builtin.copy_ #[t, t'] o.type #[v, u]).run P w = .ok v' w') (h : wpList P ops Q rest (a.put o.dst v') w') : wpList P ops Q (o :: rest) a w :=
  wpList_plain hgd fun _ hK => by
    unfold Oper.wp execOp
    simp only [ho, resolve, invoke, builtin, Sem.run_bind, Sem.run_pure, Result.andThen_ok, List.map_toArray, List.map_cons, List.map_nil, hd, hs, hr]
    exact hK _ _ h
theorem step_copy_run {ops : Array Oper} {o : Oper} {a : Act} {w : World} {K : Act → World → Prop} {Q : Exit → Act → World → Prop} {E : Prop}
    (hg : o.guard = none) (d x : Operand) (dT sT : TypeId) (hop : o.op = Op.call { callee := Callee.builtin Builtin.copy, args := #[d, x], argTypes := #[dT, sT] })
    (v u : Value) (hd : a.eval d = v) (hx : a.eval x = u) {v' : Value} {w' : World} (hr : (Builtin.copy_ #[dT, sT] o.type #[v, u]).run P w = .ok v' w') (hK : K (a.put o.dst v') w') :
    if Region.wanted o (yielded ops a.tmps) = true then Oper.wp P o a w K Q else E := by
  have hw : Region.wanted o (yielded ops a.tmps) = true := by simp [Region.wanted, hg]
  rw [if_pos hw]
  unfold Oper.wp
  simp [execOp, hop, resolve, invoke, builtin, hd, hx, hr, Result.andThen]
  exact hK
end

theorem cell_of_heap {w : World} {b : Nat} {arr : Array Value} {T : TypeId} {fr : Nat × Nat} (h : w.heap[b]? = some (.cells arr T fr)) (j : Nat) (v : Value) (hj : arr[j]? = some v) : w.cell? ⟨b, j, none⟩ = some v := by
  unfold World.cell?; rw [h]; exact hj
theorem setRow_only (w : World) (g : Nat) (cs : Array Value) : w.grownBy (w.setRow g cs) (some g) :=
  ⟨rfl, rfl, rfl, by simp, fun k _ hne => setRow_other w g k cs (fun e => hne (by rw [e]))⟩
theorem info3 : (Try.prog.info? 40).map (·.size) = some 3 := by kernel_rfl
theorem sz3 (w : World) : (Go.sizeOf 40).run Try.prog w = .ok 3 w := Try.sizeOf40 w

set_option maxRecDepth 100000 in
set_option maxHeartbeats 2000000 in
theorem ins_mid (g b : Nat) (l : List E3) (x : E3) (i : Nat) (hi : i < l.length) (w : World) (cur : Array Value) (hg : w.heap[g]? = some (.cells cur 40 (0, 0))) (hcs : cur.size = (l.length + 1) * 3) (htk : cur.toList.take (l.length * 3) = dc l)
    (hb : w.heap[b]? = some (.cells #[.int .i64 x.1, .int .i64 x.2.1, .int .i64 x.2.2] 40 (0, 0))) (hne : b ≠ g) (hl : l.length ≤ 1099511627776) :
    Calls Try.prog 24 #[.slice (some ⟨g, 0, none⟩) l.length (l.length + 1), .int .i64 (i : Int), .slice (some ⟨b, 0, none⟩) 1 1] w fun e w' =>
      e = .returned (.slice (some ⟨g, 0, none⟩) (l.length + 1) (l.length + 1)) ∧ w'.heap[g]? = some (.cells (dc (l.take i ++ x :: l.drop i)).toArray 40 (0, 0)) ∧ w.grownBy w' (some g) := by
  obtain ⟨n, hn⟩ : ∃ n, n = l.length := ⟨_, rfl⟩
  have hdl : (dc l).length = n * 3 := by rw [dc_len, hn]
  rw [← hn] at hi hcs htk hl ⊢
  have hov : ∀ lb cb, (callFunc 30 #[.slice (some ⟨b, 0, none⟩) 1 1, .slice (some ⟨g, (i + 1) * 3, none⟩) lb cb]).run Try.prog w = .ok (.value (.bool false)) w := fun lb cb => by
    rw [run_callFunc_extern Try.func30 (by kernel_rfl) (by kernel_rfl) (by kernel_rfl) (e := Extern.SlicesOverlaps.overlaps #[26, 26] #[4]) (by kernel_rfl),
      Lib.run_overlaps_apart w 26 4 40 Try.underlying26 3 sz3 ⟨b, 0, none⟩ ⟨g, (i + 1) * 3, none⟩ 1 1 lb cb hne 40 40 3 ((n + 1) * 3)
        (by simp [World.shape?, hb]) (by simp [World.shape?, hg, hcs]) (by omega) (by simp [World.frozen?, hb]) (by simp [World.frozen?, hb])]
    rfl
  have hz2 : ¬ ((i : Int) = (n : Int)) := by omega
  have hz3 : ((i : Int) == (n : Int)) = false := by rw [beq_eq_false_iff_ne]; exact hz2
  have hw1 : IntKind.i64.wrap ((i : Int) + 1) = (i : Int) + 1 := by rw [IntKind.wrap_i64]; omega
  have hw2 : IntKind.i64.wrap ((n : Int) + 1) = (n : Int) + 1 := by rw [IntKind.wrap_i64]; omega
  have hb1 : (0 : Int) ≤ (i : Int) + 1 := by omega
  have htn : ((i : Int) + 1).toNat = i + 1 := by omega
  have hb3 : (i : Int) ≤ (n : Int) + 1 := by omega
  have hb4 : ¬ (n + 1 = i) := by omega
  have hb5 : (i : Int) ≤ (n : Int) := by omega
  have hb6 : ¬ n + 1 < n + 1 := by omega
  have hb7 : ¬ n = i := by omega
  have hb8 : (0 : Int) ≤ (i : Int) := by omega
  have hb9 : ¬ (n + 1 = i + 1) := by omega
  have cA : ∀ j v, (dc l)[j]? = some v → w.cell? ⟨g, j, none⟩ = some v := fun j v hj => by
    unfold World.cell?
    rw [hg]
    show cur[j]? = some v
    rw [← htk, List.getElem?_take] at hj
    split at hj
    · rw [← Array.getElem?_toList]; exact hj
    · cases hj
  have cB : ∀ j v, (dc [x])[j]? = some v → w.cell? ⟨b, j, none⟩ = some v := fun j v hj => cell_of_heap hb j v (by rw [← hj, ← Array.getElem?_toList]; rfl)
  obtain ⟨r1, hr1⟩ : ∃ r1 : List Value, r1 = cur.toList.take ((i + 1) * 3) ++ (dc l).drop (i * 3) ++ cur.toList.drop ((i + 1) * 3 + ((dc l).drop (i * 3)).length) := ⟨_, rfl⟩
  obtain ⟨r2, hr2⟩ : ∃ r2 : List Value, r2 = r1.take (i * 3) ++ dc [x] ++ r1.drop (i * 3 + (dc [x]).length) := ⟨_, rfl⟩
  have hdd : ((dc l).drop (i * 3)).length = (n - i) * 3 := by rw [List.length_drop, hdl]; omega
  have hl1 : r1.length = (n + 1) * 3 := by rw [hr1]; simp only [List.length_append, List.length_take, List.length_drop, Array.length_toList, hcs, hdl]; omega
  have hcp1 : ∀ ty dc' sc, (Builtin.copy_ #[26, 26] ty #[.slice (some ⟨g, (i + 1) * 3, none⟩) (n - i) dc', .slice (some ⟨g, i * 3, none⟩) (n + 1 - i) sc]).run Try.prog w.drew = .ok (goInt (n - i : Nat)) (w.drew.setRow g r1.toArray) := fun ty dc' sc => by
    rw [hr1]
    exact run_copy_into w.drew _ _ ty 40 3 g ((i + 1) * 3) _ dc' ⟨g, i * 3, none⟩ _ sc cur _ ((dc l).drop (i * 3)) (n - i) Try.underlying26 info3 hg (by simp only [Nat.min_def]; split <;> omega) hdd
      (fun j v hj => by rw [Addr.add_lit]; exact cA _ v (by rwa [List.getElem?_drop] at hj)) (by rw [hdd, hcs]; omega) (fun v hv => dc_one l v (List.mem_of_mem_drop hv))
  obtain ⟨W1, hW1⟩ : ∃ W1, W1 = w.drew.setRow g r1.toArray := ⟨_, rfl⟩
  have hg1 : W1.heap[g]? = some (.cells r1.toArray 40 (0, 0)) := by rw [hW1]; exact setRow_heap w.drew g cur _ _ _ hg
  have o1 : w.grownBy W1 (some g) := by rw [hW1]; exact only_step (only_drew (only_refl w (some g))) (setRow_only _ _ _) (fun k hk => .inl hk)
  have hcp2 : ∀ (k : Nat) ty dc', (Builtin.copy_ #[26, 26] ty #[.slice (some ⟨g, i * 3, none⟩) (n + 1 - i) dc', .slice (some ⟨b, 0, none⟩) 1 1]).run Try.prog (W1.drewN k) = .ok (goInt (1 : Nat)) ((W1.drewN k).setRow g r2.toArray) := fun k ty dc' => by
    have := run_copy_into (P := Try.prog) (W1.drewN k) 26 26 ty 40 3 g (i * 3) (n + 1 - i) dc' ⟨b, 0, none⟩ 1 1 r1.toArray 40 (dc [x]) 1 Try.underlying26 info3 hg1 (by simp only [Nat.min_def]; split <;> omega) rfl
      (fun j v hj => by rw [Addr.add_lit, Nat.zero_add]; exact (World.cell?_of_block (o1.block b (Array.getElem?_eq_some_iff.1 hb).1 (by simpa using hne))).trans (cB j v hj)) (by show _ ≤ r1.toArray.size; rw [List.size_toArray, hl1]; show i * 3 + 3 ≤ _; omega) (dc_one [x])
    rw [hr2]; exact this
  have hfin : r2 = dc (l.take i ++ x :: l.drop i) := by
    have e1 : r1 = cur.toList.take ((i + 1) * 3) ++ (dc l).drop (i * 3) := by
      rw [hr1, hdd, show cur.toList.drop ((i + 1) * 3 + (n - i) * 3) = [] from List.drop_eq_nil_of_le (by rw [Array.length_toList, hcs]; omega), List.append_nil]
    have e2 : r1.take (i * 3) = (dc l).take (i * 3) := by
      rw [e1, List.take_append_of_le_length (by rw [List.length_take, Array.length_toList, hcs]; omega), List.take_take, ← htk, List.take_take]
      congr 1; omega
    have e3 : r1.drop (i * 3 + (dc [x]).length) = (dc l).drop (i * 3) := by
      rw [e1, show i * 3 + (dc [x]).length = (i + 1) * 3 from by show i * 3 + 3 = _; omega, List.drop_left' (by rw [List.length_take, Array.length_toList, hcs]; omega)]
    rw [hr2, e2, e3, dc_append, show dc (x :: l.drop i) = dc [x] ++ dc (l.drop i) from rfl, dc_take, dc_drop, List.append_assoc]
  rw [← hW1] at hcp1
  have FIN := Lib.hid hfin
  have G1 := Lib.hid hg1
  have O1 := Lib.hid o1
  clear hfin hg1 o1 hr1 hr2 hdd hl1 cA cB hdl hcs htk hb hg hW1 hn
  go_enter Try.func24, Try.ntmps24
  go_wp2_with (simp only [hov])
  go_region_law (refine step_copy_run rfl _ _ 26 26 rfl _ _ (by simp [Act.eval, Act.put]) (by simp [Act.eval, Act.put]) (hcp1 _ _ _) ?_)
  go_wp2_with (with_reducible refine wpList_copy_run _ rfl _ _ 26 26 rfl _ _ rfl rfl (hcp2 0 _ _) ?_)
  go_ret
  refine ⟨rfl, ?_, only_step O1.out (setRow_only _ _ _) (fun k hk => .inl hk)⟩
  rw [← FIN.out]
  exact setRow_heap W1 g _ _ _ _ G1.out
/-- What stands in a row of the call's own, as one whole. -/
theorem own_of {w : World} {g n c : Nat} {l : List E3} {base : Nat} {arr : Array Value} (hb : base ≤ g) (h : w.heap[g]? = some (.cells arr 40 (0, 0))) (hn : n = l.length) (hc : n ≤ c) (hcm : c ≤ maxLen) (hs : arr.size = c * 3) (ht : arr.toList.take (n * 3) = dc l) :
    w.ownsRow base 40 3 (.slice (some ⟨g, 0, none⟩) n c) n (dc l) :=
  ⟨by rw [dc_len, hn], .inr ⟨g, c, arr, rfl, hb, h, hc, hcm, hs, ht⟩⟩
set_option maxRecDepth 100000 in
set_option maxHeartbeats 2000000 in
theorem ins_any (base g b : Nat) (l : List E3) (x : E3) (i : Nat) (hi : i ≤ l.length) (w : World) (cur : Array Value) (hg : w.heap[g]? = some (.cells cur 40 (0, 0))) (hcs : cur.size = (l.length + 1) * 3) (htk : cur.toList.take (l.length * 3) = dc l)
    (hb : w.heap[b]? = some (.cells #[.int .i64 x.1, .int .i64 x.2.1, .int .i64 x.2.2] 40 (0, 0))) (hne : b ≠ g) (hl : l.length ≤ 1099511627776) (hbg : base ≤ g) :
    Calls Try.prog 24 #[.slice (some ⟨g, 0, none⟩) l.length (l.length + 1), .int .i64 (i : Int), .slice (some ⟨b, 0, none⟩) 1 1] w fun e w' =>
      ∃ v, e = .returned v ∧ w'.ownsRow base 40 3 v (l.length + 1) (dc (l.take i ++ x :: l.drop i)) ∧ w.grownBy w' (some g) := by
  by_cases h : i < l.length
  · refine (ins_mid g b l x i h w cur hg hcs htk hb hne hl).mono ?_
    rintro e w' ⟨rfl, h1, h2⟩
    have hn : l.length + 1 = (l.take i ++ x :: l.drop i).length := by rw [List.length_append, List.length_cons, List.length_take, List.length_drop]; omega
    exact ⟨_, rfl, own_of hbg h1 hn (Nat.le_refl _) (by unfold maxLen; omega) (by rw [List.size_toArray, dc_len, ← hn]) (by rw [List.take_of_length_le (by rw [dc_len, ← hn]; omega)]), h2⟩
  · obtain rfl : i = l.length := by omega
    have own : Hid (w.ownsRow base 40 3 (.slice (some ⟨g, 0, none⟩) l.length (l.length + 1)) l.length (dc l)) := Lib.hid (own_of hbg hg rfl (by omega) (by unfold maxLen; omega) hcs htk)
    have hsrc : Hid (Src Try.prog 3 26 (.slice (some ⟨b, 0, none⟩) 1 1) 1 (dc [x]) w) := Lib.hid (Src.ofSlice w Try.underlying26 _ 1 1 _ rfl (fun j u hu => by
      rw [Addr.add_lit, Nat.zero_add]
      exact cell_of_heap hb j u (by rw [← hu, ← Array.getElem?_toList]; rfl)) (dc_one _))
    have hfin : Hid (dc l ++ dc [x] = dc (l.take l.length ++ x :: l.drop l.length)) := Lib.hid (by rw [List.take_length, List.drop_length, dc_append])
    have hbw : Hid (base ≤ w.heap.size) := Lib.hid (by have := (Array.getElem?_eq_some_iff.1 hg).1; omega)
    obtain ⟨n, hn⟩ : ∃ n, n = l.length := ⟨_, rfl⟩
    rw [← hn] at own hl hfin ⊢
    have t1 : ¬ n + 1 = n := by omega
    clear hcs htk hb hg hne h hn
    go_enter Try.func24, Try.ntmps24
    go_wp2_with (at_builtin; go_loud (refine app_e rfl _ _ 26 rfl base _ n _ rfl own.out _ 1 _ rfl hsrc.out (by omega) hbw.out ?_); intro v8 w8 g8; rw [hfin.out] at g8; have g9 := Lib.hid g8; clear g8)
    go_ret
    exact ⟨_, rfl, g9.out.own, g9.out.only⟩
end Go.Proofs.Ytlanldjpafkckaa
