/- JournalKept: the calls over the law's states; a row of strings of the law's own. No condition of the program's own. -/
import Derived.Test.YtpfahfakinonnaaDoorK1
namespace Go.Proofs.YtpfahfakinonnaaDoor
open Go.RowKit Go.Deep Go.ChangeShapes
theorem Tryd.info_str : (Tryd.prog.info? 9).map (fun i => (i.zero, i.size, i.bytes)) = some (some (.string ByteArray.empty), 1, 16) := by kernel_rfl
def strV (recs : List (List Int)) : List Value := recs.map fun l => Value.string (strOfNums l)
theorem strV_len (recs : List (List Int)) : (strV recs).length = recs.length := by simp [strV]
/-- A row of strings of the law's own. -/
def KR (w : World) (base : Nat) (v : Value) (recs : List (List Int)) : Prop := w.ownsRow base 9 1 v (strV recs).length (strV recs)
theorem KR.nil (w : World) (base : Nat) : KR w base (.slice none 0 0) [] := World.ownsRow_nil w base _ 1
theorem KR.form {w : World} {base : Nat} {v : Value} {recs : List (List Int)} (h : KR w base v recs) : ∃ A c, v = .slice A recs.length c := by
  obtain ⟨A, c, hv⟩ := own_slice h
  rw [strV_len] at hv
  exact ⟨A, c, hv⟩
theorem KR.keep2 {w w' : World} {base g q B : Nat} {n : Int} {g' : Nat} {d : DS} {v : Value} {recs : List (List Int)} (h : KR w base v recs) (hD : Dk w B g d) (hq : Jn w q g' n) (hk : Keeps2 w w' g q) : KR w' base v recs := by
  refine ⟨h.1, ?_⟩
  rcases h.2 with h0 | ⟨b, cap, cur, hv, hb, hc, h1, h2, h3, h4⟩
  · exact .inl h0
  · obtain ⟨vL, vS, hB, _⟩ := hD
    refine .inr ⟨b, cap, cur, hv, hb, hk b _ _ _ ?_ ?_ (by decide) hc, h1, h2, h3, h4⟩
    · rintro rfl
      unfold Blk at hB
      rw [hB] at hc
      injection hc with hc
      injection hc with _ hc _
      exact absurd hc (by decide)
    · rintro rfl
      unfold Jn at hq
      rw [hq] at hc
      injection hc with hc
      injection hc with _ hc _
      exact absurd hc (by decide)
theorem KR.disk {w w' : World} {base g B : Nat} {d : DS} {v : Value} {recs : List (List Int)} (h : KR w base v recs) (hD : Dk w B g d) (hg : w.grownBy w' (some g)) : KR w' base v recs := by
  refine ⟨h.1, ?_⟩
  rcases h.2 with h0 | ⟨b, cap, cur, hv, hb, hc, h1, h2, h3, h4⟩
  · exact .inl h0
  · obtain ⟨vL, vS, hB, _⟩ := hD
    refine .inr ⟨b, cap, cur, hv, hb, (hg.block b (Array.getElem?_eq_some_iff.1 hc).1 ?_).trans hc, h1, h2, h3, h4⟩
    intro e
    injection e with e
    subst e
    unfold Blk at hB
    rw [hB] at hc
    injection hc with hc
    injection hc with _ hc _
    exact absurd hc (by decide)
theorem KR.grow {w w' : World} {base : Nat} {v : Value} {recs : List (List Int)} (h : KR w base v recs) (hg : w.grownBy w' none) : KR w' base v recs := h.kept hg (by cases v.ownBlock <;> simp)
/-- append onto a []string of the call's own. -/
theorem app_strs {w : World} {ops : Array Oper} {rest : List Oper} {o : Oper} {a : Act} {Q : Exit → Act → World → Prop} (hgd : o.guard = none) (s x : Operand) (tx : TypeId)
    (ho : o.op = .call { callee := .builtin .append, args := #[s, x], argTypes := #[55, tx] })
    (base : Nat) (v : Value) (xs : List Value) (hs : a.eval s = v) (hown : w.ownsRow base 9 1 v xs.length xs) (u : Value) (news : List Value) (hu : a.eval x = u) (hsrc : Src Tryd.prog 1 tx u news.length news w)
    (hlen : xs.length + news.length ≤ 1099511627776) (hbase : base ≤ w.heap.size)
    (h : ∀ v' w', Grew w w' base 9 v v' (xs ++ news) → wpList Tryd.prog ops Q rest (a.put o.dst v') w') : wpList Tryd.prog ops Q (o :: rest) a w := by
  obtain ⟨i0, hi, hzz⟩ := Option.map_eq_some_iff.1 Tryd.info_str
  simp only [Prod.mk.injEq] at hzz
  obtain ⟨hz, hsz, hb⟩ := hzz
  exact wpList_append_row w hgd s x 55 tx ho base 9 i0 _ 16 Tryd.underlying55 hi hz hsz hb rfl v xs hs hown u news hu hsrc (by simp only [maxLen]; omega) (by omega) hbase h
theorem src_str (w : World) (s : ByteArray) : Src Tryd.prog 1 55 (.slice (some ⟨w.heap.size, 0, none⟩) 1 1) ([Value.string s]).length [Value.string s] (w.alloc (.cells #[.string s] 9)) :=
  src_one 55 9 Tryd.underlying55 _ 9 rfl

/-- What JournalKept holds ahead of each round. -/
structure KI (w wr : World) (g q i : Nat) (recs : List (List Int)) (S sx more : List Int) (dead sw : Bool) (d : DS) (K : Int) : Prop where
  D : Dk wr w.heap.size g d
  J : Jn wr q g recs.length
  G : w.grownBy wr none
  sp : SnapIs S sx
  rk : RecsOk recs
  n : recs.length ≤ i
  dd : d.dd = dead
  al : dead = false → KD d recs S K i ∧ sw = false ∧ more = []
  kz : KZ d recs sx more dead sw
theorem KI.grow {w wr w' : World} {g q i : Nat} {recs : List (List Int)} {S sx more : List Int} {dead sw : Bool} {d : DS} {K : Int} (h : KI w wr g q i recs S sx more dead sw d K) (hg : wr.grownBy w' none) : KI w w' g q i recs S sx more dead sw d K :=
  ⟨h.D.below hg, h.J.grow hg, only_step h.G hg (fun _ hk => .inl hk), h.sp, h.rk, h.n, h.dd, h.al, h.kz⟩
set_option maxRecDepth 100000 in
theorem ki_add {w wr : World} {g q i : Nat} {recs : List (List Int)} {S sx more : List Int} {sw : Bool} {d : DS} {K : Int} (h : KI w wr g q i recs S sx more false sw d K) (hi : i < 30) (hK : 1 ≤ K ∧ K ≤ 40) (hqg : q ≠ g) (hq : w.heap.size ≤ q) (A : Option Addr) (c : Nat) (x : List Int) (hx : Has w w.heap.size A (bs x)) (bx : ∀ y ∈ x, 0 ≤ y ∧ y ≤ 255) (lx : x.length ≤ 200) (hT : Tab w) (base : Nat) (v : Value) (hv : KR wr base v recs) :
    Calls Tryd.prog 14 #[.pointer (some ⟨q, 0, none⟩), .slice A x.length c] wr fun e w' => KR w' base v recs ∧
      ((e = .returned (.int .i64 0) ∧ ∃ d', KI w w' g q (i + 1) (recs ++ [x]) S sx [] false false d' K) ∨
       (∃ k : Int, k ≠ 0 ∧ e = .returned (.int .i64 k) ∧ ∃ d', KI w w' g q (i + 1) recs S sx x true false d' K)) := by
  obtain ⟨kd, rfl, rfl⟩ := h.al rfl
  have z := h.G.size
  have l8 := frP_len x
  have hn := h.n
  obtain ⟨ok2, hcase⟩ := kd.add (l := x) h.sp h.rk h.n hi hK lx
  refine (add_any w.heap.size g q d _ A c x wr h.D h.J hqg hq (kd.ok h.sp h.rk h.n (by omega) hK) ok2 ((hx.only h.G (Nat.le_refl _) (fun _ h => by cases h)).more z) bx (by omega) (by omega) (hT.grow h.G) z (by rw [IntKind.wrap_i64]; omega)).mono ?_
  rintro e w' ⟨rfl, D', J', b', k'⟩
  have G' : w.grownBy w' none := below_only ((only_below h.G).trans b')
  refine ⟨hv.keep2 h.D h.J k', ?_⟩
  rcases hcase with ⟨e0, kd'⟩ | ⟨e0, hd, pc⟩
  · left
    rw [e0, if_pos rfl] at J'
    refine ⟨by rw [e0], _, ⟨D', by simpa using J', G', h.sp, h.rk.add bx lx, by simp; omega, kd'.dd, fun _ => ⟨kd', rfl, rfl⟩, (kd'.pc (by omega)).kz h.sp (h.rk.add bx lx) (by simp; omega) (.inl rfl)⟩⟩
  · right
    rw [if_neg e0] at J'
    exact ⟨_, e0, rfl, _, ⟨D', J', G', h.sp, h.rk, by omega, hd, (fun h => by cases h), pc.kz h.sp h.rk (by omega) (.inr ⟨rfl, rfl, rfl, bx, lx⟩)⟩⟩
set_option maxRecDepth 100000 in
theorem ki_swap {w wr : World} {g q i : Nat} {recs : List (List Int)} {S sx more : List Int} {sw : Bool} {d : DS} {K : Int} (h : KI w wr g q i recs S sx more false sw d K) (hi : i < 30) (hK : 1 ≤ K ∧ K ≤ 40) (hqg : q ≠ g) (hq : w.heap.size ≤ q) (A : Option Addr) (c : Nat) (x : List Int) (hx : Has w w.heap.size A (bs x)) (bx : ∀ y ∈ x, 0 ≤ y ∧ y ≤ 255) (lx : x.length ≤ 200) (hT : Tab w) (base : Nat) (v : Value) (hv : KR wr base v recs) :
    Calls Tryd.prog 16 #[.pointer (some ⟨q, 0, none⟩), .slice A x.length c] wr fun e w' => KR w' base v recs ∧
      ((e = .returned (.int .i64 0) ∧ ∃ d', KI w w' g q (i + 1) [] (frP x) x [] false false d' K) ∨
       (∃ k : Int, k ≠ 0 ∧ e = .returned (.int .i64 k) ∧ ∃ d', KI w w' g q (i + 1) recs S sx x true true d' K)) := by
  obtain ⟨kd, rfl, rfl⟩ := h.al rfl
  have z := h.G.size
  have l8 := frP_len x
  have hn := h.n
  have hcase := kd.swap (l := x) hi lx
  refine (jsnap_any w.heap.size g q d _ A c x wr h.D h.J hqg hq (kd.ok h.sp h.rk h.n (by omega) hK) ((hx.only h.G (Nat.le_refl _) (fun _ h => by cases h)).more z) bx (by omega) (by omega) (hT.grow h.G) z).mono ?_
  rintro e w' ⟨rfl, D', J', b', k'⟩
  have G' : w.grownBy w' none := below_only ((only_below h.G).trans b')
  refine ⟨hv.keep2 h.D h.J k', ?_⟩
  have S' : SnapIs (frP x) x := .inr ⟨rfl, bx, lx⟩
  have R' : RecsOk [] := ⟨by simp, by simp⟩
  rcases hcase with ⟨e0, kd'⟩ | ⟨e0, hd, pc⟩
  · left
    rw [e0, if_pos rfl] at J'
    exact ⟨by rw [e0], _, ⟨D', J', G', S', R', by simp, kd'.dd, fun _ => ⟨kd', rfl, rfl⟩, (kd'.pc (by omega)).kz S' R' (by simp) (.inl rfl)⟩⟩
  · right
    rw [if_neg e0] at J'
    refine ⟨_, e0, rfl, _, ⟨D', J', G', h.sp, h.rk, by omega, hd, (fun h => by cases h), ?_⟩⟩
    rcases pc with pc | pc
    · exact pc.kz_swap bx lx
    · exact pc.kz h.sp h.rk (by omega) (.inl rfl)
/-- The journal opened anew, behind the crash. -/
theorem kept_open {w wr : World} {g : Nat} {recs : List (List Int)} {sx more : List Int} {dead sw : Bool} {d : DS} (kz : KZ d recs sx more dead sw) (p : Int) (D : Dk wr w.heap.size g (crashS (stopS d 0) p)) (G : w.grownBy wr none) (hT : Tab w) (base : Nat) (v : Value) (hv : KR wr base v recs) :
    Calls Tryd.prog 12 #[.pointer (some ⟨g, 0, none⟩)] wr fun e w' => ∃ (R : List (List Int)) (s' : List Int) (q : Nat) (sv : Value) (Al : Option Addr) (cl : Nat), e = .returned (.tuple #[.pointer (some ⟨q, 0, none⟩), sv, .slice Al R.length cl, .int .i64 0]) ∧
      (∀ W, w'.grownBy W none → (convert 33 9 sv).run Tryd.prog W = .ok (.string (strOfNums s')) W) ∧ RR w' Al R ∧ KR w' base v recs ∧ w.grownBy w' none ∧
      ((R = recs ∧ s' = sx) ∨ (dead = true ∧ sw = false ∧ s' = sx ∧ R = recs ++ [more]) ∨ (dead = true ∧ sw = true ∧ s' = more ∧ R = [])) := by
  obtain ⟨R, s', a1, a2, a3, a4, a5, a6, a7, a8⟩ := kz.2 p
  have glt := D.lt
  refine (open_all w.heap.size g _ wr D a1 a2 a3 a4 (hT.grow G)).mono ?_
  rintro e w' ⟨ho, D', g'⟩
  rcases ho with ⟨hne, _⟩ | ⟨_, q, sv, lv, rfl, hs, hr, hj, hq⟩
  · exact absurd a5 hne
  · rw [a6] at hs
    rw [a7] at hr hj
    obtain ⟨Al, cl, rfl⟩ := hr.form
    refine ⟨R, s', q, sv, Al, cl, rfl, fun W hW => ?_, hr.rr, hv.disk D g', only_step G g' (fun k hk => by cases hk; exact .inr glt.1), a8⟩
    have hs' : w'.ownsRow wr.heap.size 5 1 sv (bs s').length (bs s') := by rw [bs_len]; exact hs
    exact conv_own (kept_other hs' hW (fun _ h => by cases h))
end Go.Proofs.YtpfahfakinonnaaDoor
