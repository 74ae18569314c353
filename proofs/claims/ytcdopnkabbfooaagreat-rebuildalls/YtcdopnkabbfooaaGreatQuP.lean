/- The walk of queue.deskOf: a desk with rows of its own. -/
import Derived.Test.YtcdopnkabbfooaaGreatQuN
namespace Go.Proofs.YtcdopnkabbfooaaGreat
open Go.RowKit

theorem fold_zip : ∀ (l : List Value) (k : Nat) (Z : Array Value), k + l.length ≤ Z.size → (List.foldl (fun (cs : Array Value) (x : Value × Nat) => cs.setIfInBounds x.snd x.fst) Z (l.zipIdx k)).size = Z.size ∧
    ∀ i, (List.foldl (fun (cs : Array Value) (x : Value × Nat) => cs.setIfInBounds x.snd x.fst) Z (l.zipIdx k))[i]? = if k ≤ i ∧ i < k + l.length then l[i - k]? else Z[i]?
  | [], k, Z, _ => ⟨rfl, fun i => by rw [if_neg (by simp)]; rfl⟩
  | v :: l, k, Z, h => by
    simp only [List.length_cons] at h
    obtain ⟨h1, h2⟩ := fold_zip l (k + 1) (Z.setIfInBounds k v) (by simp; omega)
    simp only [List.zipIdx_cons, List.foldl_cons]
    refine ⟨by simpa using h1, fun i => ?_⟩
    rw [h2]
    by_cases ha : k + 1 ≤ i ∧ i < k + 1 + l.length
    · rw [if_pos ha, if_pos ⟨by omega, by simp; omega⟩, show i - k = (i - (k + 1)) + 1 by omega]
      rfl
    · rw [if_neg ha]
      by_cases hi : i = k
      · subst hi
        rw [if_pos ⟨by omega, by simp⟩]
        simp [show i < Z.size by omega]
      · rw [if_neg (by simp; omega)]
        simp [show ¬ k = i by omega]
theorem fold_whole (l : List Value) (Z : Array Value) (h : l.length = Z.size) : List.foldl (fun (cs : Array Value) (x : Value × Nat) => cs.setIfInBounds x.snd x.fst) Z (l.zipIdx 0) = l.toArray := by
  obtain ⟨h1, h2⟩ := fold_zip l 0 Z (by omega)
  apply Array.ext_getElem?
  intro i
  rw [h2]
  by_cases hi : i < l.length
  · rw [if_pos ⟨by omega, by omega⟩]; simp
  · rw [if_neg (by omega), Array.getElem?_eq_none (by omega), Array.getElem?_eq_none (by simp; omega)]

set_option maxRecDepth 20000 in
theorem run_desk (ep nx gv : Int) (r l : Value) (ws : Nat → Value) (w : World) : (Instr.build 125 #[(0, qVal ep nx gv r l ws)]).run Tryz.prog w = .ok (qVal ep nx gv r l ws) w := by
  have hC := qCells_size ep nx gv r l ws
  have hl : (qList ep nx gv r l ws).length = 41 := by simp [qList, wsList]
  simp [Instr.build, run_underlying Tryz.underlying125, Tryz.zeroValue125, go_sem, hC]
  have e : (qCells ep nx gv r l ws).zipIdx = ((qList ep nx gv r l ws).zipIdx 0).toArray := by simp [qCells]
  have hz : ((qList ep nx gv r l ws).zipIdx 0).toArray.size = 41 := by simp [hl]
  rw [e]
  generalize hA : ((qList ep nx gv r l ws).zipIdx 0).toArray = A at hz
  rw [← hz, ← Array.foldl_toList, ← hA]
  exact fold_whole _ _ (by rw [hl]; rfl)

/-- a desk in memory. -/
def dBlock (w : World) (R : Nat) (ep nx gv : Int) (r l : Value) (ws : Nat → Value) : Prop := w.heap[R]? = some (.cells (qCells ep nx gv r l ws) 125 (0, 0))
section
variable {w w' : World} {R B : Nat} {ep nx gv : Int} {r l : Value} {ws : Nat → Value}
theorem dBlock.lt (h : dBlock w R ep nx gv r l ws) : R < w.heap.size := by
  unfold dBlock at h
  rcases Nat.lt_or_ge R w.heap.size with h' | h'
  · exact h'
  · simp [Array.getElem?_eq_none h'] at h
theorem dBlock.below (h : dBlock w R ep nx gv r l ws) (hb : Below B w w') (hR : R < B) : dBlock w' R ep nx gv r l ws := by
  unfold dBlock at h ⊢; rw [← h]; exact hb.block R hR
theorem dBlock.next (h : dBlock w R ep nx gv r l ws) (hb : Below w.heap.size w w') : dBlock w' R ep nx gv r l ws := h.below hb h.lt
theorem dBlock.new (w : World) (ep nx gv : Int) (r l : Value) (ws : Nat → Value) : dBlock (w.alloc (.cells (qCells ep nx gv r l ws) 125)) w.heap.size ep nx gv r l ws := heap_alloc_new w _
theorem dBlock.free (h : dBlock w R ep nx gv r l ws) (o : Nat) : w.frozen? ⟨R, o, none⟩ = false := by
  unfold dBlock at h; simp [World.frozen?, h]
theorem dBlock.at (h : dBlock w R ep nx gv r l ws) (i : Nat) : w.cell? ⟨R, i, none⟩ = (qCells ep nx gv r l ws)[i]? := by
  unfold dBlock at h; simp [World.cell?, h]
theorem dBlock.heads (h : dBlock w R ep nx gv r l ws) :
    w.cell? ⟨R, 0, none⟩ = some (.int .i64 ep) ∧ w.cell? ⟨R, 1, none⟩ = some (.int .i64 nx) ∧ w.cell? ⟨R, 2, none⟩ = some (.int .i64 gv) ∧ w.cell? ⟨R, 3, none⟩ = some r ∧ w.cell? ⟨R, 4, none⟩ = some l := by
  obtain ⟨h0, h1, h2, h3, h4⟩ := qCells_heads ep nx gv r l ws
  exact ⟨(h.at 0).trans h0, (h.at 1).trans h1, (h.at 2).trans h2, (h.at 3).trans h3, (h.at 4).trans h4⟩
theorem dBlock.turned {R' : Nat} (h : dBlock w R ep nx gv r l ws) (t : Turned R' w w') (hR : R ≠ R') : dBlock w' R ep nx gv r l ws := by
  unfold dBlock at h ⊢; rw [t.block R hR]; exact h
theorem dBlock.epoch (h : dBlock w R ep nx gv r l ws) (x : Int) : dBlock (w.setCell ⟨R, 0, none⟩ (.int .i64 x)) R x nx gv r l ws := by
  have := heap_set (o := 0) (v := .int .i64 x) h
  unfold dBlock; rw [this]; rfl
theorem dBlock.nexts (h : dBlock w R ep nx gv r l ws) (x : Int) : dBlock (w.setCell ⟨R, 1, none⟩ (.int .i64 x)) R ep x gv r l ws := by
  have := heap_set (o := 1) (v := .int .i64 x) h
  unfold dBlock; rw [this]; rfl
theorem dBlock.given (h : dBlock w R ep nx gv r l ws) (x : Int) : dBlock (w.setCell ⟨R, 2, none⟩ (.int .i64 x)) R ep nx x r l ws := by
  have := heap_set (o := 2) (v := .int .i64 x) h
  unfold dBlock; rw [this]; rfl
theorem dBlock.ready (h : dBlock w R ep nx gv r l ws) (r' : Value) : dBlock (w.setCell ⟨R, 3, none⟩ r') R ep nx gv r' l ws := by
  have := heap_set (o := 3) (v := r') h
  unfold dBlock; rw [this]; rfl
theorem dBlock.leases (h : dBlock w R ep nx gv r l ws) (l' : Value) : dBlock (w.setCell ⟨R, 4, none⟩ l') R ep nx gv r l' ws := by
  have := heap_set (o := 4) (v := l') h
  unfold dBlock; rw [this]; rfl
/-- the whole queue of a desk, read. -/
theorem d_loads {ops : Array Oper} {rest : List Oper} {o : Oper} {a : Act} {Q : Exit → Act → World → Prop} (x : Operand) (ho : o.op = .load 92 x) (hw : Region.wanted o (yielded ops a.tmps) = true) (hx : a.eval x = .pointer (some ⟨R, 0, none⟩)) (qb : dBlock w R ep nx gv r l ws)
    (h : wpList Tryz.prog ops Q rest (a.put o.dst (qVal ep nx gv r l ws)) w) : wpList Tryz.prog ops Q (o :: rest) a w :=
  wpList_step fun K hK => by
    rw [if_pos hw]
    exact wp_load_row 92 x ho R hx 125 _ (0, 0) _ qb Tryz.underlying92 rfl (by rw [qCells_size]; exact Tryz.infoQ) (hK _ _ h)
theorem yields_d {ops : Array Oper} {S : World → Prop} {o : Oper} {a : Act} (x : Operand) (ho : o.op = .load 92 x) (hw : Region.wanted o (yielded ops a.tmps) = true) (hx : a.eval x = .pointer (some ⟨R, 0, none⟩)) (hS : ∀ w, S w → dBlock w R ep nx gv r l ws) :
    YieldsIf Tryz.prog ops S o (qVal ep nx gv r l ws) a :=
  .inl ⟨hw, fun w hs => by
    unfold execOp
    simp only [ho, hx, Instr.loadAt, Instr.sureAddr, Sem.run_bind, Sem.run_pure, Result.andThen_ok, run_loadVar_row w R 125 92 _ (0, 0) _ (hS w hs) Tryz.underlying92 rfl (by rw [qCells_size]; exact Tryz.infoQ)]⟩
theorem d_build {ops : Array Oper} {rest : List Oper} {o : Oper} {a : Act} {Q : Exit → Act → World → Prop} (x : Operand) (ho : o.op = .build 125 #[(0, x)]) (hw : Region.wanted o (yielded ops a.tmps) = true) (hx : a.eval x = qVal ep nx gv r l ws)
    (h : wpList Tryz.prog ops Q rest (a.put o.dst (qVal ep nx gv r l ws)) w) : wpList Tryz.prog ops Q (o :: rest) a w :=
  wpList_step fun K hK => by
    rw [if_pos hw]
    have hrun := run_desk ep nx gv r l ws w
    have := hK _ _ h
    unfold Oper.wp
    simp only [execOp, ho]
    simp only [List.map_toArray, List.map_cons, List.map_nil, hx]
    simp [hrun, Result.andThen]
    exact this
theorem d_box {ops : Array Oper} {rest : List Oper} {o : Oper} {a : Act} {Q : Exit → Act → World → Prop} (x : Operand) (ho : o.op = .box 125 x) (hw : Region.wanted o (yielded ops a.tmps) = true) (hx : a.eval x = qVal ep nx gv r l ws)
    (h : ∀ w', dBlock w' w.heap.size ep nx gv r l ws → Below w.heap.size w w' → wpList Tryz.prog ops Q rest (a.put o.dst (.pointer (some ⟨w.heap.size, 0, none⟩))) w') : wpList Tryz.prog ops Q (o :: rest) a w :=
  wpList_step fun K hK => by
    rw [if_pos hw]
    have := hK _ _ (h _ (dBlock.new w ep nx gv r l ws) (below1 _ _))
    unfold Oper.wp
    simp only [execOp, ho, hx]
    simpa [go_sem] using this
end
/-- an append of a row of structs (nil or not) to a row of the call's own. -/
theorem wpList_append_rows {P : Program} {w : World} {ops : Array Oper} {rest : List Oper} {o : Oper} {a : Act} {Q : Exit → Act → World → Prop} (hgd : o.guard = none) (s x : Operand) (t : TypeId)
    (ho : o.op = .call { callee := .builtin .append, args := #[s, x], argTypes := #[t, t] })
    (base : Nat) (e : TypeId) (i : TypeInfo) (z : Value) (size bytes : Nat) (ht : P.underlying t = some (.slice e)) (hi : P.info? e = some i) (hz : i.zero = some z)
    (hsize : i.size = size) (hby : i.bytes = bytes) (hzs : z.cells.size = size) (hsz : 0 < size)
    (v : Value) (n : Nat) (xs : List Int) (hs : a.eval s = v) (hown : w.ownsRow base e size v n (xs.map (Value.int .i64)))
    (ad : Option Addr) (m c : Nat) (l : List Int) (hx : a.eval x = .slice ad m c) (hr : RowK .i64 w ad (size * m) l) (hnil : ad = none → c = 0)
    (h63 : n + m ≤ maxLen) (hbytes : (n + m) * bytes ≤ 140737488355328) (hbase : base ≤ w.heap.size)
    (h : ∀ v' w', w'.ownsRow base e size v' (n + m) ((xs ++ l).map (Value.int .i64)) → w.grownBy w' v.ownBlock → wpList P ops Q rest (a.put o.dst v') w') : wpList P ops Q (o :: rest) a w := by
  cases ad with
  | none =>
    have hm : m = 0 := by
      by_cases h0 : 0 < size * m
      · obtain ⟨_, _, h', _⟩ := hr.cell 0 h0; cases h'
      · rcases Nat.eq_zero_or_pos m with hm | hm
        · exact hm
        · exact absurd (Nat.mul_pos hsz hm) h0
    subst hm
    have hl : l = [] := List.length_eq_zero_iff.1 (by simpa using hr.len_eq)
    subst hl
    refine wpList_append_own_none hgd s x t ho base e i size ht hi v n _ hs hown (by rw [hx, hnil rfl]) ?_
    exact h v w (by simpa using hown) (World.grownBy.refl _ _)
  | some x0 =>
    refine wpList_append_own w hgd s x t ho base e i z size bytes ht hi hz hsize hby hzs hsz v n _ hs hown x0 m c (l.map (Value.int .i64)) hx (by rw [List.length_map, hr.len_eq, Nat.mul_comm]) ?_ (ints_oneCell _ _) h63 hbytes hbase ?_
    · intro j u hj
      have hjm : j < l.length := by
        rcases Nat.lt_or_ge j l.length with h' | h'
        · exact h'
        · simp [List.getElem?_eq_none h'] at hj
      obtain ⟨b, off, hb, _, hc⟩ := hr.cell j (by rw [← hr.len_eq]; exact hjm)
      simp only [Option.some.injEq] at hb
      subst hb
      rw [Addr.add_mid, hc]
      simp [List.getElem?_eq_getElem hjm] at hj
      simp [List.getElem?_eq_getElem hjm, hj]
    · intro v' w' h1 h2 _
      exact h v' w' (by rw [List.map_append]; exact h1) h2

set_option maxRecDepth 20000 in
set_option maxHeartbeats 4000000 in
theorem deskOf_any (ep nx gv : Int) (ra la : Option Addr) (rn rc ln lc : Nat) (R L : List Int) (ws : Nat → Value) (w : World) (hR : RowK .i64 w ra (2 * rn) R) (hL : RowK .i64 w la (4 * ln) L) (nR : ra = none → rc = 0) (nL : la = none → lc = 0) (hs : rn + ln ≤ 500) :
    Calls Tryz.prog 86 #[qVal ep nx gv (.slice ra rn rc) (.slice la ln lc) ws] w fun e w' => ∃ B a1 c1 a2 c2, e = .returned (.pointer (some ⟨B, 0, none⟩)) ∧ w.heap.size ≤ B ∧ dBlock w' B ep nx gv (.slice a1 rn c1) (.slice a2 ln c2) ws ∧
      w'.ownsRow w.heap.size 131 2 (.slice a1 rn c1) rn (R.map (Value.int .i64)) ∧ w'.ownsRow w.heap.size 133 4 (.slice a2 ln c2) ln (L.map (Value.int .i64)) ∧ Below w.heap.size w w' := by
  obtain ⟨i1, hi1, hz10, hz11, hz12⟩ := info_of Tryz.infoMsg
  obtain ⟨i2, hi2, hz20, hz21, hz22⟩ := info_of Tryz.infoLease
  go_enter Tryz.func86, Tryz.ntmps86
  go_wp2_with (first
    | (refine q_box 1 _ rfl rfl rfl rfl ?_; intro W1 q1 b1; obtain ⟨c0, c1, c2, c3, c4⟩ := q1.heads)
    | (at_builtin; refine wpList_append_rows rfl (.const (.slice none 0 0)) (.tmp 4) 85 rfl (w.heap.size + 1) 131 i1 _ 2 16 Tryz.underlying85 hi1 hz10 hz11 hz12 rfl (by decide) (.slice none 0 0) 0 [] rfl (World.ownsRow_nil _ _ _ _) ra rn rc R rfl (hR.below b1) nR (by unfold maxLen; omega) (by omega) (by have := q1.lt; omega) ?_; intro v1 W2 o1 g1
       simp only [Nat.zero_add, List.nil_append] at o1
       obtain ⟨a1, k1, rfl⟩ := own_form o1
       have b2 : Below (w.heap.size + 1) W1 W2 := (Below.refl _ _).grown g1 (by have := q1.lt; omega) (by simp [Value.ownBlock])
       have q2 := q1.below b2 (by omega)
       have l2 : w.heap.size + 1 ≤ W2.heap.size := by have := b2.size; have := q1.lt; omega
       clear c0 c1 c2 c3 c4
       obtain ⟨c0, c1, c2, c3, c4⟩ := q2.heads
       have f2 := q2.free
       have T2 := Turned.set w.heap.size 3 W2 (.slice a1 rn k1)
       have q3 := q2.ready (.slice a1 rn k1)
       have O1 := veil (T2.own o1 (by omega))
       have HB3 := veil (T2.under (b1.trans (b2.mono (by omega))) (Nat.le_refl _))
       have HZ3 := veil (show w.heap.size + 1 ≤ (W2.setCell ⟨w.heap.size, 3, none⟩ (.slice a1 rn k1)).heap.size by rw [T2.size]; exact l2)
       clear o1 g1 T2 b2 l2 q2)
    | (at_builtin; refine wpList_append_rows rfl (.const (.slice none 0 0)) (.tmp 8) 86 rfl (w.heap.size + 1) 133 i2 _ 4 32 Tryz.underlying86 hi2 hz20 hz21 hz22 rfl (by decide) (.slice none 0 0) 0 [] rfl (World.ownsRow_nil _ _ _ _) la ln lc L rfl (hL.below (unveil HB3)) nL (by unfold maxLen; omega) (by omega) (unveil HZ3) ?_; intro v2 W4 o2 g2
       simp only [Nat.zero_add, List.nil_append] at o2
       obtain ⟨a2, k2, rfl⟩ := own_form o2
       have b4 := (Below.refl (w.heap.size + 1) (W2.setCell ⟨w.heap.size, 3, none⟩ (.slice a1 rn k1))).grown g2 (unveil HZ3) (by simp [Value.ownBlock])
       have q4 := q3.below b4 (by omega)
       clear c0 c1 c2 c3 c4
       obtain ⟨c0, c1, c2, c3, c4⟩ := q4.heads
       have f4 := q4.free
       have T4 := Turned.set w.heap.size 4 W4 (.slice a2 ln k2)
       have q5 := q4.leases (.slice a2 ln k2)
       have O1' := veil (T4.own (own_grown (unveil O1) g2 (by simp [Value.ownBlock])) (by omega))
       have O2 := veil (T4.own o2 (by omega))
       have HB5 := veil (T4.under ((unveil HB3).trans (b4.mono (by omega))) (Nat.le_refl _))
       clear o2 g2 T4 b4 q4)
    | (refine q_loads _ rfl rfl rfl q5 ?_)
    | (refine d_build _ rfl rfl rfl ?_)
    | (refine d_box _ rfl rfl rfl ?_; intro W6 d6 b6))
  have l5 := q5.lt
  have e5 : (W4.setCell ⟨w.heap.size, 4, none⟩ (.slice a2 ln k2)).heap.size = W4.heap.size := (Turned.set _ _ _ _).size
  have O6 := own_lower (own_still (unveil O1') (fun g _ hg => b6.block g hg)) (Nat.le_succ w.heap.size)
  have O7 := own_lower (own_still (unveil O2) (fun g _ hg => b6.block g hg)) (Nat.le_succ w.heap.size)
  have B7 := Below.next (unveil HB5) b6
  rw [e5] at l5 d6
  go_ret
  exact ⟨_, _, _, _, _, rfl, by omega, d6, O6, O7, B7⟩
end Go.Proofs.YtcdopnkabbfooaaGreat
