/- The walk of the document's answer's QueueCopy. -/
import Derived.Test.YtcdopnkabbfooaaGreatQuF
import Derived.Deep.RegionLaw
namespace Go.Proofs.YtcdopnkabbfooaaGreat
open Go.RowKit

theorem Tryz.infoMsg : (Tryz.prog.info? 131).map (fun i => (i.zero, i.size, i.bytes)) = some (some (.agg #[.int .i64 0, .int .i64 0]), 2, 16) := by kernel_rfl
theorem Tryz.infoLease : (Tryz.prog.info? 133).map (fun i => (i.zero, i.size, i.bytes)) = some (some (.agg #[.int .i64 0, .int .i64 0, .int .i64 0, .int .i64 0]), 4, 32) := by kernel_rfl
theorem Tryz.infoQ : (Tryz.prog.info? 92).map (·.size) = some 41 := by kernel_rfl
theorem wsOne {ws : Nat → Value} {wt : Nat → Int} {wz : Nat → Nat → Bool} (h : Wins ws wt wz) : ∀ v ∈ wsList ws, v.oneCell' = true := by
  intro v hv
  simp only [wsList, List.mem_map, List.mem_range] at hv
  obtain ⟨i, hi, rfl⟩ := hv
  obtain ⟨h0, h1⟩ := h (i / 9) (by omega)
  rcases Nat.eq_zero_or_pos (i % 9) with he | he
  · rw [show i = 9 * (i / 9) by omega, h0]; rfl
  · rw [show i = 9 * (i / 9) + 1 + (i % 9 - 1) by omega, h1 _ (by omega)]; rfl
theorem qCells_one {ep nx gv : Int} {ra la : Option Addr} {rn rc ln lc : Nat} {ws : Nat → Value} {wt : Nat → Int} {wz : Nat → Nat → Bool} (h : Wins ws wt wz) : (qCells ep nx gv (.slice ra rn rc) (.slice la ln lc) ws).all (·.oneCell') = true := by
  refine all_oneCell_toArray ?_
  intro v hv
  simp only [qList, List.mem_cons] at hv
  rcases hv with rfl | rfl | rfl | rfl | rfl | hv
  · rfl
  · rfl
  · rfl
  · rfl
  · rfl
  · exact wsOne h v hv

section
variable {w w' : World} {R : Nat} {ep nx gv : Int} {r l : Value} {ws : Nat → Value}
theorem qBlock.there (h : qBlock w R ep nx gv r l ws) : w.there R 0 41 := fun j hj => by
  refine ⟨?_, h.free _⟩
  rw [Nat.zero_add, h.at, Array.getElem?_eq_getElem (by rw [qCells_size]; exact hj)]
  rfl
/-- a block's cells, all stored anew. -/
theorem heap_setCells_all : ∀ (vs : List Value) (o : Nat) (w : World) (cs : Array Value) (t : TypeId), w.heap[R]? = some (.cells cs t (0, 0)) → o + vs.length ≤ cs.size →
    ∃ cs', (w.setCells R o vs).heap[R]? = some (.cells cs' t (0, 0)) ∧ cs'.size = cs.size ∧ ∀ i, cs'[i]? = if o ≤ i ∧ i < o + vs.length then vs[i - o]? else cs[i]?
  | [], o, w, cs, t, h, _ => ⟨cs, h, rfl, fun i => by rw [if_neg (by simp)]⟩
  | v :: vs, o, w, cs, t, h, hl => by
    have h1 := heap_set (o := o) (v := v) h
    simp only [List.length_cons] at hl
    obtain ⟨cs', h2, h3, h4⟩ := heap_setCells_all vs (o + 1) _ _ t h1 (by simp; omega)
    refine ⟨cs', h2, by simpa using h3, fun i => ?_⟩
    rw [h4]
    by_cases ha : o + 1 ≤ i ∧ i < o + 1 + vs.length
    · rw [if_pos ha, if_pos ⟨by omega, by simp; omega⟩, show i - o = (i - (o + 1)) + 1 by omega]
      rfl
    · rw [if_neg ha]
      by_cases hi : i = o
      · subst hi
        rw [if_pos ⟨by omega, by simp⟩]
        simp [show i < cs.size by omega]
      · rw [if_neg (by simp; omega)]
        simp [show ¬ o = i by omega]
theorem qBlock.stored (h : qBlock w R ep nx gv r l ws) (ep' nx' gv' : Int) (r' l' : Value) (ws' : Nat → Value) : qBlock (w.setCells R 0 (qCells ep' nx' gv' r' l' ws').toList) R ep' nx' gv' r' l' ws' := by
  obtain ⟨cs', h1, h2, h3⟩ := heap_setCells_all (R := R) (qCells ep' nx' gv' r' l' ws').toList 0 w _ _ h (by simp [qCells_size])
  unfold qBlock
  rw [h1]
  have : cs' = qCells ep' nx' gv' r' l' ws' := by
    apply Array.ext_getElem?
    intro i
    rw [h3]
    by_cases hi : i < 41
    · rw [if_pos ⟨by omega, by simp [qCells_size]; omega⟩]
      simp
    · rw [if_neg (by simp [qCells_size]; omega), Array.getElem?_eq_none (by rw [qCells_size]; omega), Array.getElem?_eq_none (by rw [qCells_size]; omega)]
  rw [this]
theorem below_setCells {B : Nat} {w0 : World} (R : Nat) (hR : B ≤ R) : ∀ (vs : List Value) (o : Nat) (w : World), Below B w0 w → Below B w0 (w.setCells R o vs)
  | [], _, _, h => h
  | _ :: vs, o, _, h => below_setCells R hR vs (o + 1) _ (h.setCell hR _)
/-- a store of one head cell. -/
theorem qBlock.ready (h : qBlock w R ep nx gv r l ws) (r' : Value) : qBlock (w.setCell ⟨R, 3, none⟩ r') R ep nx gv r' l ws := by
  have := heap_set (o := 3) (v := r') h
  unfold qBlock
  rw [this]
  rfl
theorem qBlock.leases (h : qBlock w R ep nx gv r l ws) (l' : Value) : qBlock (w.setCell ⟨R, 4, none⟩ l') R ep nx gv r l' ws := by
  have := heap_set (o := 4) (v := l') h
  unfold qBlock
  rw [this]
  rfl
theorem qBlock.other {R' o : Nat} {v : Value} (h : qBlock w R ep nx gv r l ws) (hR : R ≠ R') : qBlock (w.setCell ⟨R', o, none⟩ v) R ep nx gv r l ws := by
  unfold qBlock at h ⊢
  rw [Below.heap_setCell _ _ _ R hR]
  exact h
theorem qBlock.others {R' : Nat} (hR : R ≠ R') : ∀ (vs : List Value) (o : Nat) (w : World), qBlock w R ep nx gv r l ws → qBlock (w.setCells R' o vs) R ep nx gv r l ws
  | [], _, _, h => h
  | _ :: vs, o, _, h => qBlock.others hR vs (o + 1) _ (h.other hR)
/-- a world in which the block R alone may be another. -/
structure Turned (R : Nat) (w w' : World) : Prop where
  os : w'.os = w.os
  tape : w'.tape = w.tape
  output : w'.output = w.output
  size : w'.heap.size = w.heap.size
  block : ∀ k, k ≠ R → w'.heap[k]? = w.heap[k]?
theorem Turned.set (R o : Nat) (w : World) (v : Value) : Turned R w (w.setCell ⟨R, o, none⟩ v) := by
  refine ⟨?_, ?_, ?_, ?_, fun k hk => Below.heap_setCell w _ v k hk⟩ <;> (unfold World.setCell; split <;> simp)
theorem Turned.refl (R : Nat) (w : World) : Turned R w w := ⟨rfl, rfl, rfl, rfl, fun _ _ => rfl⟩
theorem Turned.trans {a b c : World} (h : Turned R a b) (k : Turned R b c) : Turned R a c :=
  ⟨k.os.trans h.os, k.tape.trans h.tape, k.output.trans h.output, k.size.trans h.size, fun x hx => (k.block x hx).trans (h.block x hx)⟩
theorem Turned.sets (R : Nat) : ∀ (vs : List Value) (o : Nat) (w : World), Turned R w (w.setCells R o vs)
  | [], _, w => Turned.refl R w
  | _ :: vs, o, w => (Turned.set R o w _).trans (Turned.sets R vs (o + 1) _)
theorem Turned.under {B : Nat} {w0 : World} (h : Turned R w w') (hb : Below B w0 w) (hR : B ≤ R) : Below B w0 w' :=
  ⟨h.os.trans hb.os, h.tape.trans hb.tape, h.output.trans hb.output, by rw [h.size]; exact hb.size, fun k hk => (h.block k (by omega)).trans (hb.block k hk)⟩
theorem Turned.queue {R' : Nat} (h : Turned R' w w') (q : qBlock w R ep nx gv r l ws) (hR : R ≠ R') : qBlock w' R ep nx gv r l ws := by
  unfold qBlock at q ⊢; rw [h.block R hR]; exact q
theorem Turned.own {base e size n : Nat} {v : Value} {xs : List Value} (h : Turned R w w') (o : w.ownsRow base e size v n xs) (hb : R < base) : w'.ownsRow base e size v n xs := by
  refine ⟨o.1, ?_⟩
  rcases o.2 with h2 | ⟨g, cap, cur, h1, h2, h3, h4⟩
  · exact .inl h2
  · exact .inr ⟨g, cap, cur, h1, h2, by rw [h.block g (by omega)]; exact h3, h4⟩
theorem Turned.row {k : IntKind} {a : Option Addr} {len : Nat} {l : List Int} (h : Turned R w w') (hr : RowK k w a len l) (hne : ∀ x, a = some x → 0 < len → x.block ≠ R) : RowK k w' a len l :=
  ⟨hr.len_eq, hr.wf, fun i hi => by
    obtain ⟨b, off, ha, hlt, hc⟩ := hr.cell i hi
    exact ⟨b, off, ha, by rw [h.size]; exact hlt, (World.cell?_of_block (w := w) (h.block b (hne _ ha (by omega)))).trans hc⟩⟩
/-- a whole queue, stored. -/
theorem q_store {ops : Array Oper} {rest : List Oper} {o : Oper} {a : Act} {Q : Exit → Act → World → Prop} {ra la : Option Addr} {rn rc ln lc : Nat} {ws' : Nat → Value} {ep' nx' gv' : Int} {wt : Nat → Int} {wz : Nat → Nat → Bool} (x y : Operand) (ho : o.op = .store 92 x y) (hw : Region.wanted o (yielded ops a.tmps) = true) (hx : a.eval x = .pointer (some ⟨R, 0, none⟩)) (hy : a.eval y = qVal ep' nx' gv' (.slice ra rn rc) (.slice la ln lc) ws')
    (qb : qBlock w R ep nx gv r l ws) (hW : Wins ws' wt wz)
    (h : ∀ w', qBlock w' R ep' nx' gv' (.slice ra rn rc) (.slice la ln lc) ws' → Turned R w w' → wpList Tryz.prog ops Q rest (a.put o.dst undef) w') : wpList Tryz.prog ops Q (o :: rest) a w :=
  wpList_step fun K hK => by
    rw [if_pos hw]
    exact wp_store_mid 92 x y ho R 0 _ hx hy (by rw [qCells_size]; exact qb.there) (by rw [qCells_size]; exact Tryz.infoQ) (qCells_one hW) (hK _ _ (h _ (qb.stored _ _ _ _ _ _) (Turned.sets R _ 0 w)))
/-- a row of structs, as its numbers. -/
theorem RowK.ofMany {base e size n : Nat} {v : Value} {xs : List Int} (h : w.ownsRow base e size v n (xs.map (Value.int .i64))) (hw : ∀ u ∈ xs, (Lit.int .i64 u).wf = true) :
    ∃ a cap, v = .slice a n cap ∧ RowK .i64 w a (size * n) xs ∧ n ≤ cap ∧ cap ≤ maxLen ∧ (a = none → cap = 0) ∧ (∀ x, a = some x → base ≤ x.block) := by
  have hl : xs.length = size * n := by have := h.1; rw [Nat.mul_comm]; simpa using this
  rcases h.2 with ⟨rfl, rfl⟩ | ⟨g, cap, cur, rfl, hb, hg, hc, hm, hs, ht⟩
  · have : xs = [] := List.length_eq_zero_iff.1 (by simpa using hl)
    subst this
    exact ⟨none, 0, rfl, RowK.nil _ _ _, Nat.le_refl _, by unfold maxLen; omega, fun _ => rfl, fun x hx => by cases hx⟩
  · refine ⟨some ⟨g, 0, none⟩, cap, rfl, ⟨hl, hw, fun i hi => ?_⟩, hc, hm, by simp, fun x hx => by simp at hx; subst hx; exact hb⟩
    have hci := h.cellAt i (by rw [Nat.mul_comm]; exact hi)
    have hbl := (h.lt g rfl).2
    refine ⟨g, 0, rfl, hbl, ?_⟩
    rw [Nat.zero_add, hci, List.getElem?_map, List.getElem?_eq_getElem (by omega)]
    simp [List.getElem?_eq_getElem (show i < xs.length by omega)]
theorem own_apart {base e e' size size' n n' : Nat} {v v' : Value} {xs xs' : List Value} (h : w.ownsRow base e size v n xs) (h' : w.ownsRow base e' size' v' n' xs') (he : e ≠ e') : ∀ g, v.ownBlock = some g → v'.ownBlock ≠ some g := by
  intro g hg hg'
  rcases h.2 with ⟨rfl, _⟩ | ⟨g1, cap, cur, rfl, _, h3, _⟩
  · cases hg
  · rcases h'.2 with ⟨rfl, _⟩ | ⟨g2, cap', cur', rfl, _, h4, _⟩
    · cases hg'
    · simp only [Value.ownBlock, Option.some.injEq] at hg hg'
      subst hg
      rw [hg'] at h4
      rw [h3] at h4
      simp only [Option.some.injEq, Obj.cells.injEq] at h4
      exact he h4.2.1
theorem own_still {base e size n : Nat} {v : Value} {xs : List Value} (h : w.ownsRow base e size v n xs) (hb : ∀ g, v.ownBlock = some g → g < w.heap.size → w'.heap[g]? = w.heap[g]?) : w'.ownsRow base e size v n xs := by
  refine ⟨h.1, ?_⟩
  rcases h.2 with h2 | ⟨g, cap, cur, rfl, h2, h3, h4⟩
  · exact .inl h2
  · exact .inr ⟨g, cap, cur, rfl, h2, by rw [hb g rfl (h.lt g rfl).2]; exact h3, h4⟩
theorem own_form {base e size n : Nat} {v : Value} {xs : List Value} (h : w.ownsRow base e size v n xs) : ∃ a cap, v = .slice a n cap := by
  rcases h.2 with ⟨rfl, rfl⟩ | ⟨g, cap, cur, rfl, _⟩
  · exact ⟨_, _, rfl⟩
  · exact ⟨_, _, rfl⟩
theorem own_lower {base base' e size n : Nat} {v : Value} {xs : List Value} (h : w.ownsRow base e size v n xs) (hb : base' ≤ base) : w.ownsRow base' e size v n xs := by
  refine ⟨h.1, ?_⟩
  rcases h.2 with h2 | ⟨g, cap, cur, h1, h2, h3⟩
  · exact .inl h2
  · exact .inr ⟨g, cap, cur, h1, by omega, h3⟩
theorem own_grown {base e size n : Nat} {v : Value} {xs : List Value} {row : Option Nat} (h : w.ownsRow base e size v n xs) (hg : w.grownBy w' row) (hne : ∀ g, v.ownBlock = some g → row ≠ some g) : w'.ownsRow base e size v n xs := by
  refine ⟨h.1, ?_⟩
  rcases h.2 with h2 | ⟨g, cap, cur, rfl, h2, h3, h4⟩
  · exact .inl h2
  · have hl : g < w.heap.size := (h.lt g rfl).2
    exact .inr ⟨g, cap, cur, rfl, h2, by rw [hg.block g hl (fun e => hne g rfl e.symm)]; exact h3, h4⟩
/-- an append of some structs to a row of the call's own, as one step of a region that draws. -/
theorem step_append_many {P : Program} {ops : Array Oper} {o : Oper} {a : Act} {w : World} {K : Act → World → Prop} {Q : Exit → Act → World → Prop} {E : Prop} (hgd : o.guard = none) (s x : Operand) (t : TypeId)
    (ho : o.op = .call { callee := .builtin .append, args := #[s, x], argTypes := #[t, t] })
    (base : Nat) (e : TypeId) (i : TypeInfo) (z : Value) (size bytes : Nat) (ht : P.underlying t = some (.slice e)) (hi : P.info? e = some i) (hz : i.zero = some z)
    (hsize : i.size = size) (hby : i.bytes = bytes) (hzs : z.cells.size = size) (hsz : 0 < size)
    (v : Value) (n : Nat) (xs : List Int) (hs : a.eval s = v) (hown : w.ownsRow base e size v n (xs.map (Value.int .i64)))
    (ad : Addr) (m c : Nat) (l : List Int) (hx : a.eval x = .slice (some ad) m c) (hl : l.length = m * size) (hnews : ∀ j u, (l.map (Value.int .i64))[j]? = some u → w.cell? (ad.add j) = some u)
    (h63 : n + m ≤ maxLen) (hbytes : (n + m) * bytes ≤ 140737488355328) (hbase : base ≤ w.heap.size)
    (h : ∀ v' w', w'.ownsRow base e size v' (n + m) ((xs ++ l).map (Value.int .i64)) → w.grownBy w' v.ownBlock → K (a.put o.dst v') w') :
    if Region.wanted o (yielded ops a.tmps) = true then Oper.wp P o a w K Q else E := by
  have hw : Region.wanted o (yielded ops a.tmps) = true := by simp [Region.wanted, hgd]
  rw [if_pos hw]
  exact wp_append_own w s x t ho base e i z size bytes ht hi hz hsize hby hzs hsz v n _ hs hown ad m c (l.map (Value.int .i64)) hx (by simpa using hl) hnews (ints_oneCell _ _) h63 hbytes hbase (fun v' w' h1 h2 _ => h v' w' (by rw [List.map_append]; exact h1) h2)
end

/-- the cells of a new block, as a literal slice has them. -/
theorem news2 (w : World) (x0 x1 : Int) (t : TypeId) : ∀ j u, ([x0, x1].map (Value.int .i64))[j]? = some u → (w.alloc (.cells #[.int .i64 x0, .int .i64 x1] t)).drew.cell? ((⟨w.heap.size, 0, none⟩ : Addr).add j) = some u := by
  intro j u hj
  rw [Addr.add_mid]
  match j, hj with
  | 0, hj => simp at hj; subst hj; simp
  | 1, hj => simp at hj; subst hj; simp
  | n + 2, hj => simp at hj
theorem news4 (w : World) (x0 x1 x2 x3 : Int) (t : TypeId) : ∀ j u, ([x0, x1, x2, x3].map (Value.int .i64))[j]? = some u → (w.alloc (.cells #[.int .i64 x0, .int .i64 x1, .int .i64 x2, .int .i64 x3] t)).drew.cell? ((⟨w.heap.size, 0, none⟩ : Addr).add j) = some u := by
  intro j u hj
  rw [Addr.add_mid]
  match j, hj with
  | 0, hj => simp at hj; subst hj; simp
  | 1, hj => simp at hj; subst hj; simp
  | 2, hj => simp at hj; subst hj; simp
  | 3, hj => simp at hj; subst hj; simp
  | n + 4, hj => simp at hj

/-- the zero queue. -/
abbrev zqCells : Array Value := #[.int .i64 0, .int .i64 0, .int .i64 0, .slice none 0 0, .slice none 0 0, .int .i64 0, .bool false, .bool false, .bool false, .bool false, .bool false, .bool false, .bool false, .bool false, .int .i64 0, .bool false, .bool false, .bool false, .bool false, .bool false, .bool false, .bool false, .bool false, .int .i64 0, .bool false, .bool false, .bool false, .bool false, .bool false, .bool false, .bool false, .bool false, .int .i64 0, .bool false, .bool false, .bool false, .bool false, .bool false, .bool false, .bool false, .bool false]
def zeroW (i : Nat) : Value := if i % 9 = 0 then .int .i64 0 else .bool false
theorem zq_eq : zqCells = qCells 0 0 0 (.slice none 0 0) (.slice none 0 0) zeroW := rfl
theorem zeroWins : Wins zeroW (fun _ => 0) (fun _ _ => false) := fun p _ => ⟨by unfold zeroW; rw [if_pos (by omega)], fun j hj => by unfold zeroW; rw [if_neg (by omega)]⟩
theorem zqBlock (w : World) : qBlock (w.alloc (.cells zqCells 92)) w.heap.size 0 0 0 (.slice none 0 0) (.slice none 0 0) zeroW := by
  rw [zq_eq]; exact qBlock.new w _ _ _ _ _ _

theorem zq_made {w W : World} (h : W = w.alloc (.cells zqCells 92)) : qBlock W w.heap.size 0 0 0 (.slice none 0 0) (.slice none 0 0) zeroW ∧ Below w.heap.size w W := by
  subst h; exact ⟨zqBlock w, below1 _ _⟩
theorem q_alloc {ops : Array Oper} {rest : List Oper} {o : Oper} {a : Act} {Q : Exit → Act → World → Prop} {w : World} (d : Nat) (ho : o.op = .alloc 92) (hd : o.dst = some d) (hw : Region.wanted o (yielded ops a.tmps) = true)
    (h : ∀ w', qBlock w' w.heap.size 0 0 0 (.slice none 0 0) (.slice none 0 0) zeroW → Below w.heap.size w w' → wpList Tryz.prog ops Q rest (a.put (some d) (.pointer (some ⟨w.heap.size, 0, none⟩))) w') : wpList Tryz.prog ops Q (o :: rest) a w :=
  wpList_step fun K hK => by
    rw [if_pos hw]
    obtain ⟨z1, z2⟩ := zq_made (w := w) rfl
    have := hK _ _ (h _ z1 z2)
    rw [← hd] at this
    unfold Oper.wp
    simp only [execOp, ho]
    simpa [go_sem] using this
theorem q_box {ops : Array Oper} {rest : List Oper} {o : Oper} {a : Act} {Q : Exit → Act → World → Prop} {w : World} {ep nx gv : Int} {r l : Value} {ws : Nat → Value} (d : Nat) (x : Operand) (ho : o.op = .box 92 x) (hd : o.dst = some d) (hw : Region.wanted o (yielded ops a.tmps) = true) (hx : a.eval x = qVal ep nx gv r l ws)
    (h : ∀ w', qBlock w' w.heap.size ep nx gv r l ws → Below w.heap.size w w' → wpList Tryz.prog ops Q rest (a.put (some d) (.pointer (some ⟨w.heap.size, 0, none⟩))) w') : wpList Tryz.prog ops Q (o :: rest) a w :=
  wpList_step fun K hK => by
    rw [if_pos hw]
    have := hK _ _ (h _ (qBlock.new w ep nx gv r l ws) (below1 _ _))
    rw [← hd] at this
    unfold Oper.wp
    simp only [execOp, ho, hx]
    simpa [go_sem] using this

end Go.Proofs.YtcdopnkabbfooaaGreat
