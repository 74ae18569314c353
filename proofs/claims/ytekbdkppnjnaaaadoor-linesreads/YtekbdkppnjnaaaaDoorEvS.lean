/- What texts on events share: rows of ones own, events as rows of numbers; without queues. -/
import Derived.Test.YtekbdkppnjnaaaaDoorWdA
import Derived.Test.YtekbdkppnjnaaaaDoorPkD
import Derived.Deep.RegionLaw
import Derived.Deep.QuietTactic
import Derived.Lib.SlBy
import Derived.Deep.MidRow
namespace Go.Proofs.YtekbdkppnjnaaaaDoor
open Go.RowKit

theorem info_of {P : Program} {t : TypeId} {z : Option Value} {s b : Nat} (h : (P.info? t).map (fun i => (i.zero, i.size, i.bytes)) = some (z, s, b)) : ∃ i, P.info? t = some i ∧ i.zero = z ∧ i.size = s ∧ i.bytes = b := by
  cases hi : P.info? t with
  | none => rw [hi] at h; cases h
  | some i => rw [hi] at h; simp at h; exact ⟨i, rfl, h.1, h.2.1, h.2.2⟩
section
variable {w w' : World} {R : Nat}
/-- a world in which the block R alone may be another. -/
structure Turned (R : Nat) (w w' : World) : Prop where
  os : w'.os = w.os
  tape : w'.tape = w.tape
  output : w'.output = w.output
  size : w'.heap.size = w.heap.size
  block : ∀ k, k ≠ R → w'.heap[k]? = w.heap[k]?
theorem Turned.set (R o : Nat) (w : World) (v : Value) : Turned R w (w.setCell ⟨R, o, none⟩ v) := by
  refine ⟨?_, ?_, ?_, ?_, fun k hk => Below.heap_setCell w _ v k hk⟩ <;> (unfold World.setCell; split <;> simp)
theorem Turned.refl (R : Nat) (w : World) : Turned R w w := ⟨rfl, rfl, rfl, rfl, fun _ _ => rfl⟩
theorem Turned.trans {a b c : World} (h : Turned R a b) (k : Turned R b c) : Turned R a c :=
  ⟨k.os.trans h.os, k.tape.trans h.tape, k.output.trans h.output, k.size.trans h.size, fun x hx => (k.block x hx).trans (h.block x hx)⟩
theorem Turned.sets (R : Nat) : ∀ (vs : List Value) (o : Nat) (w : World), Turned R w (w.setCells R o vs)
  | [], _, w => Turned.refl R w
  | _ :: vs, o, w => (Turned.set R o w _).trans (Turned.sets R vs (o + 1) _)
theorem Turned.under {B : Nat} {w0 : World} (h : Turned R w w') (hb : Below B w0 w) (hR : B ≤ R) : Below B w0 w' :=
  ⟨h.os.trans hb.os, h.tape.trans hb.tape, h.output.trans hb.output, by rw [h.size]; exact hb.size, fun k hk => (h.block k (by omega)).trans (hb.block k hk)⟩
theorem Turned.own {base e size n : Nat} {v : Value} {xs : List Value} (h : Turned R w w') (o : w.ownsRow base e size v n xs) (hb : R < base) : w'.ownsRow base e size v n xs := by
  refine ⟨o.1, ?_⟩
  rcases o.2 with h2 | ⟨g, cap, cur, h1, h2, h3, h4⟩
  · exact .inl h2
  · exact .inr ⟨g, cap, cur, h1, h2, by rw [h.block g (by omega)]; exact h3, h4⟩
theorem Turned.row {k : IntKind} {a : Option Addr} {len : Nat} {l : List Int} (h : Turned R w w') (hr : RowK k w a len l) (hne : ∀ x, a = some x → 0 < len → x.block ≠ R) : RowK k w' a len l :=
  ⟨hr.len_eq, hr.wf, fun i hi => by
    obtain ⟨b, off, ha, hlt, hc⟩ := hr.cell i hi
    exact ⟨b, off, ha, by rw [h.size]; exact hlt, (World.cell?_of_block (w := w) (h.block b (hne _ ha (by omega)))).trans hc⟩⟩
/-- a row of structs, as its numbers. -/
theorem RowK.ofMany {base e size n : Nat} {v : Value} {xs : List Int} (h : w.ownsRow base e size v n (xs.map (Value.int .i64))) (hw : ∀ u ∈ xs, (Lit.int .i64 u).wf = true) :
    ∃ a cap, v = .slice a n cap ∧ RowK .i64 w a (size * n) xs ∧ n ≤ cap ∧ cap ≤ maxLen ∧ (a = none → cap = 0) ∧ (∀ x, a = some x → base ≤ x.block) := by
  have hl : xs.length = size * n := by have := h.1; rw [Nat.mul_comm]; simpa using this
  rcases h.2 with ⟨rfl, rfl⟩ | ⟨g, cap, cur, rfl, hb, hg, hc, hm, hs, ht⟩
  · have : xs = [] := List.length_eq_zero_iff.1 (by simpa using hl)
    subst this
    exact ⟨none, 0, rfl, RowK.nil _ _ _, Nat.le_refl _, by unfold maxLen; omega, fun _ => rfl, fun x hx => by cases hx⟩
  · refine ⟨some ⟨g, 0, none⟩, cap, rfl, ⟨hl, hw, fun i hi => ?_⟩, hc, hm, by simp, fun x hx => by simp at hx; subst hx; exact hb⟩
    have hci := h.cellAt i (by rw [Nat.mul_comm]; exact hi)
    have hbl := (h.lt g rfl).2
    refine ⟨g, 0, rfl, hbl, ?_⟩
    rw [Nat.zero_add, hci, List.getElem?_map, List.getElem?_eq_getElem (by omega)]
    simp [List.getElem?_eq_getElem (show i < xs.length by omega)]
theorem own_apart {base e e' size size' n n' : Nat} {v v' : Value} {xs xs' : List Value} (h : w.ownsRow base e size v n xs) (h' : w.ownsRow base e' size' v' n' xs') (he : e ≠ e') : ∀ g, v.ownBlock = some g → v'.ownBlock ≠ some g := by
  intro g hg hg'
  rcases h.2 with ⟨rfl, _⟩ | ⟨g1, cap, cur, rfl, _, h3, _⟩
  · cases hg
  · rcases h'.2 with ⟨rfl, _⟩ | ⟨g2, cap', cur', rfl, _, h4, _⟩
    · cases hg'
    · simp only [Value.ownBlock, Option.some.injEq] at hg hg'
      subst hg
      rw [hg'] at h4
      rw [h3] at h4
      simp only [Option.some.injEq, Obj.cells.injEq] at h4
      exact he h4.2.1
theorem own_still {base e size n : Nat} {v : Value} {xs : List Value} (h : w.ownsRow base e size v n xs) (hb : ∀ g, v.ownBlock = some g → g < w.heap.size → w'.heap[g]? = w.heap[g]?) : w'.ownsRow base e size v n xs := by
  refine ⟨h.1, ?_⟩
  rcases h.2 with h2 | ⟨g, cap, cur, rfl, h2, h3, h4⟩
  · exact .inl h2
  · exact .inr ⟨g, cap, cur, rfl, h2, by rw [hb g rfl (h.lt g rfl).2]; exact h3, h4⟩
theorem own_form {base e size n : Nat} {v : Value} {xs : List Value} (h : w.ownsRow base e size v n xs) : ∃ a cap, v = .slice a n cap := by
  rcases h.2 with ⟨rfl, rfl⟩ | ⟨g, cap, cur, rfl, _⟩
  · exact ⟨_, _, rfl⟩
  · exact ⟨_, _, rfl⟩
theorem own_lower {base base' e size n : Nat} {v : Value} {xs : List Value} (h : w.ownsRow base e size v n xs) (hb : base' ≤ base) : w.ownsRow base' e size v n xs := by
  refine ⟨h.1, ?_⟩
  rcases h.2 with h2 | ⟨g, cap, cur, h1, h2, h3⟩
  · exact .inl h2
  · exact .inr ⟨g, cap, cur, h1, by omega, h3⟩
theorem own_grown {base e size n : Nat} {v : Value} {xs : List Value} {row : Option Nat} (h : w.ownsRow base e size v n xs) (hg : w.grownBy w' row) (hne : ∀ g, v.ownBlock = some g → row ≠ some g) : w'.ownsRow base e size v n xs := by
  refine ⟨h.1, ?_⟩
  rcases h.2 with h2 | ⟨g, cap, cur, rfl, h2, h3, h4⟩
  · exact .inl h2
  · have hl : g < w.heap.size := (h.lt g rfl).2
    exact .inr ⟨g, cap, cur, rfl, h2, by rw [hg.block g hl (fun e => hne g rfl e.symm)]; exact h3, h4⟩
/-- an append of some structs to a row of the call's own, as one step of a region that draws. -/
theorem step_append_many {P : Program} {ops : Array Oper} {o : Oper} {a : Act} {w : World} {K : Act → World → Prop} {Q : Exit → Act → World → Prop} {E : Prop} (hgd : o.guard = none) (s x : Operand) (t : TypeId)
    (ho : o.op = .call { callee := .builtin .append, args := #[s, x], argTypes := #[t, t] })
    (base : Nat) (e : TypeId) (i : TypeInfo) (z : Value) (size bytes : Nat) (ht : P.underlying t = some (.slice e)) (hi : P.info? e = some i) (hz : i.zero = some z)
    (hsize : i.size = size) (hby : i.bytes = bytes) (hzs : z.cells.size = size) (hsz : 0 < size)
    (v : Value) (n : Nat) (xs : List Int) (hs : a.eval s = v) (hown : w.ownsRow base e size v n (xs.map (Value.int .i64)))
    (ad : Addr) (m c : Nat) (l : List Int) (hx : a.eval x = .slice (some ad) m c) (hl : l.length = m * size) (hnews : ∀ j u, (l.map (Value.int .i64))[j]? = some u → w.cell? (ad.add j) = some u)
    (h63 : n + m ≤ maxLen) (hbytes : (n + m) * bytes ≤ 140737488355328) (hbase : base ≤ w.heap.size)
    (h : ∀ v' w', w'.ownsRow base e size v' (n + m) ((xs ++ l).map (Value.int .i64)) → w.grownBy w' v.ownBlock → K (a.put o.dst v') w') :
    if Region.wanted o (yielded ops a.tmps) = true then Oper.wp P o a w K Q else E := by
  have hw : Region.wanted o (yielded ops a.tmps) = true := by simp [Region.wanted, hgd]
  rw [if_pos hw]
  exact wp_append_own w s x t ho base e i z size bytes ht hi hz hsize hby hzs hsz v n _ hs hown ad m c (l.map (Value.int .i64)) hx (by simpa using hl) hnews (ints_oneCell _ _) h63 hbytes hbase (fun v' w' h1 h2 _ => h v' w' (by rw [List.map_append]; exact h1) h2)
end

theorem turned_drew (B : Nat) (w : World) : Turned B w w.drew := ⟨rfl, rfl, rfl, rfl, fun _ _ => rfl⟩
theorem wpList_append_rows {P : Program} {w : World} {ops : Array Oper} {rest : List Oper} {o : Oper} {a : Act} {Q : Exit → Act → World → Prop} (hgd : o.guard = none) (s x : Operand) (t : TypeId)
    (ho : o.op = .call { callee := .builtin .append, args := #[s, x], argTypes := #[t, t] })
    (base : Nat) (e : TypeId) (i : TypeInfo) (z : Value) (size bytes : Nat) (ht : P.underlying t = some (.slice e)) (hi : P.info? e = some i) (hz : i.zero = some z)
    (hsize : i.size = size) (hby : i.bytes = bytes) (hzs : z.cells.size = size) (hsz : 0 < size)
    (v : Value) (n : Nat) (xs : List Int) (hs : a.eval s = v) (hown : w.ownsRow base e size v n (xs.map (Value.int .i64)))
    (ad : Option Addr) (m c : Nat) (l : List Int) (hx : a.eval x = .slice ad m c) (hr : RowK .i64 w ad (size * m) l) (hnil : ad = none → c = 0)
    (h63 : n + m ≤ maxLen) (hbytes : (n + m) * bytes ≤ 140737488355328) (hbase : base ≤ w.heap.size)
    (h : ∀ v' w', w'.ownsRow base e size v' (n + m) ((xs ++ l).map (Value.int .i64)) → w.grownBy w' v.ownBlock → wpList P ops Q rest (a.put o.dst v') w') : wpList P ops Q (o :: rest) a w := by
  cases ad with
  | none =>
    have hm : m = 0 := by
      by_cases h0 : 0 < size * m
      · obtain ⟨_, _, h', _⟩ := hr.cell 0 h0; cases h'
      · rcases Nat.eq_zero_or_pos m with hm | hm
        · exact hm
        · exact absurd (Nat.mul_pos hsz hm) h0
    subst hm
    have hl : l = [] := List.length_eq_zero_iff.1 (by simpa using hr.len_eq)
    subst hl
    refine wpList_append_own_none hgd s x t ho base e i size ht hi v n _ hs hown (by rw [hx, hnil rfl]) ?_
    exact h v w (by simpa using hown) (World.grownBy.refl _ _)
  | some x0 =>
    refine wpList_append_own w hgd s x t ho base e i z size bytes ht hi hz hsize hby hzs hsz v n _ hs hown x0 m c (l.map (Value.int .i64)) hx (by rw [List.length_map, hr.len_eq, Nat.mul_comm]) ?_ (ints_oneCell _ _) h63 hbytes hbase ?_
    · intro j u hj
      have hjm : j < l.length := by
        rcases Nat.lt_or_ge j l.length with h' | h'
        · exact h'
        · simp [List.getElem?_eq_none h'] at hj
      obtain ⟨b, off, hb, _, hc⟩ := hr.cell j (by rw [← hr.len_eq]; exact hjm)
      simp only [Option.some.injEq] at hb
      subst hb
      rw [Addr.add_mid, hc]
      simp [List.getElem?_eq_getElem hjm] at hj
      simp [List.getElem?_eq_getElem hjm, hj]
    · intro v' w' h1 h2 _
      exact h v' w' (by rw [List.map_append]; exact h1) h2
theorem block_lt {w : World} {X : Nat} {o : Obj} (h : w.heap[X]? = some o) : X < w.heap.size := by
  rcases Nat.lt_or_ge X w.heap.size with h' | h'
  · exact h'
  · rw [Array.getElem?_eq_none h'] at h; cases h
theorem Tryd.infoEvent : (Tryd.prog.info? 25).map (fun i => (i.zero, i.size, i.bytes)) = some (some (.agg #[.int .i64 0, .int .i64 0, .int .i64 0, .int .i64 0, .int .i64 0, .int .i64 0]), 6, 48) := by kernel_rfl
/-- six cells of a row. -/
theorem RowK.six {w : World} {b off n : Nat} {D : List Int} (h : RowK .i64 w (some ⟨b, off, none⟩) (6 * n) D) (k : Nat) (hk : k < n) :
    w.cell? ⟨b, off + k * 6, none⟩ = some (.int .i64 (D.getD (6 * k) 0)) ∧ w.cell? ⟨b, off + k * 6 + 1, none⟩ = some (.int .i64 (D.getD (6 * k + 1) 0)) ∧ w.cell? ⟨b, off + k * 6 + 2, none⟩ = some (.int .i64 (D.getD (6 * k + 2) 0)) ∧
    w.cell? ⟨b, off + k * 6 + 3, none⟩ = some (.int .i64 (D.getD (6 * k + 3) 0)) ∧ w.cell? ⟨b, off + k * 6 + 4, none⟩ = some (.int .i64 (D.getD (6 * k + 4) 0)) ∧ w.cell? ⟨b, off + k * 6 + 5, none⟩ = some (.int .i64 (D.getD (6 * k + 5) 0)) := by
  rw [Nat.mul_comm k 6]
  exact ⟨h.at (6 * k) (by omega), h.at (6 * k + 1) (by omega), h.at (6 * k + 2) (by omega), h.at (6 * k + 3) (by omega), h.at (6 * k + 4) (by omega), h.at (6 * k + 5) (by omega)⟩
theorem news6 (w : World) (x0 x1 x2 x3 x4 x5 : Int) (t : TypeId) : ∀ j u, ([x0, x1, x2, x3, x4, x5].map (Value.int .i64))[j]? = some u → (w.alloc (.cells #[.int .i64 x0, .int .i64 x1, .int .i64 x2, .int .i64 x3, .int .i64 x4, .int .i64 x5] t)).drew.cell? ((⟨w.heap.size, 0, none⟩ : Addr).add j) = some u := by
  intro j u hj
  rw [Addr.add_mid]
  match j, hj with
  | 0, hj => simp at hj; subst hj; simp
  | 1, hj => simp at hj; subst hj; simp
  | 2, hj => simp at hj; subst hj; simp
  | 3, hj => simp at hj; subst hj; simp
  | 4, hj => simp at hj; subst hj; simp
  | 5, hj => simp at hj; subst hj; simp
  | n + 6, hj => simp at hj
theorem getD_at6 (R : List Int) (k : Nat) (h : k < R.length) : R.getD k 0 = R[k] := by simp [List.getElem?_eq_getElem h]
theorem take_six (L : List Int) (k : Nat) (h : 6 * k + 6 ≤ L.length) : L.take (6 * (k + 1)) = L.take (6 * k) ++ [L.getD (6 * k) 0, L.getD (6 * k + 1) 0, L.getD (6 * k + 2) 0, L.getD (6 * k + 3) 0, L.getD (6 * k + 4) 0, L.getD (6 * k + 5) 0] := by
  rw [show 6 * (k + 1) = (6 * k + 5) + 1 by omega, List.take_succ_eq_append_getElem (show 6 * k + 5 < L.length by omega), List.take_succ_eq_append_getElem (show 6 * k + 4 < L.length by omega), List.take_succ_eq_append_getElem (show 6 * k + 3 < L.length by omega), List.take_succ_eq_append_getElem (show 6 * k + 2 < L.length by omega), List.take_succ_eq_append_getElem (show 6 * k + 1 < L.length by omega), List.take_succ_eq_append_getElem (show 6 * k < L.length by omega), getD_at6 L (6 * k) (by omega), getD_at6 L (6 * k + 1) (by omega), getD_at6 L (6 * k + 2) (by omega), getD_at6 L (6 * k + 3) (by omega), getD_at6 L (6 * k + 4) (by omega), getD_at6 L (6 * k + 5) (by omega), List.append_assoc, List.append_assoc, List.append_assoc, List.append_assoc, List.append_assoc]
  rfl
/-- an event's numbers. -/
structure Ev where
  k : Int
  p : Int
  i : Int
  b : Int
  he : Int
  hn : Int
def Ev.Ok (v : Ev) : Prop := eventFault v.k v.p v.i v.b v.he v.hn = 0
abbrev evVal (k p i b he hn : Int) : Value := .agg #[.int .i64 k, .int .i64 p, .int .i64 i, .int .i64 b, .int .i64 he, .int .i64 hn]
abbrev evIn (v : Ev) : Value := evVal v.k v.p v.i v.b v.he v.hn
def evCells (v : Ev) : List Int := [v.k, v.p, v.i, v.b, v.he, v.hn]
def evFlat (es : List Ev) : List Int := es.flatMap evCells
theorem evFlat_snoc (es : List Ev) (v : Ev) : evFlat (es ++ [v]) = evFlat es ++ evCells v := by simp [evFlat]
theorem getD_left (A B : List Int) (j : Nat) (h : j < A.length) : (A ++ B).getD j 0 = A.getD j 0 := by
  simp [List.getElem?_append_left h]
theorem getD_right (A B : List Int) (j n : Nat) (h : A.length = n) : (A ++ B).getD (n + j) 0 = B.getD j 0 := by
  subst h
  simp [List.getElem?_append_right]
theorem evFlat_at : ∀ (es : List Ev) (i : Nat) (h : i < es.length) (j : Nat), j < 6 → (evFlat es).getD (6 * i + j) 0 = (evCells es[i]).getD j 0
  | [], _, h, _, _ => absurd h (Nat.not_lt_zero _)
  | v :: es, 0, _, j, hj => by
    have hl : (evCells v).length = 6 := rfl
    show (evCells v ++ evFlat es).getD (6 * 0 + j) 0 = _
    rw [Nat.mul_zero, Nat.zero_add, getD_left _ _ _ (by omega)]
    rfl
  | v :: es, i + 1, h, j, hj => by
    have hl : (evCells v).length = 6 := rfl
    show (evCells v ++ evFlat es).getD (6 * (i + 1) + j) 0 = _
    rw [show 6 * (i + 1) + j = 6 + (6 * i + j) by omega, getD_right _ _ _ 6 hl, evFlat_at es i (by simpa using h) j hj]
    rfl
theorem evFlat_len (es : List Ev) : (evFlat es).length = 6 * es.length := by
  induction es with
  | nil => rfl
  | cons v es ih =>
    show (evCells v ++ evFlat es).length = _
    rw [List.length_append, ih]
    show 6 + _ = 6 * (es.length + 1)
    omega
/-- events out of a row of numbers. -/
def evsOf (D : List Int) : Nat → List Ev
  | 0 => []
  | n + 1 => evsOf D n ++ [⟨D.getD (6 * n) 0, D.getD (6 * n + 1) 0, D.getD (6 * n + 2) 0, D.getD (6 * n + 3) 0, D.getD (6 * n + 4) 0, D.getD (6 * n + 5) 0⟩]
theorem evsOf_len (D : List Int) : ∀ n, (evsOf D n).length = n
  | 0 => rfl
  | n + 1 => by rw [evsOf, List.length_append, evsOf_len D n]; rfl
theorem evFlat_evsOf (D : List Int) : ∀ n, 6 * n ≤ D.length → evFlat (evsOf D n) = D.take (6 * n)
  | 0, _ => by simp [evsOf, evFlat]
  | n + 1, h => by
    rw [evsOf, evFlat_snoc, evFlat_evsOf D n (by omega), take_six D n (by omega)]
    rfl
theorem evFlat_of_row {w : World} {a : Option Addr} {n : Nat} {D : List Int} (h : RowK .i64 w a (6 * n) D) : RowK .i64 w a (6 * (evsOf D n).length) (evFlat (evsOf D n)) := by
  rw [evsOf_len, evFlat_evsOf D n (by have := h.len_eq; omega), List.take_of_length_le (by have := h.len_eq; omega)]
  exact h
/-- a row of events of one's own. -/
theorem own_events {w w' : World} {v : Value} {es : List Ev} {D : List Int} (hw : ∀ u ∈ D, (Lit.int .i64 u).wf = true) (hD : D = evFlat es) (o : w'.ownsRow w.heap.size 25 6 v es.length (D.map (Value.int .i64))) :
    ∃ a c, v = .slice a es.length c ∧ RowK .i64 w' a (6 * es.length) (evFlat es) ∧ es.length ≤ c ∧ (a = none → c = 0) ∧ (∀ x, a = some x → w.heap.size ≤ x.block) := by
  subst hD
  obtain ⟨a, c, e, r, l, _, n, x⟩ := RowK.ofMany o hw
  exact ⟨a, c, e, r, l, n, x⟩
/-- where a handle is: nowhere, or at a place. -/
theorem idx_spec {α : Type} [Inhabited α] (eq : α → α → Bool) (x : α) : ∀ (l : List α) (i : Nat), (Lib.idxByFrom eq x l i = -1 ∧ ∀ j, j < l.length → eq x l[j]! = false) ∨ ∃ k, k < l.length ∧ Lib.idxByFrom eq x l i = ((i + k : Nat) : Int) ∧ eq x l[k]! = true
  | [], _ => .inl ⟨rfl, fun j hj => absurd hj (Nat.not_lt_zero _)⟩
  | y :: r, i => by
    cases h : eq x y with
    | true => exact .inr ⟨0, by simp, by simp [Lib.idxByFrom, h], by simpa using h⟩
    | false =>
      rcases idx_spec eq x r (i + 1) with ⟨e, ha⟩ | ⟨k, hk, e, ht⟩
      · refine .inl ⟨by simp [Lib.idxByFrom, h, e], fun j hj => ?_⟩
        cases j with
        | zero => simpa using h
        | succ j => simpa using ha j (by simpa using hj)
      · refine .inr ⟨k + 1, by simpa using hk, ?_, by simpa using ht⟩
        have : Lib.idxByFrom eq x (y :: r) i = Lib.idxByFrom eq x r (i + 1) := by simp [Lib.idxByFrom, h]
        rw [this, e]
        congr 1
        omega
end Go.Proofs.YtekbdkppnjnaaaaDoor
