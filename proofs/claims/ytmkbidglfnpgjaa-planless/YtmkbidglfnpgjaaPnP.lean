/- Rows of a call's own, and worlds in which one block alone is another: what the walks of plans share. -/
import Derived.Test.YtmkbidglfnpgjaaPnE
import Derived.Deep.RegionLaw
namespace Go.Proofs.Ytmkbidglfnpgjaa
open Go.RowKit

section
variable {w w' : World} {R : Nat}
/-- a world in which the block R alone may be another. -/
structure Turned (R : Nat) (w w' : World) : Prop where
  os : w'.os = w.os
  tape : w'.tape = w.tape
  output : w'.output = w.output
  size : w'.heap.size = w.heap.size
  block : ∀ k, k ≠ R → w'.heap[k]? = w.heap[k]?
theorem Turned.set (R o : Nat) (w : World) (v : Value) : Turned R w (w.setCell ⟨R, o, none⟩ v) := by
  refine ⟨?_, ?_, ?_, ?_, fun k hk => Below.heap_setCell w _ v k hk⟩ <;> (unfold World.setCell; split <;> simp)
theorem Turned.refl (R : Nat) (w : World) : Turned R w w := ⟨rfl, rfl, rfl, rfl, fun _ _ => rfl⟩
theorem Turned.trans {a b c : World} (h : Turned R a b) (k : Turned R b c) : Turned R a c :=
  ⟨k.os.trans h.os, k.tape.trans h.tape, k.output.trans h.output, k.size.trans h.size, fun x hx => (k.block x hx).trans (h.block x hx)⟩
theorem Turned.sets (R : Nat) : ∀ (vs : List Value) (o : Nat) (w : World), Turned R w (w.setCells R o vs)
  | [], _, w => Turned.refl R w
  | _ :: vs, o, w => (Turned.set R o w _).trans (Turned.sets R vs (o + 1) _)
theorem Turned.under {B : Nat} {w0 : World} (h : Turned R w w') (hb : Below B w0 w) (hR : B ≤ R) : Below B w0 w' :=
  ⟨h.os.trans hb.os, h.tape.trans hb.tape, h.output.trans hb.output, by rw [h.size]; exact hb.size, fun k hk => (h.block k (by omega)).trans (hb.block k hk)⟩
theorem Turned.own {base e size n : Nat} {v : Value} {xs : List Value} (h : Turned R w w') (o : w.ownsRow base e size v n xs) (hb : R < base) : w'.ownsRow base e size v n xs := by
  refine ⟨o.1, ?_⟩
  rcases o.2 with h2 | ⟨g, cap, cur, h1, h2, h3, h4⟩
  · exact .inl h2
  · exact .inr ⟨g, cap, cur, h1, h2, by rw [h.block g (by omega)]; exact h3, h4⟩
theorem Turned.row {k : IntKind} {a : Option Addr} {len : Nat} {l : List Int} (h : Turned R w w') (hr : RowK k w a len l) (hne : ∀ x, a = some x → 0 < len → x.block ≠ R) : RowK k w' a len l :=
  ⟨hr.len_eq, hr.wf, fun i hi => by
    obtain ⟨b, off, ha, hlt, hc⟩ := hr.cell i hi
    exact ⟨b, off, ha, by rw [h.size]; exact hlt, (World.cell?_of_block (w := w) (h.block b (hne _ ha (by omega)))).trans hc⟩⟩
/-- a row of structs, as its numbers. -/
theorem RowK.ofMany {base e size n : Nat} {v : Value} {xs : List Int} (h : w.ownsRow base e size v n (xs.map (Value.int .i64))) (hw : ∀ u ∈ xs, (Lit.int .i64 u).wf = true) :
    ∃ a cap, v = .slice a n cap ∧ RowK .i64 w a (size * n) xs ∧ n ≤ cap ∧ cap ≤ maxLen ∧ (a = none → cap = 0) ∧ (∀ x, a = some x → base ≤ x.block) := by
  have hl : xs.length = size * n := by have := h.1; rw [Nat.mul_comm]; simpa using this
  rcases h.2 with ⟨rfl, rfl⟩ | ⟨g, cap, cur, rfl, hb, hg, hc, hm, hs, ht⟩
  · have : xs = [] := List.length_eq_zero_iff.1 (by simpa using hl)
    subst this
    exact ⟨none, 0, rfl, RowK.nil _ _ _, Nat.le_refl _, by unfold maxLen; omega, fun _ => rfl, fun x hx => by cases hx⟩
  · refine ⟨some ⟨g, 0, none⟩, cap, rfl, ⟨hl, hw, fun i hi => ?_⟩, hc, hm, by simp, fun x hx => by simp at hx; subst hx; exact hb⟩
    have hci := h.cellAt i (by rw [Nat.mul_comm]; exact hi)
    have hbl := (h.lt g rfl).2
    refine ⟨g, 0, rfl, hbl, ?_⟩
    rw [Nat.zero_add, hci, List.getElem?_map, List.getElem?_eq_getElem (by omega)]
    simp [List.getElem?_eq_getElem (show i < xs.length by omega)]
theorem own_apart {base e e' size size' n n' : Nat} {v v' : Value} {xs xs' : List Value} (h : w.ownsRow base e size v n xs) (h' : w.ownsRow base e' size' v' n' xs') (he : e ≠ e') : ∀ g, v.ownBlock = some g → v'.ownBlock ≠ some g := by
  intro g hg hg'
  rcases h.2 with ⟨rfl, _⟩ | ⟨g1, cap, cur, rfl, _, h3, _⟩
  · cases hg
  · rcases h'.2 with ⟨rfl, _⟩ | ⟨g2, cap', cur', rfl, _, h4, _⟩
    · cases hg'
    · simp only [Value.ownBlock, Option.some.injEq] at hg hg'
      subst hg
      rw [hg'] at h4
      rw [h3] at h4
      simp only [Option.some.injEq, Obj.cells.injEq] at h4
      exact he h4.2.1
theorem own_still {base e size n : Nat} {v : Value} {xs : List Value} (h : w.ownsRow base e size v n xs) (hb : ∀ g, v.ownBlock = some g → g < w.heap.size → w'.heap[g]? = w.heap[g]?) : w'.ownsRow base e size v n xs := by
  refine ⟨h.1, ?_⟩
  rcases h.2 with h2 | ⟨g, cap, cur, rfl, h2, h3, h4⟩
  · exact .inl h2
  · exact .inr ⟨g, cap, cur, rfl, h2, by rw [hb g rfl (h.lt g rfl).2]; exact h3, h4⟩
theorem own_form {base e size n : Nat} {v : Value} {xs : List Value} (h : w.ownsRow base e size v n xs) : ∃ a cap, v = .slice a n cap := by
  rcases h.2 with ⟨rfl, rfl⟩ | ⟨g, cap, cur, rfl, _⟩
  · exact ⟨_, _, rfl⟩
  · exact ⟨_, _, rfl⟩
theorem own_lower {base base' e size n : Nat} {v : Value} {xs : List Value} (h : w.ownsRow base e size v n xs) (hb : base' ≤ base) : w.ownsRow base' e size v n xs := by
  refine ⟨h.1, ?_⟩
  rcases h.2 with h2 | ⟨g, cap, cur, h1, h2, h3⟩
  · exact .inl h2
  · exact .inr ⟨g, cap, cur, h1, by omega, h3⟩
theorem own_grown {base e size n : Nat} {v : Value} {xs : List Value} {row : Option Nat} (h : w.ownsRow base e size v n xs) (hg : w.grownBy w' row) (hne : ∀ g, v.ownBlock = some g → row ≠ some g) : w'.ownsRow base e size v n xs := by
  refine ⟨h.1, ?_⟩
  rcases h.2 with h2 | ⟨g, cap, cur, rfl, h2, h3, h4⟩
  · exact .inl h2
  · have hl : g < w.heap.size := (h.lt g rfl).2
    exact .inr ⟨g, cap, cur, rfl, h2, by rw [hg.block g hl (fun e => hne g rfl e.symm)]; exact h3, h4⟩
/-- an append of some structs to a row of the call's own, as one step of a region that draws. -/
theorem step_append_many {P : Program} {ops : Array Oper} {o : Oper} {a : Act} {w : World} {K : Act → World → Prop} {Q : Exit → Act → World → Prop} {E : Prop} (hgd : o.guard = none) (s x : Operand) (t : TypeId)
    (ho : o.op = .call { callee := .builtin .append, args := #[s, x], argTypes := #[t, t] })
    (base : Nat) (e : TypeId) (i : TypeInfo) (z : Value) (size bytes : Nat) (ht : P.underlying t = some (.slice e)) (hi : P.info? e = some i) (hz : i.zero = some z)
    (hsize : i.size = size) (hby : i.bytes = bytes) (hzs : z.cells.size = size) (hsz : 0 < size)
    (v : Value) (n : Nat) (xs : List Int) (hs : a.eval s = v) (hown : w.ownsRow base e size v n (xs.map (Value.int .i64)))
    (ad : Addr) (m c : Nat) (l : List Int) (hx : a.eval x = .slice (some ad) m c) (hl : l.length = m * size) (hnews : ∀ j u, (l.map (Value.int .i64))[j]? = some u → w.cell? (ad.add j) = some u)
    (h63 : n + m ≤ maxLen) (hbytes : (n + m) * bytes ≤ 140737488355328) (hbase : base ≤ w.heap.size)
    (h : ∀ v' w', w'.ownsRow base e size v' (n + m) ((xs ++ l).map (Value.int .i64)) → w.grownBy w' v.ownBlock → K (a.put o.dst v') w') :
    if Region.wanted o (yielded ops a.tmps) = true then Oper.wp P o a w K Q else E := by
  have hw : Region.wanted o (yielded ops a.tmps) = true := by simp [Region.wanted, hgd]
  rw [if_pos hw]
  exact wp_append_own w s x t ho base e i z size bytes ht hi hz hsize hby hzs hsz v n _ hs hown ad m c (l.map (Value.int .i64)) hx (by simpa using hl) hnews (ints_oneCell _ _) h63 hbytes hbase (fun v' w' h1 h2 _ => h v' w' (by rw [List.map_append]; exact h1) h2)
end

theorem turned_drew (B : Nat) (w : World) : Turned B w w.drew := ⟨rfl, rfl, rfl, rfl, fun _ _ => rfl⟩
theorem wpList_append_rows {P : Program} {w : World} {ops : Array Oper} {rest : List Oper} {o : Oper} {a : Act} {Q : Exit → Act → World → Prop} (hgd : o.guard = none) (s x : Operand) (t : TypeId)
    (ho : o.op = .call { callee := .builtin .append, args := #[s, x], argTypes := #[t, t] })
    (base : Nat) (e : TypeId) (i : TypeInfo) (z : Value) (size bytes : Nat) (ht : P.underlying t = some (.slice e)) (hi : P.info? e = some i) (hz : i.zero = some z)
    (hsize : i.size = size) (hby : i.bytes = bytes) (hzs : z.cells.size = size) (hsz : 0 < size)
    (v : Value) (n : Nat) (xs : List Int) (hs : a.eval s = v) (hown : w.ownsRow base e size v n (xs.map (Value.int .i64)))
    (ad : Option Addr) (m c : Nat) (l : List Int) (hx : a.eval x = .slice ad m c) (hr : RowK .i64 w ad (size * m) l) (hnil : ad = none → c = 0)
    (h63 : n + m ≤ maxLen) (hbytes : (n + m) * bytes ≤ 140737488355328) (hbase : base ≤ w.heap.size)
    (h : ∀ v' w', w'.ownsRow base e size v' (n + m) ((xs ++ l).map (Value.int .i64)) → w.grownBy w' v.ownBlock → wpList P ops Q rest (a.put o.dst v') w') : wpList P ops Q (o :: rest) a w := by
  cases ad with
  | none =>
    have hm : m = 0 := by
      by_cases h0 : 0 < size * m
      · obtain ⟨_, _, h', _⟩ := hr.cell 0 h0; cases h'
      · rcases Nat.eq_zero_or_pos m with hm | hm
        · exact hm
        · exact absurd (Nat.mul_pos hsz hm) h0
    subst hm
    have hl : l = [] := List.length_eq_zero_iff.1 (by simpa using hr.len_eq)
    subst hl
    refine wpList_append_own_none hgd s x t ho base e i size ht hi v n _ hs hown (by rw [hx, hnil rfl]) ?_
    exact h v w (by simpa using hown) (World.grownBy.refl _ _)
  | some x0 =>
    refine wpList_append_own w hgd s x t ho base e i z size bytes ht hi hz hsize hby hzs hsz v n _ hs hown x0 m c (l.map (Value.int .i64)) hx (by rw [List.length_map, hr.len_eq, Nat.mul_comm]) ?_ (ints_oneCell _ _) h63 hbytes hbase ?_
    · intro j u hj
      have hjm : j < l.length := by
        rcases Nat.lt_or_ge j l.length with h' | h'
        · exact h'
        · simp [List.getElem?_eq_none h'] at hj
      obtain ⟨b, off, hb, _, hc⟩ := hr.cell j (by rw [← hr.len_eq]; exact hjm)
      simp only [Option.some.injEq] at hb
      subst hb
      rw [Addr.add_mid, hc]
      simp [List.getElem?_eq_getElem hjm] at hj
      simp [List.getElem?_eq_getElem hjm, hj]
    · intro v' w' h1 h2 _
      exact h v' w' (by rw [List.map_append]; exact h1) h2

end Go.Proofs.Ytmkbidglfnpgjaa
