/- The walk of berthshiftkeep.played: a queue behind some deeds; the events that changed something, and their answers. -/
import Derived.Test.YtjolamdlclcpcaaQkA
import Derived.Test.YtjolamdlclcpcaaQvC
import Derived.Test.YtjolamdlclcpcaaHsA
namespace Go.Proofs.Ytjolamdlclcpcaa
open Go.RowKit

theorem Try.infoAns : (Try.prog.info? 59).map (fun i => (i.zero, i.size, i.bytes)) = some (some (.agg #[.int .i64 0, .int .i64 0, .int .i64 0, .int .i64 0]), 4, 32) := by kernel_rfl
/-- a queue in which nothing is. -/
def St.zero : St := ⟨0, 0, 0, 0, [], 0, [], fun _ => 0, fun _ _ => false⟩
theorem St.zero_wf : St.zero.Wf := by
  refine ⟨⟨⟨by decide, by decide, by decide, by decide, by decide, by decide, by decide⟩, fun p _ => WinOk.none, ⟨fun i hi => absurd hi (Nat.not_lt_zero _), fun i hi => absurd hi (Nat.not_lt_zero _), rfl⟩, fun i hi => absurd hi (Nat.not_lt_zero _)⟩, rfl, rfl⟩
/-- a history: events that changed something, the queue behind them, their answers. -/
inductive Hist : List Ev → St → List An → Prop
  | nil : Hist [] St.zero []
  | snoc {es : List Ev} {s s' : St} {ans : List An} {v : Ev} {an : An} (h : Hist es s ans) (hv : DeedLike v) (st : Step s v s' an true) : Hist (es ++ [v]) s' (ans ++ [an])
theorem Step.same {s s' : St} {v : Ev} {an : An} (st : Step s v s' an false) : s' = s := by cases st <;> rfl
theorem Hist.wf {es : List Ev} {s : St} {ans : List An} (h : Hist es s ans) : s.Wf := by
  induction h with
  | nil => exact St.zero_wf
  | snoc h hv st ih => exact st.wf ih hv.ok
theorem Hist.len {es : List Ev} {s : St} {ans : List An} (h : Hist es s ans) : ans.length = es.length := by
  induction h with
  | nil => rfl
  | snoc h hv st ih => simp [ih]
theorem Step.nx_up {s s' : St} {v : Ev} {an : An} (st : Step s v s' an true) : s.nx ≤ s'.nx ∧ (v.k = 1 → s'.nx = s.nx + 1) := by
  cases st with
  | pub => exact ⟨by show s.nx ≤ s.nx + 1; omega, fun _ => rfl⟩
  | recv hk => exact ⟨Int.le_refl _, fun h => by omega⟩
  | ack hk => exact ⟨Int.le_refl _, fun h => by omega⟩
  | stop hk => exact ⟨Int.le_refl _, fun h => by omega⟩
def evCells (v : Ev) : List Int := [v.k, v.p, v.i, v.b, v.he, v.hn]
def anCells (a : An) : List Int := [a.c, a.he, a.no, a.bd]
def evFlat (es : List Ev) : List Int := es.flatMap evCells
def anFlat (ans : List An) : List Int := ans.flatMap anCells
theorem evFlat_snoc (es : List Ev) (v : Ev) : evFlat (es ++ [v]) = evFlat es ++ evCells v := by simp [evFlat]
theorem anFlat_snoc (ans : List An) (a : An) : anFlat (ans ++ [a]) = anFlat ans ++ anCells a := by simp [anFlat]
/-- a queue in memory, in a box. -/
structure Qb (w wr : World) (B : Nat) (s : St) (a1 : Option Addr) (c1 : Nat) (a2 : Option Addr) (c2 : Nat) (ws : Nat → Value) : Prop where
  q : qBlock wr B s.ep s.nx s.gv (.slice a1 s.rn c1) (.slice a2 s.ln c2) ws
  r1 : RowK .i64 wr a1 (2 * s.rn) s.R
  r2 : RowK .i64 wr a2 (4 * s.ln) s.L
  l1 : s.rn ≤ c1
  l2 : s.ln ≤ c2
  n1 : a1 = none → c1 = 0
  n2 : a2 = none → c2 = 0
  wins : Wins ws s.wt s.wz
  f1 : ∀ x, a1 = some x → w.heap.size < x.block
  f2 : ∀ x, a2 = some x → w.heap.size < x.block
theorem Qb.next {w wr wx : World} {B : Nat} {s : St} {a1 : Option Addr} {c1 : Nat} {a2 : Option Addr} {c2 : Nat} {ws : Nat → Value} (h : Qb w wr B s a1 c1 a2 c2 ws) (b : Below wr.heap.size wr wx) : Qb w wx B s a1 c1 a2 c2 ws :=
  ⟨h.q.next b, h.r1.below b, h.r2.below b, h.l1, h.l2, h.n1, h.n2, h.wins, h.f1, h.f2⟩
/-- played on its way. -/
structure Pl (w wr : World) (Z B : Nat) (s : St) (a1 : Option Addr) (c1 : Nat) (a2 : Option Addr) (c2 : Nat) (ws : Nat → Value) (ve va : Value) (es : List Ev) (ans : List An) : Prop where
  z : qBlock wr Z 0 0 0 (.slice none 0 0) (.slice none 0 0) zeroW
  q : Qb w wr B s a1 c1 a2 c2 ws
  oe : wr.ownsRow (B + 1) 37 6 ve es.length ((evFlat es).map (Value.int .i64))
  oa : wr.ownsRow (B + 1) 59 4 va ans.length ((anFlat ans).map (Value.int .i64))
  bel : Below w.heap.size w wr
  upZ : w.heap.size ≤ Z
  upB : Z < B
section
variable {w wr wx : World} {Z B : Nat} {s : St} {a1 a2 : Option Addr} {c1 c2 : Nat} {ws : Nat → Value} {ve va : Value} {es : List Ev} {ans : List An}
theorem Pl.next (h : Pl w wr Z B s a1 c1 a2 c2 ws ve va es ans) (b : Below wr.heap.size wr wx) : Pl w wx Z B s a1 c1 a2 c2 ws ve va es ans :=
  ⟨h.z.next b, h.q.next b, own_still h.oe (fun g _ hg => b.block g hg), own_still h.oa (fun g _ hg => b.block g hg), Below.next h.bel b, h.upZ, h.upB⟩
end
/-- all but a block is as it was, as far as n. -/
structure Off (B n : Nat) (wa wb : World) : Prop where
  os : wb.os = wa.os
  tape : wb.tape = wa.tape
  output : wb.output = wa.output
  size : wa.heap.size ≤ wb.heap.size
  block : ∀ X, X < n → X ≠ B → wb.heap[X]? = wa.heap[X]?
theorem Off.below {B n : Nat} {wa wb : World} (b : Below n wa wb) : Off B n wa wb := ⟨b.os, b.tape, b.output, b.size, fun X hX _ => b.block X hX⟩
theorem Off.turn {B n Y : Nat} {wa wb wc : World} (h : Off B n wa wb) (t : Turned Y wb wc) (hY : n ≤ Y) : Off B n wa wc :=
  ⟨t.os.trans h.os, t.tape.trans h.tape, t.output.trans h.output, by rw [t.size]; exact h.size, fun X hX hB => (t.block X (by omega)).trans (h.block X hX hB)⟩
theorem Off.self {B n : Nat} {wa wb wc : World} (h : Off B n wa wb) (t : Turned B wb wc) : Off B n wa wc :=
  ⟨t.os.trans h.os, t.tape.trans h.tape, t.output.trans h.output, by rw [t.size]; exact h.size, fun X hX hB => (t.block X hB).trans (h.block X hX hB)⟩
theorem Off.row {B n : Nat} {wa wb : World} {k : IntKind} {a : Option Addr} {len : Nat} {l : List Int} (h : Off B n wa wb) (hr : RowK k wa a len l) (hn : n = wa.heap.size) (hB : ∀ x, a = some x → x.block ≠ B) : RowK k wb a len l :=
  ⟨hr.len_eq, hr.wf, fun i hi => by
    obtain ⟨b, off, ha, hlt, hc⟩ := hr.cell i hi
    exact ⟨b, off, ha, Nat.lt_of_lt_of_le hlt h.size, (World.cell?_of_block (h.block b (by omega) (hB _ ha))).trans hc⟩⟩
theorem Off.own {B n base e size m : Nat} {wa wb : World} {v : Value} {xs : List Value} (h : Off B n wa wb) (o : wa.ownsRow base e size v m xs) (hn : n = wa.heap.size) (hB : B < base) : wb.ownsRow base e size v m xs :=
  own_still o (fun g hg hl => h.block g (by omega) (by have := (o.lt g hg).1; omega))
theorem Pl.stored {w wa wb : World} {Z B : Nat} {s s' : St} {a1 a2 a1' a2' : Option Addr} {c1 c2 c1' c2' : Nat} {ws ws' : Nat → Value} {ve va : Value} {es : List Ev} {ans : List An}
    (h : Pl w wa Z B s a1 c1 a2 c2 ws ve va es ans) (o : Off B wa.heap.size wa wb) (q : qBlock wb B s'.ep s'.nx s'.gv (.slice a1' s'.rn c1') (.slice a2' s'.ln c2') ws') (r1 : RowK .i64 wa a1' (2 * s'.rn) s'.R) (r2 : RowK .i64 wa a2' (4 * s'.ln) s'.L)
    (l1 : s'.rn ≤ c1') (l2 : s'.ln ≤ c2') (n1 : a1' = none → c1' = 0) (n2 : a2' = none → c2' = 0) (hW : Wins ws' s'.wt s'.wz) (f1 : ∀ x, a1' = some x → B < x.block) (f2 : ∀ x, a2' = some x → B < x.block) : Pl w wb Z B s' a1' c1' a2' c2' ws' ve va es ans := by
  have hz := h.z.lt
  have hu := h.upZ
  have hb := h.upB
  refine ⟨?_, ⟨q, o.row r1 rfl (fun x hx => by have := f1 x hx; omega), o.row r2 rfl (fun x hx => by have := f2 x hx; omega), l1, l2, n1, n2, hW, fun x hx => by have := f1 x hx; omega, fun x hx => by have := f2 x hx; omega⟩, o.own h.oe rfl (by omega), o.own h.oa rfl (by omega), ?_, hu, hb⟩
  · have := h.z
    unfold qBlock at this ⊢
    rw [o.block Z hz (by omega)]
    exact this
  · exact ⟨o.os.trans h.bel.os, o.tape.trans h.bel.tape, o.output.trans h.bel.output, Nat.le_trans h.bel.size o.size, fun X hX => (o.block X (by have := h.bel.size; omega) (by omega)).trans (h.bel.block X hX)⟩
section
variable {w wa W wb : World} {Z B : Nat} {s : St} {a1 a2 a3 : Option Addr} {c1 c2 c3 : Nat} {ws : Nat → Value} {ve va : Value} {es : List Ev} {ans : List An}
theorem Pl.base (h : Pl w wa Z B s a1 c1 a2 c2 ws ve va es ans) (b : Below wa.heap.size wa W) {row : Option Nat} (gr : W.grownBy wb row) (hZ : row ≠ some Z) (hB : row ≠ some B) (h1 : ∀ x, a1 = some x → row ≠ some x.block) (h2 : ∀ x, a2 = some x → row ≠ some x.block) (hl : ∀ t, row = some t → B + 1 ≤ t) :
    qBlock wb Z 0 0 0 (.slice none 0 0) (.slice none 0 0) zeroW ∧ Qb w wb B s a1 c1 a2 c2 ws ∧ Below w.heap.size w wb := by
  have keep : ∀ X, X < wa.heap.size → row ≠ some X → wb.heap[X]? = wa.heap[X]? := fun X hX hne => by
    rw [gr.block X (by have := b.size; omega) (fun e => hne e.symm), b.block X hX]
  have row' : ∀ {a : Option Addr} {len : Nat} {l : List Int}, RowK .i64 wa a len l → (∀ x, a = some x → row ≠ some x.block) → RowK .i64 wb a len l := fun hr ha =>
    ⟨hr.len_eq, hr.wf, fun i hi => by
      obtain ⟨g, off, he, hlt, hc⟩ := hr.cell i hi
      exact ⟨g, off, he, by have := b.size; have := gr.size; omega, (World.cell?_of_block (keep g hlt (ha _ he))).trans hc⟩⟩
  have hu := h.upZ
  have hv := h.upB
  refine ⟨?_, ⟨?_, row' h.q.r1 h1, row' h.q.r2 h2, h.q.l1, h.q.l2, h.q.n1, h.q.n2, h.q.wins, h.q.f1, h.q.f2⟩, ?_⟩
  · have := h.z
    unfold qBlock at this ⊢
    rw [keep Z h.z.lt hZ]; exact this
  · have := h.q.q
    unfold qBlock at this ⊢
    rw [keep B h.q.q.lt hB]; exact this
  · exact (h.bel.trans (b.mono h.bel.size)).grown gr (by have := b.size; have := h.bel.size; omega) (fun q hq => by have := hl q hq; omega)
theorem Pl.event (h : Pl w wa Z B s a1 c1 a2 c2 ws ve va es ans) (b : Below wa.heap.size wa W) (gr : W.grownBy wb ve.ownBlock) (h1 : ∀ x, a1 = some x → ve.ownBlock ≠ some x.block) (h2 : ∀ x, a2 = some x → ve.ownBlock ≠ some x.block) (v : Ev)
    (own : wb.ownsRow (B + 1) 37 6 (.slice a3 (es.length + 1) c3) (es.length + 1) ((evFlat es).map (Value.int .i64) ++ (evCells v).map (Value.int .i64))) : Pl w wb Z B s a1 c1 a2 c2 ws (.slice a3 (es.length + 1) c3) va (es ++ [v]) ans := by
  have oZ := own_off h.oe h.z (by decide)
  have oB := own_off h.oe h.q.q (by decide)
  obtain ⟨z, q, bel⟩ := h.base b gr (fun e => oZ Z e rfl) (fun e => oB B e rfl) h1 h2 (fun t ht => (h.oe.lt t ht).1)
  refine ⟨z, q, ?_, own_grown (own_still h.oa (fun g _ hg => b.block g hg)) gr (fun g h1 h2 => own_apart h.oa h.oe (by decide) g h1 h2), bel, h.upZ, h.upB⟩
  rw [evFlat_snoc, List.map_append, List.length_append]
  exact own
theorem Pl.answer (h : Pl w wa Z B s a1 c1 a2 c2 ws ve va es ans) (b : Below wa.heap.size wa W) (gr : W.grownBy wb va.ownBlock) (h1 : ∀ x, a1 = some x → va.ownBlock ≠ some x.block) (h2 : ∀ x, a2 = some x → va.ownBlock ≠ some x.block) (v : An)
    (own : wb.ownsRow (B + 1) 59 4 (.slice a3 (ans.length + 1) c3) (ans.length + 1) ((anFlat ans).map (Value.int .i64) ++ (anCells v).map (Value.int .i64))) : Pl w wb Z B s a1 c1 a2 c2 ws ve (.slice a3 (ans.length + 1) c3) es (ans ++ [v]) := by
  have oZ := own_off h.oa h.z (by decide)
  have oB := own_off h.oa h.q.q (by decide)
  obtain ⟨z, q, bel⟩ := h.base b gr (fun e => oZ Z e rfl) (fun e => oB B e rfl) h1 h2 (fun t ht => (h.oa.lt t ht).1)
  refine ⟨z, q, own_grown (own_still h.oe (fun g _ hg => b.block g hg)) gr (fun g h1 h2 => own_apart h.oe h.oa (by decide) g h1 h2), ?_, bel, h.upZ, h.upB⟩
  rw [anFlat_snoc, List.map_append, List.length_append]
  exact own
end
/-- the first event that is published changes something. -/
theorem zero_pub {v : Ev} {s' : St} {an : An} (hv : v.Ok) (hk : v.k = 1) (st : Step St.zero v s' an false) : False := by
  have hb : 0 ≤ v.i := by rcases Ev.cases hv with h | h | h | h <;> omega
  cases st with
  | pubLow _ h => simp [St.zero] at h; omega
  | pubOld _ h => rw [show inWin (St.zero.wt v.p.toNat) (St.zero.wz v.p.toNat) v.i = inWin 0 noneS v.i from rfl, inWin_none] at h; cases h
  | pubFull _ _ _ h => simp [St.zero] at h
  | recEmpty h => omega
  | recFull h => omega
  | ackStale h => omega
  | ackNone h => omega
  | endFull h => omega
theorem hist_nil {es : List Ev} {s : St} {ans : List An} (h : Hist es s ans) (he : es = []) : s = St.zero := by
  cases h with
  | nil => rfl
  | snoc _ _ _ => simp at he
theorem deedEv_pub (k a b c : Int) (h : pickedOf k 8 ≤ 2) : (deedEv k a b c).k = 1 := by
  unfold deedEv
  rw [if_pos (by omega)]
end Go.Proofs.Ytjolamdlclcpcaa
