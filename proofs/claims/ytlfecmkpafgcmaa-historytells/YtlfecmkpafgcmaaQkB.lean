/- The walk of berthshiftkeep.played: a queue behind some deeds; the events that changed something, and their answers. -/
import Derived.Test.YtlfecmkpafgcmaaQkA
import Derived.Test.YtlfecmkpafgcmaaQvC
import Derived.Test.YtlfecmkpafgcmaaHsA
namespace Go.Proofs.Ytlfecmkpafgcmaa
open Go.RowKit

theorem Try.infoAns : (Try.prog.info? 50).map (fun i => (i.zero, i.size, i.bytes)) = some (some (.agg #[.int .i64 0, .int .i64 0, .int .i64 0, .int .i64 0]), 4, 32) := by kernel_rfl
/-- a queue in which nothing is. -/
def St.zero : St := ⟨0, 0, 0, 0, [], 0, [], fun _ => 0, fun _ _ => false⟩
theorem St.zero_wf : St.zero.Wf := by
  refine ⟨⟨⟨by decide, by decide, by decide, by decide, by decide, by decide, by decide⟩, fun p _ => WinOk.none, ⟨fun i hi => absurd hi (Nat.not_lt_zero _), fun i hi => absurd hi (Nat.not_lt_zero _), rfl⟩, fun i hi => absurd hi (Nat.not_lt_zero _)⟩, rfl, rfl⟩
/-- a history: events that changed something, the queue behind them, their answers. -/
inductive Hist : List Ev → St → List An → Prop
  | nil : Hist [] St.zero []
  | snoc {es : List Ev} {s s' : St} {ans : List An} {v : Ev} {an : An} (h : Hist es s ans) (hv : DeedLike v) (st : Step s v s' an true) : Hist (es ++ [v]) s' (ans ++ [an])
theorem Step.same {s s' : St} {v : Ev} {an : An} (st : Step s v s' an false) : s' = s := by cases st <;> rfl
theorem Hist.wf {es : List Ev} {s : St} {ans : List An} (h : Hist es s ans) : s.Wf := by
  induction h with
  | nil => exact St.zero_wf
  | snoc h hv st ih => exact st.wf ih hv.ok
theorem Hist.len {es : List Ev} {s : St} {ans : List An} (h : Hist es s ans) : ans.length = es.length := by
  induction h with
  | nil => rfl
  | snoc h hv st ih => simp [ih]
theorem Step.nx_up {s s' : St} {v : Ev} {an : An} (st : Step s v s' an true) : s.nx ≤ s'.nx ∧ (v.k = 1 → s'.nx = s.nx + 1) := by
  cases st with
  | pub => exact ⟨by show s.nx ≤ s.nx + 1; omega, fun _ => rfl⟩
  | recv hk => exact ⟨Int.le_refl _, fun h => by omega⟩
  | ack hk => exact ⟨Int.le_refl _, fun h => by omega⟩
  | stop hk => exact ⟨Int.le_refl _, fun h => by omega⟩
def evCells (v : Ev) : List Int := [v.k, v.p, v.i, v.b, v.he, v.hn]
def anCells (a : An) : List Int := [a.c, a.he, a.no, a.bd]
def evFlat (es : List Ev) : List Int := es.flatMap evCells
def anFlat (ans : List An) : List Int := ans.flatMap anCells
theorem evFlat_snoc (es : List Ev) (v : Ev) : evFlat (es ++ [v]) = evFlat es ++ evCells v := by simp [evFlat]
theorem anFlat_snoc (ans : List An) (a : An) : anFlat (ans ++ [a]) = anFlat ans ++ anCells a := by simp [anFlat]
/-- a queue in memory, in a box. -/
structure Qb (w wr : World) (B : Nat) (s : St) (a1 : Option Addr) (c1 : Nat) (a2 : Option Addr) (c2 : Nat) (ws : Nat → Value) : Prop where
  q : qBlock wr B s.ep s.nx s.gv (.slice a1 s.rn c1) (.slice a2 s.ln c2) ws
  r1 : RowK .i64 wr a1 (2 * s.rn) s.R
  r2 : RowK .i64 wr a2 (4 * s.ln) s.L
  l1 : s.rn ≤ c1
  l2 : s.ln ≤ c2
  n1 : a1 = none → c1 = 0
  n2 : a2 = none → c2 = 0
  wins : Wins ws s.wt s.wz
  f1 : ∀ x, a1 = some x → w.heap.size < x.block
  f2 : ∀ x, a2 = some x → w.heap.size < x.block
theorem Qb.next {w wr wx : World} {B : Nat} {s : St} {a1 : Option Addr} {c1 : Nat} {a2 : Option Addr} {c2 : Nat} {ws : Nat → Value} (h : Qb w wr B s a1 c1 a2 c2 ws) (b : Below wr.heap.size wr wx) : Qb w wx B s a1 c1 a2 c2 ws :=
  ⟨h.q.next b, h.r1.below b, h.r2.below b, h.l1, h.l2, h.n1, h.n2, h.wins, h.f1, h.f2⟩
/-- played on its way. -/
structure Pl (w wr : World) (Z B : Nat) (s : St) (a1 : Option Addr) (c1 : Nat) (a2 : Option Addr) (c2 : Nat) (ws : Nat → Value) (ve va : Value) (es : List Ev) (ans : List An) : Prop where
  z : qBlock wr Z 0 0 0 (.slice none 0 0) (.slice none 0 0) zeroW
  q : Qb w wr B s a1 c1 a2 c2 ws
  oe : wr.ownsRow (B + 1) 61 6 ve es.length ((evFlat es).map (Value.int .i64))
  oa : wr.ownsRow (B + 1) 50 4 va ans.length ((anFlat ans).map (Value.int .i64))
  bel : Below w.heap.size w wr
  upZ : w.heap.size ≤ Z
  upB : Z < B
section
variable {w wr wx : World} {Z B : Nat} {s : St} {a1 a2 : Option Addr} {c1 c2 : Nat} {ws : Nat → Value} {ve va : Value} {es : List Ev} {ans : List An}
theorem Pl.next (h : Pl w wr Z B s a1 c1 a2 c2 ws ve va es ans) (b : Below wr.heap.size wr wx) : Pl w wx Z B s a1 c1 a2 c2 ws ve va es ans :=
  ⟨h.z.next b, h.q.next b, own_still h.oe (fun g _ hg => b.block g hg), own_still h.oa (fun g _ hg => b.block g hg), Below.next h.bel b, h.upZ, h.upB⟩
end
/-- all but a block is as it was, as far as n. -/
structure Off (B n : Nat) (wa wb : World) : Prop where
  os : wb.os = wa.os
  tape : wb.tape = wa.tape
  output : wb.output = wa.output
  size : wa.heap.size ≤ wb.heap.size
  block : ∀ X, X < n → X ≠ B → wb.heap[X]? = wa.heap[X]?
theorem Off.below {B n : Nat} {wa wb : World} (b : Below n wa wb) : Off B n wa wb := ⟨b.os, b.tape, b.output, b.size, fun X hX _ => b.block X hX⟩
theorem Off.turn {B n Y : Nat} {wa wb wc : World} (h : Off B n wa wb) (t : Turned Y wb wc) (hY : n ≤ Y) : Off B n wa wc :=
  ⟨t.os.trans h.os, t.tape.trans h.tape, t.output.trans h.output, by rw [t.size]; exact h.size, fun X hX hB => (t.block X (by omega)).trans (h.block X hX hB)⟩
theorem Off.self {B n : Nat} {wa wb wc : World} (h : Off B n wa wb) (t : Turned B wb wc) : Off B n wa wc :=
  ⟨t.os.trans h.os, t.tape.trans h.tape, t.output.trans h.output, by rw [t.size]; exact h.size, fun X hX hB => (t.block X hB).trans (h.block X hX hB)⟩
theorem Off.row {B n : Nat} {wa wb : World} {k : IntKind} {a : Option Addr} {len : Nat} {l : List Int} (h : Off B n wa wb) (hr : RowK k wa a len l) (hn : n = wa.heap.size) (hB : ∀ x, a = some x → x.block ≠ B) : RowK k wb a len l :=
  ⟨hr.len_eq, hr.wf, fun i hi => by
    obtain ⟨b, off, ha, hlt, hc⟩ := hr.cell i hi
    exact ⟨b, off, ha, Nat.lt_of_lt_of_le hlt h.size, (World.cell?_of_block (h.block b (by omega) (hB _ ha))).trans hc⟩⟩
theorem Off.own {B n base e size m : Nat} {wa wb : World} {v : Value} {xs : List Value} (h : Off B n wa wb) (o : wa.ownsRow base e size v m xs) (hn : n = wa.heap.size) (hB : B < base) : wb.ownsRow base e size v m xs :=
  own_still o (fun g hg hl => h.block g (by omega) (by have := (o.lt g hg).1; omega))
theorem Pl.stored {w wa wb : World} {Z B : Nat} {s s' : St} {a1 a2 a1' a2' : Option Addr} {c1 c2 c1' c2' : Nat} {ws ws' : Nat → Value} {ve va : Value} {es : List Ev} {ans : List An}
    (h : Pl w wa Z B s a1 c1 a2 c2 ws ve va es ans) (o : Off B wa.heap.size wa wb) (q : qBlock wb B s'.ep s'.nx s'.gv (.slice a1' s'.rn c1') (.slice a2' s'.ln c2') ws') (r1 : RowK .i64 wa a1' (2 * s'.rn) s'.R) (r2 : RowK .i64 wa a2' (4 * s'.ln) s'.L)
    (l1 : s'.rn ≤ c1') (l2 : s'.ln ≤ c2') (n1 : a1' = none → c1' = 0) (n2 : a2' = none → c2' = 0) (hW : Wins ws' s'.wt s'.wz) (f1 : ∀ x, a1' = some x → B < x.block) (f2 : ∀ x, a2' = some x → B < x.block) : Pl w wb Z B s' a1' c1' a2' c2' ws' ve va es ans := by
  have hz := h.z.lt
  have hu := h.upZ
  have hb := h.upB
  refine ⟨?_, ⟨q, o.row r1 rfl (fun x hx => by have := f1 x hx; omega), o.row r2 rfl (fun x hx => by have := f2 x hx; omega), l1, l2, n1, n2, hW, fun x hx => by have := f1 x hx; omega, fun x hx => by have := f2 x hx; omega⟩, o.own h.oe rfl (by omega), o.own h.oa rfl (by omega), ?_, hu, hb⟩
  · have := h.z
    unfold qBlock at this ⊢
    rw [o.block Z hz (by omega)]
    exact this
  · exact ⟨o.os.trans h.bel.os, o.tape.trans h.bel.tape, o.output.trans h.bel.output, Nat.le_trans h.bel.size o.size, fun X hX => (o.block X (by have := h.bel.size; omega) (by omega)).trans (h.bel.block X hX)⟩
section
variable {w wa W wb : World} {Z B : Nat} {s : St} {a1 a2 a3 : Option Addr} {c1 c2 c3 : Nat} {ws : Nat → Value} {ve va : Value} {es : List Ev} {ans : List An}
theorem Pl.base (h : Pl w wa Z B s a1 c1 a2 c2 ws ve va es ans) (b : Below wa.heap.size wa W) {row : Option Nat} (gr : W.grownBy wb row) (hZ : row ≠ some Z) (hB : row ≠ some B) (h1 : ∀ x, a1 = some x → row ≠ some x.block) (h2 : ∀ x, a2 = some x → row ≠ some x.block) (hl : ∀ t, row = some t → B + 1 ≤ t) :
    qBlock wb Z 0 0 0 (.slice none 0 0) (.slice none 0 0) zeroW ∧ Qb w wb B s a1 c1 a2 c2 ws ∧ Below w.heap.size w wb := by
  have keep : ∀ X, X < wa.heap.size → row ≠ some X → wb.heap[X]? = wa.heap[X]? := fun X hX hne => by
    rw [gr.block X (by have := b.size; omega) (fun e => hne e.symm), b.block X hX]
  have row' : ∀ {a : Option Addr} {len : Nat} {l : List Int}, RowK .i64 wa a len l → (∀ x, a = some x → row ≠ some x.block) → RowK .i64 wb a len l := fun hr ha =>
    ⟨hr.len_eq, hr.wf, fun i hi => by
      obtain ⟨g, off, he, hlt, hc⟩ := hr.cell i hi
      exact ⟨g, off, he, by have := b.size; have := gr.size; omega, (World.cell?_of_block (keep g hlt (ha _ he))).trans hc⟩⟩
  have hu := h.upZ
  have hv := h.upB
  refine ⟨?_, ⟨?_, row' h.q.r1 h1, row' h.q.r2 h2, h.q.l1, h.q.l2, h.q.n1, h.q.n2, h.q.wins, h.q.f1, h.q.f2⟩, ?_⟩
  · have := h.z
    unfold qBlock at this ⊢
    rw [keep Z h.z.lt hZ]; exact this
  · have := h.q.q
    unfold qBlock at this ⊢
    rw [keep B h.q.q.lt hB]; exact this
  · exact (h.bel.trans (b.mono h.bel.size)).grown gr (by have := b.size; have := h.bel.size; omega) (fun q hq => by have := hl q hq; omega)
theorem Pl.event (h : Pl w wa Z B s a1 c1 a2 c2 ws ve va es ans) (b : Below wa.heap.size wa W) (gr : W.grownBy wb ve.ownBlock) (h1 : ∀ x, a1 = some x → ve.ownBlock ≠ some x.block) (h2 : ∀ x, a2 = some x → ve.ownBlock ≠ some x.block) (v : Ev)
    (own : wb.ownsRow (B + 1) 61 6 (.slice a3 (es.length + 1) c3) (es.length + 1) ((evFlat es).map (Value.int .i64) ++ (evCells v).map (Value.int .i64))) : Pl w wb Z B s a1 c1 a2 c2 ws (.slice a3 (es.length + 1) c3) va (es ++ [v]) ans := by
  have oZ := own_off h.oe h.z (by decide)
  have oB := own_off h.oe h.q.q (by decide)
  obtain ⟨z, q, bel⟩ := h.base b gr (fun e => oZ Z e rfl) (fun e => oB B e rfl) h1 h2 (fun t ht => (h.oe.lt t ht).1)
  refine ⟨z, q, ?_, own_grown (own_still h.oa (fun g _ hg => b.block g hg)) gr (fun g h1 h2 => own_apart h.oa h.oe (by decide) g h1 h2), bel, h.upZ, h.upB⟩
  rw [evFlat_snoc, List.map_append, List.length_append]
  exact own
theorem Pl.answer (h : Pl w wa Z B s a1 c1 a2 c2 ws ve va es ans) (b : Below wa.heap.size wa W) (gr : W.grownBy wb va.ownBlock) (h1 : ∀ x, a1 = some x → va.ownBlock ≠ some x.block) (h2 : ∀ x, a2 = some x → va.ownBlock ≠ some x.block) (v : An)
    (own : wb.ownsRow (B + 1) 50 4 (.slice a3 (ans.length + 1) c3) (ans.length + 1) ((anFlat ans).map (Value.int .i64) ++ (anCells v).map (Value.int .i64))) : Pl w wb Z B s a1 c1 a2 c2 ws ve (.slice a3 (ans.length + 1) c3) es (ans ++ [v]) := by
  have oZ := own_off h.oa h.z (by decide)
  have oB := own_off h.oa h.q.q (by decide)
  obtain ⟨z, q, bel⟩ := h.base b gr (fun e => oZ Z e rfl) (fun e => oB B e rfl) h1 h2 (fun t ht => (h.oa.lt t ht).1)
  refine ⟨z, q, own_grown (own_still h.oe (fun g _ hg => b.block g hg)) gr (fun g h1 h2 => own_apart h.oe h.oa (by decide) g h1 h2), ?_, bel, h.upZ, h.upB⟩
  rw [anFlat_snoc, List.map_append, List.length_append]
  exact own
end
/-- the first event that is published changes something. -/
theorem zero_pub {v : Ev} {s' : St} {an : An} (hv : v.Ok) (hk : v.k = 1) (st : Step St.zero v s' an false) : False := by
  have hb : 0 ≤ v.i := by rcases Ev.cases hv with h | h | h | h <;> omega
  cases st with
  | pubLow _ h => simp [St.zero] at h; omega
  | pubOld _ h => rw [show inWin (St.zero.wt v.p.toNat) (St.zero.wz v.p.toNat) v.i = inWin 0 noneS v.i from rfl, inWin_none] at h; cases h
  | pubFull _ _ _ h => simp [St.zero] at h
  | recEmpty h => omega
  | recFull h => omega
  | ackStale h => omega
  | ackNone h => omega
  | endFull h => omega
theorem hist_nil {es : List Ev} {s : St} {ans : List An} (h : Hist es s ans) (he : es = []) : s = St.zero := by
  cases h with
  | nil => rfl
  | snoc _ _ _ => simp at he
theorem deedEv_pub (k a b c : Int) (h : pickedOf k 8 ≤ 2) : (deedEv k a b c).k = 1 := by
  unfold deedEv
  rw [if_pos (by omega)]
theorem ret_played {W : World} {Z : Nat} {ep nx gv : Int} {r l ve va : Value} {ws : Nat → Value} {ch : Bool} {tmps : Array Value} (q : qBlock W Z ep nx gv r l ws) (t4 : tmps[4]? = some (.pointer (some ⟨Z, 0, none⟩))) (t5 : tmps[5]? = some ve) (t6 : tmps[6]? = some va) (t7 : tmps[7]? = some (.bool ch)) :
    (results Try.f10 tmps).run Try.prog W = .ok (.tuple #[qVal ep nx gv r l ws, ve, va, .bool ch]) W := by
  have h1 := run_loadVar_row (P := Try.prog) W Z 38 38 _ (0, 0) _ q Try.underlying38 rfl (by rw [qCells_size]; exact Try.infoQ)
  simp [results, Try.results10, t4, t5, t6, t7, asAddr, h1]
set_option maxRecDepth 20000 in
set_option maxHeartbeats 4000000 in
theorem played_any (a : Option Addr) (len cap most : Nat) (D : List Int) (w : World) (h : RowK .i64 w a (4 * len) D) (hm : most ≤ 60) :
    Calls Try.prog 10 #[.slice a len cap, .int .i64 most] w fun e w' => ∃ (s : St) (es : List Ev) (ans : List An) (x ve va : Value), e = .returned (.tuple #[x, ve, va, .bool true]) ∧ Hist es s ans ∧ es.length ≤ most ∧ es.length ≤ len ∧ (0 < len → 0 < most → pickedOf (D.getD 0 0) 8 ≤ 2 → es ≠ [] ∧ 0 < s.nx) ∧ QOut w w' s x ∧ w'.ownsRow w.heap.size 61 6 ve es.length ((evFlat es).map (Value.int .i64)) ∧ w'.ownsRow w.heap.size 50 4 va ans.length ((anFlat ans).map (Value.int .i64)) ∧ Below w.heap.size w w' := by
  obtain ⟨i6, hi6, hz60, hz61, hz62⟩ := info_of Try.infoEvent
  obtain ⟨i4, hi4, hz40, hz41, hz42⟩ := info_of Try.infoAns
  go_enter Try.func10, Try.ntmps10
  go_wp2_with (first
    | (refine q_alloc 4 rfl rfl rfl ?_; intro W1 z1 b1)
    | (refine q_alloc 8 rfl rfl rfl ?_; intro W2 z2 b2; have z1' := z1.next b2))
  have s1 : w.heap.size < W1.heap.size := z1.lt
  have P0 : Pl w W2 w.heap.size W1.heap.size St.zero none 0 none 0 zeroW (.slice none 0 0) (.slice none 0 0) [] [] :=
    ⟨z1', ⟨z2, RowK.nil _ _ _, RowK.nil _ _ _, Nat.le_refl _, Nat.le_refl _, fun _ => rfl, fun _ => rfl, zeroWins, (fun x hx => by cases hx), (fun x hx => by cases hx)⟩, World.ownsRow_nil _ _ _ _, World.ownsRow_nil _ _ _ _, Below.next b1 b2, Nat.le_refl _, s1⟩
  obtain ⟨B, hB⟩ : ∃ B, B = W1.heap.size := ⟨_, rfl⟩
  rw [← hB] at P0 s1 ⊢
  clear hB z1 z2 z1' b1 b2
  go_loopw [9, 10, 11] (fun ve va t wr => ∃ (m : Nat) (s : St) (a1 : Option Addr) (c1 : Nat) (a2 : Option Addr) (c2 : Nat) (ws : Nat → Value) (es : List Ev) (ans : List An), m ≤ len ∧ m ≤ most ∧ t = .int .i64 m ∧ Pl w wr w.heap.size B s a1 c1 a2 c2 ws ve va es ans ∧ Hid (Hist es s ans ∧ es.length ≤ m ∧ (0 < m → pickedOf (D.getD 0 0) 8 ≤ 2 → es ≠ [] ∧ 0 < s.nx))) (fun _ _ t _ => len - (intOf t).toNat)
  case atStart => exact ⟨0, St.zero, none, 0, none, 0, zeroW, [], [], by omega, by omega, rfl, P0, veil ⟨.nil, Nat.le_refl _, fun h => absurd h (Nat.lt_irrefl _)⟩⟩
  case round =>
    obtain ⟨m, s, a1, c1, a2, c2, ws, es, ans, hml, hmm, rfl, P, HH⟩ := hrel
    clear P0
    obtain ⟨ae, ce, rfl⟩ := own_form P.oe
    obtain ⟨aa, ca, rfl⟩ := own_form P.oa
    by_cases hl : m < len ∧ m < most
    case neg =>
      have P' := P
      have q0 := P.q.q
      have z0 := P.z
      have hu := P.upB
      have HP := veil P
      have hmx : m = len ∨ m = most := by omega
      have hwf := (unveil HH).1.wf
      have HC : Hid (∀ W, Below wr.heap.size wr W → Calls Try.prog 28 #[qVal s.ep s.nx s.gv (.slice a1 s.rn c1) (.slice a2 s.ln c2) ws] W fun e w' => e = .returned (.int .i64 0) ∧ Below W.heap.size W w') := veil fun W hb => qcheck_yes _ _ _ _ _ _ _ _ _ s.R s.L _ s.wt s.wz W (P'.q.r1.below hb) (P'.q.r2.below hb) P'.q.wins hwf.ok
      clear P P' h hwf
      have hW0 := (unveil HP).q.wins
      have hcase : ¬ ((m : Int) < (len : Int)) ∨ ((m : Int) < (len : Int) ∧ ¬ ((m : Int) < (most : Int))) := by omega
      rcases hcase with hc1 | ⟨hc1, hc2⟩
      all_goals
        go_wp2_with fail
        refine wp_region_held_drew (S := fun w' => qBlock w' B s.ep s.nx s.gv (.slice a1 s.rn c1) (.slice a2 s.ln c2) ws) (by kernel_rfl) q0 (fun hHeld => ?_)
        refine wpAnyH_take (i := 0) (v := _) rfl (by kernel_rfl) (by kernel_rfl) (by kernel_rfl) (fun _ _ _ h => h) (yields_q _ rfl rfl rfl (fun _ h => h)) hHeld ?_
        simp only [List.getElem_toArray, List.getElem_cons_zero, Act.put, List.setIfInBounds_toArray, List.set_cons_zero, List.set_cons_succ]
        refine wpAnyH_take (i := 1) (v := .slice ae es.length ce) rfl (by kernel_rfl) (by kernel_rfl) (by kernel_rfl) (fun _ _ _ h => h) (Or.inl ⟨by rfl, fun _ _ => by go_simp⟩) hHeld ?_
        simp only [List.getElem_toArray, List.getElem_cons_zero, List.getElem_cons_succ, Act.put, List.setIfInBounds_toArray, List.set_cons_zero, List.set_cons_succ]
        refine wpAnyH_take (i := 2) (v := .slice aa ans.length ca) rfl (by kernel_rfl) (by kernel_rfl) (by kernel_rfl) (fun _ _ _ h => h) (Or.inl ⟨by rfl, fun _ _ => by go_simp⟩) hHeld ?_
        simp only [List.getElem_toArray, List.getElem_cons_zero, List.getElem_cons_succ, Act.put, List.setIfInBounds_toArray, List.set_cons_zero, List.set_cons_succ]
        refine wpAnyH_take (i := 3) (v := _) rfl (by kernel_rfl) (by kernel_rfl) (by kernel_rfl) (fun _ _ _ h => h) (yields_q _ rfl rfl rfl (fun _ h => h)) hHeld ?_
        simp only [List.getElem_toArray, List.getElem_cons_zero, List.getElem_cons_succ, Act.put, List.setIfInBounds_toArray, List.set_cons_zero, List.set_cons_succ]
        refine wpAnyH_ready (rs := [4]) (by kernel_rfl) (by simp) ?_
        refine AllReadyH.cons rfl (fun K hK => ?_) AllReadyH.nil
        simp only [List.getElem_toArray, List.getElem_cons_zero, List.getElem_cons_succ]
        go_simp
        refine (unveil HC wr.drew (below_drew wr)).mono ?_
        rintro e W3 ⟨rfl, b3⟩
        have P3 := (unveil HP).next (Below.next (below_drew wr) b3)
        refine hK.out _ _ P3.q.q (fun hHeld => ?_)
        clear hK K
        refine wpAnyH_take (i := 5) (v := .bool true) rfl (by kernel_rfl) (by kernel_rfl) (by kernel_rfl) (fun _ _ _ h => h) (Or.inl ⟨by rfl, fun _ _ => by go_simp⟩) hHeld ?_
        simp only [List.getElem_toArray, List.getElem_cons_zero, List.getElem_cons_succ, Act.put, List.setIfInBounds_toArray, List.set_cons_zero, List.set_cons_succ]
        refine wpAnyH_ready (rs := [6]) (by kernel_rfl) (by simp) ?_
        refine AllReadyH.cons rfl (fun K hK => ?_) AllReadyH.nil
        simp only [List.getElem_toArray, List.getElem_cons_zero, List.getElem_cons_succ]
        refine ite_wanted rfl ?_
        refine wp_store_mid 38 (.tmp 4) (.tmp 56) rfl w.heap.size 0 _ rfl rfl (by rw [qCells_size]; exact P3.z.there) (by rw [qCells_size]; exact Try.infoQ) (qCells_one hW0) ?_
        have q4 := P3.z.stored s.ep s.nx s.gv (.slice a1 s.rn c1) (.slice a2 s.ln c2) ws
        have T4 := Turned.sets w.heap.size (qCells s.ep s.nx s.gv (.slice a1 s.rn c1) (.slice a2 s.ln c2) ws).toList 0 W3
        have qB4 := T4.queue P3.q.q (by omega)
        refine hK.out _ _ qB4 (fun hHeld => ?_)
        clear hK K
        generalize W3.setCells w.heap.size 0 (qCells s.ep s.nx s.gv (.slice a1 s.rn c1) (.slice a2 s.ln c2) ws).toList = W4 at q4 T4 qB4 hHeld ⊢
        refine wpAnyH_take (i := 7) (v := .slice ae es.length ce) rfl (by kernel_rfl) (by kernel_rfl) (by kernel_rfl) (fun _ _ _ h => h) (Or.inl ⟨by rfl, fun _ _ => by go_simp⟩) hHeld ?_
        simp only [List.getElem_toArray, List.getElem_cons_zero, List.getElem_cons_succ, Act.put, List.setIfInBounds_toArray, List.set_cons_zero, List.set_cons_succ]
        refine wpAnyH_take (i := 8) (v := .slice aa ans.length ca) rfl (by kernel_rfl) (by kernel_rfl) (by kernel_rfl) (fun _ _ _ h => h) (Or.inl ⟨by rfl, fun _ _ => by go_simp⟩) hHeld ?_
        simp only [List.getElem_toArray, List.getElem_cons_zero, List.getElem_cons_succ, Act.put, List.setIfInBounds_toArray, List.set_cons_zero, List.set_cons_succ]
        refine wpAnyH_take (i := 9) (v := .bool true) rfl (by kernel_rfl) (by kernel_rfl) (by kernel_rfl) (fun _ _ _ h => h) (Or.inl ⟨by rfl, fun _ _ => by go_simp⟩) hHeld ?_
        simp only [List.getElem_toArray, List.getElem_cons_zero, List.getElem_cons_succ, Act.put, List.setIfInBounds_toArray, List.set_cons_zero, List.set_cons_succ]
        refine wpAnyH_done (by kernel_rfl) ?_ _
        have HQ4 := veil q4
        have HT4 := veil T4
        have HP3 := veil P3
        clear q4 T4 qB4 P3 hHeld q0 z0
        go_wp2
        have X3 := unveil HP3
        have X4 := unveil HT4
        have hlm := (unveil HH).2.1
        refine bodyPost_ret (ret_played (unveil HQ4) rfl rfl rfl rfl) rfl ⟨s, es, ans, _, _, _, rfl, (unveil HH).1, by omega, by omega, fun h1 h2 h3 => (unveil HH).2.2 (by omega) h3, ⟨⟨a1, c1, a2, c2, ws, rfl, X4.row X3.q.r1 (fun x hx _ => by have := X3.q.f1 x hx; omega), X4.row X3.q.r2 (fun x hx _ => by have := X3.q.f2 x hx; omega), X3.q.l1, X3.q.l2, X3.q.n1, X3.q.n2, hW0, fun x hx => Nat.le_of_lt (X3.q.f1 x hx), fun x hx => Nat.le_of_lt (X3.q.f2 x hx)⟩⟩, own_lower (X4.own X3.oe (by omega)) (by omega), own_lower (X4.own X3.oa (by omega)) (by omega), X4.under X3.bel (Nat.le_refl _)⟩
    case pos =>
    obtain ⟨h1, h2⟩ := hl
    have hr := h.below P.bel
    obtain ⟨g, off, rfl⟩ := h.form (by omega)
    obtain ⟨x0, hx0⟩ : ∃ x, x = D.getD (4 * m) 0 := ⟨_, rfl⟩
    obtain ⟨x1, hx1⟩ : ∃ x, x = D.getD (4 * m + 1) 0 := ⟨_, rfl⟩
    obtain ⟨x2, hx2⟩ : ∃ x, x = D.getD (4 * m + 2) 0 := ⟨_, rfl⟩
    obtain ⟨x3, hx3⟩ : ∃ x, x = D.getD (4 * m + 3) 0 := ⟨_, rfl⟩
    have k0 : wr.cell? ⟨g, off + m * 4, none⟩ = some (.int .i64 x0) := by rw [Nat.mul_comm m 4, hx0]; exact hr.at (4 * m) (by omega)
    have k1 : wr.cell? ⟨g, off + m * 4 + 1, none⟩ = some (.int .i64 x1) := by rw [Nat.mul_comm m 4, hx1]; exact hr.at (4 * m + 1) (by omega)
    have k2 : wr.cell? ⟨g, off + m * 4 + 2, none⟩ = some (.int .i64 x2) := by rw [Nat.mul_comm m 4, hx2]; exact hr.at (4 * m + 2) (by omega)
    have k3 : wr.cell? ⟨g, off + m * 4 + 3, none⟩ = some (.int .i64 x3) := by rw [Nat.mul_comm m 4, hx3]; exact hr.at (4 * m + 3) (by omega)
    have w0 : (Lit.int .i64 x0).wf = true := by rw [hx0]; exact getD_fits D h.wf _
    have w1 : (Lit.int .i64 x1).wf = true := by rw [hx1]; exact getD_fits D h.wf _
    have w2 : (Lit.int .i64 x2).wf = true := by rw [hx2]; exact getD_fits D h.wf _
    have w3 : (Lit.int .i64 x3).wf = true := by rw [hx3]; exact getD_fits D h.wf _
    obtain ⟨v, hv⟩ : ∃ v, v = deedEv x0 x1 x2 x3 := ⟨_, rfl⟩
    have HV : Hid (DeedLike v ∧ (m = 0 → pickedOf (D.getD 0 0) 8 ≤ 2 → v.k = 1)) := veil ⟨by rw [hv]; exact deedEv_like _ _ _ _, fun h0 hp => by subst h0; rw [hv]; exact deedEv_pub _ _ _ _ (by rw [hx0]; exact hp)⟩
    have hE : ∀ w, Calls Try.prog 26 #[.agg #[.int .i64 x0, .int .i64 x1, .int .i64 x2, .int .i64 x3]] w fun e w' => e = .returned (evIn v) ∧ Below w.heap.size w w' := fun w => by rw [hv]; exact event_ev x0 x1 x2 x3 w w0 w1 w2 w3
    have HP := veil P
    have H := veil h
    clear P h hr hv w0 w1 w2 w3 hx0 hx1 hx2 hx3
    go_wp2_with (first
      | (go_at_call 26; refine (hE _).mono ?_; rintro e W3 ⟨rfl, b3⟩; have P3 := (unveil HP).next b3; have P4 := P3.next (below1 W3 (.cells #[.int .i64 v.k, .int .i64 v.p, .int .i64 v.i, .int .i64 v.b, .int .i64 v.he, .int .i64 v.hn] 61)); have q4 := P4.q.q; have hBE := P3.q.q.lt; have e4 := heap_alloc_new W3 (.cells #[.int .i64 v.k, .int .i64 v.p, .int .i64 v.i, .int .i64 v.b, .int .i64 v.he, .int .i64 v.hn] 61); have HE4 := veil e4; have HP4 := veil P4; clear P3 P4 b3 HP e4 k0 k1 k2 k3)
      | (refine q_loads _ rfl rfl rfl (by assumption) ?_))
    have hwf := (unveil HH).1.wf
    have hev := (unveil HV).1.ok
    refine (do_step s a1 a2 c1 c2 ws v _ (unveil HP4).q.r1 (unveil HP4).q.r2 (unveil HP4).q.n1 (unveil HP4).q.n2 (unveil HP4).q.wins hwf.ok hev).mono ?_
    rintro e W5 ⟨s', an, ch, x, rfl, st, ⟨⟨a1', c1', a2', c2', ws', rfl, r1, r2, l1, l2, n1, n2, hW', f1, f2⟩⟩, b5⟩
    have P5 := (unveil HP4).next b5
    have e5 : W5.heap[W3.heap.size]? = _ := (b5.block W3.heap.size (by simp)).trans (unveil HE4)
    have hoe : ∀ g, (Value.slice ae es.length ce).ownBlock = some g → g < W3.heap.size + 1 := fun g hg => by have := ((unveil HP4).oe.lt g hg).2; simpa using this
    have hoa : ∀ g, (Value.slice aa ans.length ca).ownBlock = some g → g < W3.heap.size + 1 := fun g hg => by have := ((unveil HP4).oa.lt g hg).2; simpa using this
    have hf1 : ∀ x, a1' = some x → W3.heap.size + 1 ≤ x.block := fun x hx => by have := f1 x hx; simpa using this
    have hf2 : ∀ x, a2' = some x → W3.heap.size + 1 ≤ x.block := fun x hx => by have := f2 x hx; simpa using this
    have HST := veil st
    have HP5 := veil P5
    have HE5 := veil e5
    have hE5 := block_lt e5
    have qB5 := P5.q.q
    clear b5 q4 HP4 HE4 P5 e5 st f1 f2 hwf hev
    cases ch with
    | false =>
      go_wp2_with (first
        | (refine q_alloc 13 rfl rfl rfl ?_; intro W6 z6 b6; have z6' := z6.next (below1 W6 (.cells #[.int .i64 0, .int .i64 0, .int .i64 0, .int .i64 0] 50)); have y6 := ansBlock.new W6 0 0 0 0; have O6 : Off B W5.heap.size W5 (W6.alloc (.cells #[.int .i64 0, .int .i64 0, .int .i64 0, .int .i64 0] 50)) := Off.below (b6.trans ((below1 W6 _).mono b6.size)); have hN6 : W5.heap.size < W6.heap.size := z6.lt; have qB6 := (qB5.next b6).next (below1 W6 (.cells #[.int .i64 0, .int .i64 0, .int .i64 0, .int .i64 0] 50)); clear z6 b6 qB5)
        | (refine q_store (ra := a1') (la := a2') (ws' := ws') _ _ rfl rfl rfl rfl z6' hW' ?_; intro W7 q7 t7; have y7 := y6.turned t7 (by omega); have qB7 := t7.queue qB6 (by omega); have O7 := O6.turn t7 (Nat.le_refl _); obtain ⟨y0, y1, y2, y3⟩ := y7.cells; have yf := y7.free; have q8 := (ans_turned W7 W6.heap.size an.c an.he an.no an.bd).queue q7 (by omega); have qB8 := (ans_turned W7 W6.heap.size an.c an.he an.no an.bd).queue qB7 (by omega); have O8 := O7.turn (ans_turned W7 W6.heap.size an.c an.he an.no an.bd) (by omega); have y8 := y7.store an.c an.he an.no an.bd; clear z6' y6 qB6 t7 q7 qB7 y7 O6 O7)
        | (refine q_loads _ rfl rfl rfl q8 ?_)
        | (refine q_store (ra := a1') (la := a2') (ws' := ws') _ _ rfl rfl rfl rfl qB8 hW' ?_; intro W9 q9 t9; have O9 := O8.self t9; have y9 := y8.turned t9 (by omega); have HQ9 := veil q9; have HO9 := veil O9; have HY9 := veil y9; clear q9 t9 O9 y9 O8 y8 q8 qB8))
      have P9 := (unveil HP5).stored (unveil HO9) (unveil HQ9) r1 r2 l1 l2 n1 n2 hW' (fun x hx => by have := hf1 x hx; omega) (fun x hx => by have := hf2 x hx; omega)
      have hst := unveil HST
      have hss := hst.same
      subst hss
      refine ⟨⟨m + 1, _, _, _, _, _, _, es, ans, by omega, by omega, by go_num, P9, veil ⟨(unveil HH).1, by have := (unveil HH).2.1; omega, fun _ hp => ?_⟩⟩, by simp [intOf]; omega⟩
      rcases Nat.eq_zero_or_pos m with h0 | h0
      · have he : es = [] := List.eq_nil_of_length_eq_zero (by have := (unveil HH).2.1; omega)
        have hz := hist_nil (unveil HH).1 he
        subst hz
        exact absurd hst (fun hst => zero_pub (unveil HV).1.ok ((unveil HV).2 h0 hp) hst)
      · exact (unveil HH).2.2 h0 hp
    | true =>
      have hel : es.length ≤ 60 := by have := (unveil HH).2.1; omega
      have hal : ans.length ≤ 60 := by have := (unveil HH).1.len; omega
      go_wp2_with (first
        | (refine q_alloc 13 rfl rfl rfl ?_; intro W6 z6 b6; have z6' := z6.next (below1 W6 (.cells #[.int .i64 0, .int .i64 0, .int .i64 0, .int .i64 0] 50)); have y6 := ansBlock.new W6 0 0 0 0; have O6 : Off B W5.heap.size W5 (W6.alloc (.cells #[.int .i64 0, .int .i64 0, .int .i64 0, .int .i64 0] 50)) := Off.below (b6.trans ((below1 W6 _).mono b6.size)); have hN6 : W5.heap.size < W6.heap.size := z6.lt; have qB6 := (qB5.next b6).next (below1 W6 (.cells #[.int .i64 0, .int .i64 0, .int .i64 0, .int .i64 0] 50)); clear z6 b6 qB5)
        | (refine q_store (ra := a1') (la := a2') (ws' := ws') _ _ rfl rfl rfl rfl z6' hW' ?_; intro W7 q7 t7; have y7 := y6.turned t7 (by omega); have qB7 := t7.queue qB6 (by omega); have O7 := O6.turn t7 (Nat.le_refl _); obtain ⟨y0, y1, y2, y3⟩ := y7.cells; have yf := y7.free; have q8 := (ans_turned W7 W6.heap.size an.c an.he an.no an.bd).queue q7 (by omega); have qB8 := (ans_turned W7 W6.heap.size an.c an.he an.no an.bd).queue qB7 (by omega); have O8 := O7.turn (ans_turned W7 W6.heap.size an.c an.he an.no an.bd) (by omega); have y8 := y7.store an.c an.he an.no an.bd; clear z6' y6 qB6 t7 q7 qB7 y7 O6 O7)
        | (refine q_loads _ rfl rfl rfl q8 ?_)
        | (refine q_store (ra := a1') (la := a2') (ws' := ws') _ _ rfl rfl rfl rfl qB8 hW' ?_; intro W9 q9 t9; have O9 := O8.self t9; have y9 := y8.turned t9 (by omega); have HQ9 := veil q9; have HO9 := veil O9; have HY9 := veil y9; have P9 := (unveil HP5).stored O9 q9 r1 r2 l1 l2 n1 n2 hW' (fun x hx => by have := hf1 x hx; omega) (fun x hx => by have := hf2 x hx; omega); have HOe := veil (own_still P9.oe (fun g _ hg => (below1 W9 (.cells #[.int .i64 v.k, .int .i64 v.p, .int .i64 v.i, .int .i64 v.b, .int .i64 v.he, .int .i64 v.hn] 61)).block g hg)); have hB9 := q9.lt; have HP9 := veil P9; have e9 : W9.heap[W3.heap.size]? = _ := (O9.block W3.heap.size hE5 (by omega)).trans (unveil HE5); have c0 : W9.cell? ⟨W3.heap.size, 0, none⟩ = some (.int .i64 v.k) := (by simp [World.cell?, e9]); have c1 : W9.cell? ⟨W3.heap.size, 1, none⟩ = some (.int .i64 v.p) := (by simp [World.cell?, e9]); have c2 : W9.cell? ⟨W3.heap.size, 2, none⟩ = some (.int .i64 v.i) := (by simp [World.cell?, e9]); have c3 : W9.cell? ⟨W3.heap.size, 3, none⟩ = some (.int .i64 v.b) := (by simp [World.cell?, e9]); have c4 : W9.cell? ⟨W3.heap.size, 4, none⟩ = some (.int .i64 v.he) := (by simp [World.cell?, e9]); have c5 : W9.cell? ⟨W3.heap.size, 5, none⟩ = some (.int .i64 v.hn) := (by simp [World.cell?, e9]); clear P9 q9 t9 O9 y9 O8 y8 q8 qB8 e9)
        | (at_builtin; refine wpList_append_own _ rfl _ _ 22 rfl (B + 1) 61 i6 _ 6 48 Try.underlying22 hi6 hz60 hz61 hz62 rfl (by decide) (.slice ae es.length ce) es.length ((evFlat es).map (Value.int .i64)) rfl (unveil HOe) ⟨W9.heap.size, 0, none⟩ 1 1 ((evCells v).map (Value.int .i64)) rfl rfl (news6 _ _ _ _ _ _ _ _) (ints_oneCell _ _) (by unfold maxLen; omega) (by omega) (by simp; omega) ?_; intro v' W10 own10 grow10 _; obtain ⟨a', c', rfl⟩ := own_form own10; have P10 := (unveil HP9).event (below1 W9 _) grow10 (fun x hx e => by have := hoe _ e; have := hf1 x hx; omega) (fun x hx e => by have := hoe _ e; have := hf2 x hx; omega) v own10; have y10 : ansBlock W10 W6.heap.size an.c an.he an.no an.bd := (grow10.block W6.heap.size (by have := (unveil HY9).lt; simp; omega) (fun e => own_off (unveil HP9).oe (unveil HY9) (by decide) _ e.symm rfl)).trans (((below1 W9 _).block W6.heap.size (unveil HY9).lt).trans (unveil HY9)); obtain ⟨y0, y1, y2, y3⟩ := y10.cells; have HOa := veil (own_still P10.oa (fun g _ hg => (below1 W10 (.cells #[.int .i64 an.c, .int .i64 an.he, .int .i64 an.no, .int .i64 an.bd] 50)).block g hg)); have hB10 := P10.q.q.lt; have HP10 := veil P10; clear own10 grow10 P10 y10)
        | (at_builtin; refine wpList_append_own _ rfl _ _ 23 rfl (B + 1) 50 i4 _ 4 32 Try.underlying23 hi4 hz40 hz41 hz42 rfl (by decide) (.slice aa ans.length ca) ans.length ((anFlat ans).map (Value.int .i64)) rfl (unveil HOa) ⟨W10.heap.size, 0, none⟩ 1 1 ((anCells an).map (Value.int .i64)) rfl rfl (news4 _ _ _ _ _ _) (ints_oneCell _ _) (by unfold maxLen; omega) (by omega) (by simp; omega) ?_; intro v' W11 own11 grow11 _; obtain ⟨a'', c'', rfl⟩ := own_form own11; have P11 := (unveil HP10).answer (below1 W10 _) grow11 (fun x hx e => by have := hoa _ e; have := hf1 x hx; omega) (fun x hx e => by have := hoa _ e; have := hf2 x hx; omega) an own11; have HP11 := veil P11; clear own11 grow11 P11))
      refine ⟨⟨m + 1, _, _, _, _, _, _, es ++ [v], ans ++ [an], by omega, by omega, by go_num, unveil HP11, veil ⟨.snoc (unveil HH).1 (unveil HV).1 (unveil HST), by have := (unveil HH).2.1; simp; omega, fun _ hp => ⟨by simp, ?_⟩⟩⟩, by simp [intOf]; omega⟩
      have hup := (unveil HST).nx_up
      rcases Nat.eq_zero_or_pos m with h0 | h0
      · have := hup.2 ((unveil HV).2 h0 hp)
        have := (unveil HH).1.wf.ok.count.n0
        omega
      · have := ((unveil HH).2.2 h0 hp).2
        omega
end Go.Proofs.Ytlfecmkpafgcmaa
