/- Clients: what may be, what client's calls answer, in plain words; a client in memory. -/
import Derived.Test.YtjolamdlclcpcaaEvO
import Derived.Deep.DeepCutAuto
namespace Go.Proofs.Ytjolamdlclcpcaa
open Go.RowKit

/-- a client's numbers, what waits, and where queues are. -/
structure Cl where
  p : Int
  n : Int
  es : List Ev
  wh : Nat → Int
def Cl.zero : Cl := ⟨0, 0, [], fun _ => 0⟩
def Ev.nil : Ev := ⟨0, 0, 0, 0, 0, 0⟩
/-- events that a producer may have waiting, of ids that rise from lo on and are below n. -/
def okW (p n : Int) : Int → List Ev → Prop
  | _, [] => True
  | lo, v :: es => eventFault v.k v.p v.i v.b v.he v.hn = 0 ∧ v.k = 1 ∧ v.p = p ∧ lo ≤ v.i ∧ v.i < n ∧ okW p n (v.i + 1) es
def okK (wh : Nat → Int) : Prop := ∀ q, q < 4 → -1 ≤ wh q ∧ wh q ≤ 4
structure Cl.Ok (C : Cl) : Prop where
  p0 : 0 ≤ C.p
  p1 : C.p ≤ 3
  n0 : 0 ≤ C.n
  n1 : C.n ≤ 1073741824
  w : okW C.p C.n (C.n - 8) C.es
  k : okK C.wh
theorem okW_low {p n : Int} : ∀ {es : List Ev} {lo lo' : Int}, lo' ≤ lo → okW p n lo es → okW p n lo' es
  | [], _, _, _, _ => trivial
  | _ :: _, _, _, h, ⟨h0, h1, h2, h3, h4, h5⟩ => ⟨h0, h1, h2, by omega, h4, h5⟩
theorem okW_sub {p n : Int} {es es' : List Ev} (h : es'.Sublist es) : ∀ {lo : Int}, okW p n lo es → okW p n lo es' := by
  induction h with
  | slnil => intro lo _; trivial
  | cons v _ ih => intro lo hw; exact okW_low (by have := hw.2.2.2.1; omega) (ih hw.2.2.2.2.2)
  | cons_cons v _ ih => intro lo hw; exact ⟨hw.1, hw.2.1, hw.2.2.1, hw.2.2.2.1, hw.2.2.2.2.1, ih hw.2.2.2.2.2⟩
theorem okW_mem {p n : Int} : ∀ {es : List Ev} {lo : Int}, okW p n lo es → ∀ v ∈ es, v.Ok ∧ v.k = 1 ∧ v.p = p ∧ lo ≤ v.i ∧ v.i < n
  | [], _, _, v, hv => by cases hv
  | u :: es, lo, ⟨h0, h1, h2, h3, h4, h5⟩, v, hv => by
    rcases List.mem_cons.1 hv with rfl | hv
    · exact ⟨h0, h1, h2, h3, h4⟩
    · obtain ⟨a, b, c, d, e⟩ := okW_mem h5 v hv
      exact ⟨a, b, c, by omega, e⟩
theorem okW_rise {p n : Int} : ∀ {es : List Ev} {lo : Int}, okW p n lo es → es.Pairwise fun u v => u.i < v.i
  | [], _, _ => .nil
  | u :: es, lo, ⟨_, _, _, _, _, h5⟩ => .cons (fun v hv => by have := (okW_mem h5 v hv).2.2.2.1; omega) (okW_rise h5)
theorem okW_len {p n : Int} : ∀ {es : List Ev} {lo : Int}, okW p n lo es → 0 < es.length → (es.length : Int) + lo ≤ n
  | [], _, _, h => absurd h (Nat.lt_irrefl _)
  | [v], lo, ⟨_, _, _, h3, h4, _⟩, _ => by simp only [List.length_cons, List.length_nil]; omega
  | v :: u :: es, lo, ⟨_, _, _, h3, h4, h5⟩, _ => by
    have := okW_len h5 (by simp)
    simp only [List.length_cons] at this ⊢
    omega
theorem okW_snoc {p n : Int} {v : Ev} (h0 : eventFault v.k v.p v.i v.b v.he v.hn = 0) (h1 : v.k = 1) (h2 : v.p = p) (h3 : v.i = n) : ∀ {es : List Ev} {lo : Int}, lo ≤ n → okW p n lo es → okW p (n + 1) lo (es ++ [v])
  | [], lo, hlo, _ => ⟨h0, h1, h2, by omega, by omega, trivial⟩
  | u :: es, lo, hlo, ⟨g0, g1, g2, g3, g4, g5⟩ => ⟨g0, g1, g2, g3, by omega, okW_snoc h0 h1 h2 h3 (by omega) g5⟩
theorem Cl.Ok.len {C : Cl} (h : C.Ok) : C.es.length ≤ 8 := by
  rcases Nat.eq_zero_or_pos C.es.length with h0 | h0
  · omega
  · have := okW_len h.w h0; omega
/-- one place put. -/
def kput (f : Nat → Int) (k : Nat) (x : Int) : Nat → Int := fun q => if q = k then x else f q
/-- what Send answers. -/
def Cl.newEv (C : Cl) (b : Int) : Ev := ⟨1, C.p, C.n, b, 0, 0⟩
def Cl.full (C : Cl) : Prop := C.n = 1073741824 ∨ ∃ v ∈ C.es, v.i + 8 ≤ C.n
inductive SendR (C : Cl) (b : Int) : Cl → Ev → Int → Prop
  | state (h : ¬ C.Ok) : SendR C b Cl.zero Ev.nil 6
  | range (h : C.Ok) (hb : ¬ (0 ≤ b ∧ b ≤ 1000000)) : SendR C b Cl.zero Ev.nil 2
  | full (h : C.Ok) (hb : 0 ≤ b ∧ b ≤ 1000000) (hf : C.full) : SendR C b Cl.zero Ev.nil 14
  | sent (h : C.Ok) (hb : 0 ≤ b ∧ b ≤ 1000000) (hf : ¬ C.full) : SendR C b ⟨C.p, C.n + 1, C.es ++ [C.newEv b], C.wh⟩ (C.newEv b) 0
/-- what Done answers. -/
inductive DoneR (C : Cl) (id : Int) : Cl → Int → Prop
  | state (h : ¬ C.Ok) : DoneR C id Cl.zero 6
  | none (h : C.Ok) (hn : ∀ v ∈ C.es, ¬ v.i = id) : DoneR C id Cl.zero 7
  | done (h : C.Ok) (k : Nat) (hk : k < C.es.length) (hi : C.es[k].i = id) : DoneR C id ⟨C.p, C.n, C.es.eraseIdx k, C.wh⟩ 0
/-- what Learn answers. -/
inductive LearnR (C : Cl) (q nd : Int) : Cl → Int → Prop
  | state (h : ¬ C.Ok) : LearnR C q nd Cl.zero 6
  | range (h : C.Ok) (hq : ¬ ((0 ≤ q ∧ q ≤ 3) ∧ (-1 ≤ nd ∧ nd ≤ 4))) : LearnR C q nd Cl.zero 2
  | learnt (h : C.Ok) (k : Nat) (hk : k < 4) (hq : q = k) (hd : -1 ≤ nd ∧ nd ≤ 4) : LearnR C q nd ⟨C.p, C.n, C.es, kput C.wh k nd⟩ 0
/-- what Ask answers. -/
inductive AskR (C : Cl) (q : Int) : Int → Int → Prop
  | state (h : ¬ C.Ok) : AskR C q 0 6
  | range (h : C.Ok) (hq : ¬ (0 ≤ q ∧ q ≤ 3)) : AskR C q 0 2
  | none (h : C.Ok) (k : Nat) (hk : k < 4) (hq : q = k) (hn : C.wh k = -1) : AskR C q 0 7
  | here (h : C.Ok) (k : Nat) (hk : k < 4) (hq : q = k) (hn : ¬ C.wh k = -1) : AskR C q (C.wh k) 0
/-- two clients are the same, as far as one sees. -/
structure Cl.Same (C D : Cl) : Prop where
  p : C.p = D.p
  n : C.n = D.n
  es : C.es = D.es
  wh : ∀ q, q < 4 → C.wh q = D.wh q
theorem Cl.Same.refl (C : Cl) : C.Same C := ⟨rfl, rfl, rfl, fun _ _ => rfl⟩
theorem SendR.det {C : Cl} {b : Int} {D D' : Cl} {v v' : Ev} {e e' : Int} (h : SendR C b D v e) (h' : SendR C b D' v' e') : D.Same D' ∧ v = v' ∧ e = e' := by
  cases h <;> cases h' <;> first | exact ⟨Cl.Same.refl _, rfl, rfl⟩ | contradiction
theorem rise_at {es : List Ev} (h : es.Pairwise fun u v => u.i < v.i) {j k : Nat} (hj : j < es.length) (hk : k < es.length) (he : es[j].i = es[k].i) : j = k := by
  rw [List.pairwise_iff_getElem] at h
  rcases Nat.lt_trichotomy j k with h1 | h1 | h1
  · have := h j k hj hk h1; omega
  · exact h1
  · have := h k j hk hj h1; omega
theorem DoneR.det {C : Cl} {id : Int} {D D' : Cl} {e e' : Int} (h : DoneR C id D e) (h' : DoneR C id D' e') : D.Same D' ∧ e = e' := by
  cases h with
  | state h => cases h' <;> first | exact ⟨Cl.Same.refl _, rfl⟩ | contradiction
  | none h hn => cases h' with
    | state => contradiction
    | none => exact ⟨Cl.Same.refl _, rfl⟩
    | done _ k hk hi => exact absurd hi (hn _ (List.getElem_mem hk))
  | done h k hk hi => cases h' with
    | state => contradiction
    | none _ hn => exact absurd hi (hn _ (List.getElem_mem hk))
    | done _ k' hk' hi' =>
      obtain rfl := rise_at (okW_rise h.w) hk hk' (hi.trans hi'.symm)
      exact ⟨Cl.Same.refl _, rfl⟩
theorem LearnR.det {C : Cl} {q nd : Int} {D D' : Cl} {e e' : Int} (h : LearnR C q nd D e) (h' : LearnR C q nd D' e') : D.Same D' ∧ e = e' := by
  cases h with
  | state h => cases h' <;> first | exact ⟨Cl.Same.refl _, rfl⟩ | contradiction
  | range h hq => cases h' with
    | state => contradiction
    | range => exact ⟨Cl.Same.refl _, rfl⟩
    | learnt _ k hk hq' hd => exact absurd ⟨by omega, hd⟩ hq
  | learnt h k hk hq hd => cases h' with
    | state => contradiction
    | range _ hq' => exact absurd ⟨by omega, hd⟩ hq'
    | learnt _ k' hk' hq' _ =>
      obtain rfl : k = k' := by omega
      exact ⟨Cl.Same.refl _, rfl⟩
theorem AskR.det {C : Cl} {q x x' e e' : Int} (h : AskR C q x e) (h' : AskR C q x' e') : x = x' ∧ e = e' := by
  cases h with
  | state h => cases h' <;> first | exact ⟨rfl, rfl⟩ | contradiction
  | range h hq => cases h' with
    | state => contradiction
    | range => exact ⟨rfl, rfl⟩
    | none _ k hk hq' => omega
    | here _ k hk hq' => omega
  | none h k hk hq hn => cases h' with
    | state => contradiction
    | range => omega
    | none => exact ⟨rfl, rfl⟩
    | here _ k' hk' hq' hn' =>
      obtain rfl : k = k' := by omega
      contradiction
  | here h k hk hq hn => cases h' with
    | state => contradiction
    | range => omega
    | none _ k' hk' hq' hn' =>
      obtain rfl : k = k' := by omega
      contradiction
    | here _ k' hk' hq' =>
      obtain rfl : k = k' := by omega
      exact ⟨rfl, rfl⟩
/-- a client in memory. -/
abbrev cCells (p n : Int) (a : Option Addr) (m c : Nat) (wh : Nat → Int) : Array Value := #[.int .i64 p, .int .i64 n, .slice a m c, .int .i64 (wh 0), .int .i64 (wh 1), .int .i64 (wh 2), .int .i64 (wh 3)]
abbrev cVal (p n : Int) (a : Option Addr) (m c : Nat) (wh : Nat → Int) : Value := .agg (cCells p n a m c wh)
def cBlock (w : World) (R : Nat) (p n : Int) (a : Option Addr) (m c : Nat) (wh : Nat → Int) : Prop := w.heap[R]? = some (.cells (cCells p n a m c wh) 25 (0, 0))
section
variable {w w' : World} {R : Nat} {p n : Int} {a : Option Addr} {m c : Nat} {wh : Nat → Int}
theorem cBlock.cells (h : cBlock w R p n a m c wh) : w.cell? ⟨R, 0, none⟩ = some (.int .i64 p) ∧ w.cell? ⟨R, 1, none⟩ = some (.int .i64 n) ∧ w.cell? ⟨R, 2, none⟩ = some (.slice a m c) ∧ w.cell? ⟨R, 3, none⟩ = some (.int .i64 (wh 0)) ∧ w.cell? ⟨R, 4, none⟩ = some (.int .i64 (wh 1)) ∧ w.cell? ⟨R, 5, none⟩ = some (.int .i64 (wh 2)) ∧ w.cell? ⟨R, 6, none⟩ = some (.int .i64 (wh 3)) := by
  unfold cBlock at h; simp [World.cell?, h]
theorem below4c {P : Nat → Prop} (h0 : P 0) (h1 : P 1) (h2 : P 2) (h3 : P 3) : ∀ i, i < 4 → P i
  | 0, _ => h0
  | 1, _ => h1
  | 2, _ => h2
  | 3, _ => h3
  | n + 4, h => absurd h (by omega)
theorem cBlock.at (h : cBlock w R p n a m c wh) : ∀ k, k < 4 → w.cell? ⟨R, 3 + k, none⟩ = some (.int .i64 (wh k)) := by
  obtain ⟨_, _, _, h3, h4, h5, h6⟩ := h.cells
  exact below4c h3 h4 h5 h6
theorem cBlock.lt (h : cBlock w R p n a m c wh) : R < w.heap.size := by
  unfold cBlock at h
  rcases Nat.lt_or_ge R w.heap.size with h' | h'
  · exact h'
  · simp [Array.getElem?_eq_none h'] at h
theorem cBlock.below {N : Nat} (h : cBlock w R p n a m c wh) (hb : Below N w w') (hR : R < N) : cBlock w' R p n a m c wh := by
  unfold cBlock at h ⊢; rw [← h]; exact hb.block R hR
theorem cBlock.next (h : cBlock w R p n a m c wh) (hb : Below w.heap.size w w') : cBlock w' R p n a m c wh := h.below hb h.lt
theorem cBlock.free (h : cBlock w R p n a m c wh) (k : Nat) : w.frozen? ⟨R, k, none⟩ = false := by
  unfold cBlock at h; simp [World.frozen?, h]
theorem cBlock.turned {R' : Nat} (h : cBlock w R p n a m c wh) (tn : Turned R' w w') (hR : R ≠ R') : cBlock w' R p n a m c wh := by
  unfold cBlock at h ⊢; rw [tn.block R hR]; exact h
theorem cBlock.new (w : World) (p n : Int) (a : Option Addr) (m c : Nat) (wh : Nat → Int) : cBlock (w.alloc (.cells (cCells p n a m c wh) 25)) w.heap.size p n a m c wh := heap_alloc_new w _
theorem heap_setC {k : Nat} {cs : Array Value} {T : TypeId} {v : Value} (h : w.heap[R]? = some (.cells cs T (0, 0))) : (w.setCell ⟨R, k, none⟩ v).heap[R]? = some (.cells (cs.set! k v) T (0, 0)) := by
  rw [setCell_eq_setRow w R k _ _ (0, 0) _ h, setRow_heap w R _ _ _ _ h]
  rfl
/-- a client stored whole. -/
abbrev cStore (w : World) (R : Nat) (p n : Int) (a : Option Addr) (m c : Nat) (wh : Nat → Int) : World := ((((((w.setCell ⟨R, 0, none⟩ (.int .i64 p)).setCell ⟨R, 1, none⟩ (.int .i64 n)).setCell ⟨R, 2, none⟩ (.slice a m c)).setCell ⟨R, 3, none⟩ (.int .i64 (wh 0))).setCell ⟨R, 4, none⟩ (.int .i64 (wh 1))).setCell ⟨R, 5, none⟩ (.int .i64 (wh 2))).setCell ⟨R, 6, none⟩ (.int .i64 (wh 3))
theorem cBlock.store (h : cBlock w R p n a m c wh) (p' n' : Int) (a' : Option Addr) (m' c' : Nat) (wh' : Nat → Int) : cBlock (cStore w R p' n' a' m' c' wh') R p' n' a' m' c' wh' := by
  unfold cBlock at h ⊢
  rw [heap_setC (heap_setC (heap_setC (heap_setC (heap_setC (heap_setC (heap_setC h))))))]
  simp
theorem cBlock.turn (w : World) (R : Nat) (p n : Int) (a : Option Addr) (m c : Nat) (wh : Nat → Int) : Turned R w (cStore w R p n a m c wh) :=
  ((((((Turned.set R 0 w _).trans (Turned.set R 1 _ _)).trans (Turned.set R 2 _ _)).trans (Turned.set R 3 _ _)).trans (Turned.set R 4 _ _)).trans (Turned.set R 5 _ _)).trans (Turned.set R 6 _ _)
theorem cBlock.next' (h : cBlock w R p n a m c wh) (n' : Int) : cBlock (w.setCell ⟨R, 1, none⟩ (.int .i64 n')) R p n' a m c wh := by
  unfold cBlock at h ⊢
  rw [heap_setC h]
  simp
theorem cBlock.wait (h : cBlock w R p n a m c wh) (a' : Option Addr) (m' c' : Nat) : cBlock (w.setCell ⟨R, 2, none⟩ (.slice a' m' c')) R p n a' m' c' wh := by
  unfold cBlock at h ⊢
  rw [heap_setC h]
  simp
theorem cBlock.put (h : cBlock w R p n a m c wh) (k : Nat) (hk : k < 4) (x : Int) : cBlock (w.setCell ⟨R, 3 + k, none⟩ (.int .i64 x)) R p n a m c (kput wh k x) := by
  unfold cBlock at h ⊢
  rw [heap_setC h]
  have : ∀ k, k < 4 → (cCells p n a m c wh).set! (3 + k) (.int .i64 x) = cCells p n a m c (kput wh k x) := by
    refine below4c ?_ ?_ ?_ ?_ <;> simp [kput]
  rw [this k hk]
theorem load_client (d : cBlock w R p n a m c wh) : (loadVar 25 ⟨R, 0, none⟩).run Try.prog w = .ok (cVal p n a m c wh) w :=
  run_loadVar_row (P := Try.prog) w R 25 25 _ (0, 0) _ d Try.underlying25 rfl (by kernel_rfl)
end
/-- an event in a box. -/
theorem ev_cells {W : World} {R : Nat} {k p i b he hn : Int} (h : W.heap[R]? = some (.cells #[.int .i64 k, .int .i64 p, .int .i64 i, .int .i64 b, .int .i64 he, .int .i64 hn] 37 (0, 0))) :
    W.cell? ⟨R, 0, none⟩ = some (.int .i64 k) ∧ W.cell? ⟨R, 1, none⟩ = some (.int .i64 p) ∧ W.cell? ⟨R, 2, none⟩ = some (.int .i64 i) ∧ W.cell? ⟨R, 3, none⟩ = some (.int .i64 b) ∧ W.cell? ⟨R, 4, none⟩ = some (.int .i64 he) ∧ W.cell? ⟨R, 5, none⟩ = some (.int .i64 hn) := by
  simp [World.cell?, h]
/-- a client that came in: what waits. -/
structure CIn (w : World) (C : Cl) (a : Option Addr) (c : Nat) : Prop where
  row : RowK .i64 w a (6 * C.es.length) (evFlat C.es)
  cap : C.es.length ≤ c
  nil : a = none → c = 0
  big : C.es.length * 48 ≤ 140737488351232
theorem CIn.next {w w' : World} {C : Cl} {a : Option Addr} {c : Nat} (h : CIn w C a c) (b : Below w.heap.size w w') : CIn w' C a c := ⟨h.row.below b, h.cap, h.nil, h.big⟩
theorem c_stored {w wx : World} {R N : Nat} {p n : Int} {a : Option Addr} {m c : Nat} {wh : Nat → Int} (h : cBlock wx R p n a m c wh) (bel : Below N w wx) (hN : N ≤ R) (p' n' : Int) (a' : Option Addr) (m' c' : Nat) (wh' : Nat → Int) :
    ∃ W, W = ((((((wx.setCell ⟨R, 0, none⟩ (.int .i64 p')).setCell ⟨R, 1, none⟩ (.int .i64 n')).setCell ⟨R, 2, none⟩ (.slice a' m' c')).setCell ⟨R, 3, none⟩ (.int .i64 (wh' 0))).setCell ⟨R, 4, none⟩ (.int .i64 (wh' 1))).setCell ⟨R, 5, none⟩ (.int .i64 (wh' 2))).setCell ⟨R, 6, none⟩ (.int .i64 (wh' 3)) ∧ cBlock W R p' n' a' m' c' wh' ∧ Below N w W ∧ Turned R wx W :=
  ⟨_, rfl, h.store _ _ _ _ _ _, (cBlock.turn _ _ _ _ _ _ _ _).under bel hN, cBlock.turn _ _ _ _ _ _ _ _⟩
/-- an event in memory. -/
def eBlock (w : World) (R : Nat) (v : Ev) : Prop := w.heap[R]? = some (.cells #[.int .i64 v.k, .int .i64 v.p, .int .i64 v.i, .int .i64 v.b, .int .i64 v.he, .int .i64 v.hn] 37 (0, 0))
theorem eBlock.lt {w : World} {R : Nat} {v : Ev} (h : eBlock w R v) : R < w.heap.size := block_lt h
theorem eBlock.next {w w' : World} {R : Nat} {v : Ev} (h : eBlock w R v) (b : Below w.heap.size w w') : eBlock w' R v := (b.block R h.lt).trans h
theorem eBlock.turned {w w' : World} {R R' : Nat} {v : Ev} (h : eBlock w R v) (t : Turned R' w w') (hR : R ≠ R') : eBlock w' R v := (t.block R hR).trans h
theorem eBlock.free {w : World} {R : Nat} {v : Ev} (h : eBlock w R v) (o : Nat) : w.frozen? ⟨R, o, none⟩ = false := by
  unfold eBlock at h; simp [World.frozen?, h]
theorem eBlock.cells {W : World} {R : Nat} {v : Ev} (h : eBlock W R v) : W.cell? ⟨R, 0, none⟩ = some (.int .i64 v.k) ∧ W.cell? ⟨R, 1, none⟩ = some (.int .i64 v.p) ∧ W.cell? ⟨R, 2, none⟩ = some (.int .i64 v.i) ∧ W.cell? ⟨R, 3, none⟩ = some (.int .i64 v.b) ∧ W.cell? ⟨R, 4, none⟩ = some (.int .i64 v.he) ∧ W.cell? ⟨R, 5, none⟩ = some (.int .i64 v.hn) := ev_cells h
theorem load_event {w : World} {R : Nat} {v : Ev} (d : eBlock w R v) : (loadVar 37 ⟨R, 0, none⟩).run Try.prog w = .ok (evIn v) w :=
  run_loadVar_row (P := Try.prog) w R 37 37 _ (0, 0) _ d Try.underlying37 rfl (by kernel_rfl)
theorem e_stored {w wx : World} {R N : Nat} {v : Ev} (h : eBlock wx R v) (bel : Below N w wx) (hN : N ≤ R) (k p i b he hn : Int) :
    ∃ W, W = (((((wx.setCell ⟨R, 0, none⟩ (.int .i64 k)).setCell ⟨R, 1, none⟩ (.int .i64 p)).setCell ⟨R, 2, none⟩ (.int .i64 i)).setCell ⟨R, 3, none⟩ (.int .i64 b)).setCell ⟨R, 4, none⟩ (.int .i64 he)).setCell ⟨R, 5, none⟩ (.int .i64 hn) ∧ eBlock W R ⟨k, p, i, b, he, hn⟩ ∧ Below N w W ∧ Turned R wx W := by
  have tn : Turned R wx ((((((wx.setCell ⟨R, 0, none⟩ (.int .i64 k)).setCell ⟨R, 1, none⟩ (.int .i64 p)).setCell ⟨R, 2, none⟩ (.int .i64 i)).setCell ⟨R, 3, none⟩ (.int .i64 b)).setCell ⟨R, 4, none⟩ (.int .i64 he)).setCell ⟨R, 5, none⟩ (.int .i64 hn)) :=
    (((((Turned.set R 0 wx _).trans (Turned.set R 1 _ _)).trans (Turned.set R 2 _ _)).trans (Turned.set R 3 _ _)).trans (Turned.set R 4 _ _)).trans (Turned.set R 5 _ _)
  refine ⟨_, rfl, ?_, tn.under bel hN, tn⟩
  unfold eBlock at h ⊢
  rw [heap_setC (heap_setC (heap_setC (heap_setC (heap_setC (heap_setC h)))))]
  simp
/-- a client that is answered. -/
structure COut (w w' : World) (C : Cl) (x : Value) : Prop where
  ex : ∃ a c, x = cVal C.p C.n a C.es.length c C.wh ∧ CIn w' C a c ∧ (∀ x, a = some x → w.heap.size ≤ x.block)
theorem COut.zero (w w' : World) : COut w w' Cl.zero (cVal 0 0 none 0 0 (fun _ => 0)) := ⟨none, 0, rfl, ⟨RowK.nil _ _ _, Nat.le_refl _, fun _ => rfl, by simp [Cl.zero]⟩, fun x hx => by cases hx⟩
end Go.Proofs.Ytjolamdlclcpcaa
