/- Deeds, events and answers in boxes; Serve where nobody is served. -/
import Derived.Test.YtdenfhnbhmdbnaaBkAll
namespace Go.Proofs.Ytdenfhnbhmdbnaa
open Go.RowKit

/-- a deed in a box. -/
def Db (w : World) (R : Nat) (x0 x1 x2 x3 : Int) : Prop := w.heap[R]? = some (.cells #[.int .i64 x0, .int .i64 x1, .int .i64 x2, .int .i64 x3] 24 (0, 0))
theorem Db.lt {w : World} {R : Nat} {x0 x1 x2 x3 : Int} (h : Db w R x0 x1 x2 x3) : R < w.heap.size := block_lt h
theorem Db.next {w w' : World} {R : Nat} {x0 x1 x2 x3 : Int} (h : Db w R x0 x1 x2 x3) (b : Below w.heap.size w w') : Db w' R x0 x1 x2 x3 := (b.block R h.lt).trans h
theorem Db.turned {w w' : World} {R R' : Nat} {x0 x1 x2 x3 : Int} (h : Db w R x0 x1 x2 x3) (t : Turned R' w w') (hR : R ≠ R') : Db w' R x0 x1 x2 x3 := (t.block R hR).trans h
theorem Db.cells {w : World} {R : Nat} {x0 x1 x2 x3 : Int} (h : Db w R x0 x1 x2 x3) : w.cell? ⟨R, 0, none⟩ = some (.int .i64 x0) ∧ w.cell? ⟨R, 1, none⟩ = some (.int .i64 x1) ∧ w.cell? ⟨R, 2, none⟩ = some (.int .i64 x2) ∧ w.cell? ⟨R, 3, none⟩ = some (.int .i64 x3) := by
  unfold Db at h; simp [World.cell?, h]
/-- an event in a box. -/
def Eb (w : World) (R : Nat) (v : Ev) : Prop := w.heap[R]? = some (.cells #[.int .i64 v.k, .int .i64 v.p, .int .i64 v.i, .int .i64 v.b, .int .i64 v.he, .int .i64 v.hn] 37 (0, 0))
theorem Eb.lt {w : World} {R : Nat} {v : Ev} (h : Eb w R v) : R < w.heap.size := block_lt h
theorem Eb.next {w w' : World} {R : Nat} {v : Ev} (h : Eb w R v) (b : Below w.heap.size w w') : Eb w' R v := (b.block R h.lt).trans h
theorem Eb.cells {w : World} {R : Nat} {v : Ev} (h : Eb w R v) : w.cell? ⟨R, 0, none⟩ = some (.int .i64 v.k) ∧ w.cell? ⟨R, 1, none⟩ = some (.int .i64 v.p) ∧ w.cell? ⟨R, 2, none⟩ = some (.int .i64 v.i) ∧ w.cell? ⟨R, 3, none⟩ = some (.int .i64 v.b) ∧ w.cell? ⟨R, 4, none⟩ = some (.int .i64 v.he) ∧ w.cell? ⟨R, 5, none⟩ = some (.int .i64 v.hn) := by
  unfold Eb at h; simp [World.cell?, h]
theorem Eb.free {w : World} {R : Nat} {v : Ev} (h : Eb w R v) (o : Nat) : w.frozen? ⟨R, o, none⟩ = false := by
  unfold Eb at h; simp [World.frozen?, h]
theorem Eb.new (w : World) (v : Ev) : ∃ W, W = w.alloc (.cells #[.int .i64 v.k, .int .i64 v.p, .int .i64 v.i, .int .i64 v.b, .int .i64 v.he, .int .i64 v.hn] 37) ∧ Eb W w.heap.size v ∧ Below w.heap.size w W := ⟨_, rfl, heap_alloc_new _ _, below1 _ _⟩
/-- an event stored into a box. -/
theorem Eb.put {w : World} {R : Nat} {v : Ev} (h : Eb w R v) (u : Ev) : ∃ W, W = (((((w.setCell ⟨R, 0, none⟩ (.int .i64 u.k)).setCell ⟨R, 1, none⟩ (.int .i64 u.p)).setCell ⟨R, 2, none⟩ (.int .i64 u.i)).setCell ⟨R, 3, none⟩ (.int .i64 u.b)).setCell ⟨R, 4, none⟩ (.int .i64 u.he)).setCell ⟨R, 5, none⟩ (.int .i64 u.hn) ∧ Eb W R u ∧ Turned R w W := by
  refine ⟨_, rfl, ?_, (((((Turned.set R 0 w _).trans (Turned.set R 1 _ _)).trans (Turned.set R 2 _ _)).trans (Turned.set R 3 _ _)).trans (Turned.set R 4 _ _)).trans (Turned.set R 5 _ _)⟩
  unfold Eb at h ⊢
  rw [heap_setB (heap_setB (heap_setB (heap_setB (heap_setB (heap_setB h)))))]
  simp
theorem ev_wf {v : Ev} (hv : v.Ok) : ∀ u ∈ evCells v, (Lit.int .i64 u).wf = true := fun u hu => evFlat_wf (es := [v]) (fun x hx => by rw [List.mem_singleton.1 hx]; exact hv) u (by simpa [evFlat] using hu)
/-- Serve at a sealed berth, and at none. -/
theorem serve_still (B : Bt) (a : Option Addr) (c : Nat) (v : Ev) (cd : Int) (w : World) (hb : BIn w B a c) (ok : B.Ok) (hr : (B.r = 3 ∧ cd = 12) ∨ (B.r = 0 ∧ cd = 7)) (hv : v.Ok) (hk : ¬ v.k = 4) :
    Calls Try.prog 20 #[bVal B.r B.e B.f B.t B.o a B.es.length c, evIn v] w fun x w' => ∃ a' c', x = .returned (.tuple #[bVal B.r B.e B.f B.t B.o a' B.es.length c', ansVal cd 0 0 0, .bool false, .int .i64 0]) ∧ BIn w' B a' c' ∧ (∀ x, a' = some x → w.heap.size ≤ x.block) ∧ Below w.heap.size w w' := by
  refine (serve_any B a c v w hb (ev_wf hv)).mono ?_
  rintro x w' ⟨y, an, ch, er, B', rfl, sr, ⟨⟨a', c', rfl, i, u⟩⟩, b⟩
  cases sr with
  | state h => exact absurd ok h
  | fault _ f hf h0 => exact absurd (hf.symm.trans hv) h0
  | brk _ _ h => exact absurd h hk
  | shut _ _ _ h =>
    obtain rfl : cd = 12 := by omega
    exact ⟨a', c', rfl, i, u, b⟩
  | none _ _ _ h =>
    obtain rfl : cd = 7 := by omega
    exact ⟨a', c', rfl, i, u, b⟩
  | same _ _ _ h => omega
  | full _ _ _ h => omega
  | done _ _ _ h => omega
/-- a berth and an answer, in new boxes. -/
theorem Kb.new2 {w w1 w2 : World} {B : Bt} {a : Option Addr} {c : Nat} (cc he no bd : Int) (i : BIn w2 B a c) (b0 : Below w.heap.size w w1) (b : Below w1.heap.size w1 w2) :
    ∃ W, W = (w2.alloc (.cells (bCells B.r B.e B.f B.t B.o a B.es.length c) 27)).alloc (.cells #[.int .i64 cc, .int .i64 he, .int .i64 no, .int .i64 bd] 50) ∧ Kb w W w2.heap.size B a c ∧ ansBlock W (w2.heap.size + 1) cc he no bd ∧ Below w2.heap.size w2 W := by
  obtain ⟨W1, hW1, K1, d1⟩ := Kb.new i b0 b
  have hs : W1.heap.size = w2.heap.size + 1 := by rw [hW1]; simp
  have hA := ansBlock.new W1 cc he no bd
  rw [hs] at hA
  rw [← hW1]
  exact ⟨_, rfl, K1.next (below1 _ _), hA, Below.next d1 (below1 _ _)⟩
theorem event_at (x0 x1 x2 x3 : Int) (hw : ∀ z ∈ [x0, x1, x2, x3], (Lit.int .i64 z).wf = true) (w : World) : Calls Try.prog 17 #[.agg #[.int .i64 x0, .int .i64 x1, .int .i64 x2, .int .i64 x3]] w fun e w' => e = .returned (evIn (deedEv x0 x1 x2 x3)) ∧ Below w.heap.size w w' :=
  event_ev x0 x1 x2 x3 w (hw _ (by simp)) (hw _ (by simp)) (hw _ (by simp)) (hw _ (by simp))
end Go.Proofs.Ytdenfhnbhmdbnaa
