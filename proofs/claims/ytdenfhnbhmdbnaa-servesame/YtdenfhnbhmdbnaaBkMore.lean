/- Texts put together: HsF, HsG, BkE, BkI. -/
import Derived.Test.YtdenfhnbhmdbnaaQkF
import Derived.Deep.QuietTactic
import Derived.BigQuiet
import Derived.Deep.CutRange
import Derived.Test.YtdenfhnbhmdbnaaBkAll
namespace Go.Proofs.Ytdenfhnbhmdbnaa
open Go.RowKit

theorem Wins.same {ws vs : Nat → Value} {wt : Nat → Int} {wz : Nat → Nat → Bool} (h : Wins ws wt wz) (g : Wins vs wt wz) : wsList ws = wsList vs := by
  apply List.ext_getElem (by rw [wsList_len, wsList_len])
  intro i h1 h2
  rw [wsList_len] at h1
  have e : ∀ p, p < 4 → ∀ j, j < 9 → ws (9 * p + j) = vs (9 * p + j) := by
    intro p hp j hj
    obtain ⟨a, b⟩ := h p hp
    obtain ⟨c, d⟩ := g p hp
    rcases Nat.eq_zero_or_pos j with rfl | h0
    · rw [Nat.add_zero, a, c]
    · have b' := b (j - 1) (by omega)
      have d' := d (j - 1) (by omega)
      rw [show 9 * p + 1 + (j - 1) = 9 * p + j by omega] at b' d'
      rw [b', d']
  have := e (i / 9) (by omega) (i % 9) (by omega)
  rw [show 9 * (i / 9) + i % 9 = i by omega] at this
  have ea := wsList_get ws i h1
  have eb := wsList_get vs i h1
  rw [List.getElem?_eq_getElem (by rw [wsList_len]; exact h1)] at ea eb
  rw [Option.some.inj ea, Option.some.inj eb, this]
set_option maxRecDepth 20000 in
theorem run_equal_win (d : Nat) (t : Int) (s : Nat → Bool) (w : World) : (Op.equalIn (d + 1 + 1 + 1) 43 (winVal t s) (winVal t s)).run Try.prog w = .ok true w := by
  have hs := fun w => run_equal_seen_at d (s 0) (s 1) (s 2) (s 3) (s 4) (s 5) (s 6) (s 7) (s 0) (s 1) (s 2) (s 3) (s 4) (s 5) (s 6) (s 7) w
  simp only [beq_self_eq_true, Bool.and_self] at hs
  rw [run_equalIn_agg (P := Try.prog) w (d + 1 + 1) 43 _ _ Try.underlying43 (by kernel_rfl)]
  simp [go_sem, hs]
set_option maxRecDepth 20000 in
set_option maxHeartbeats 1000000 in
theorem run_equal_wins (d : Nat) {ws : Nat → Value} {wt : Nat → Int} {wz : Nat → Nat → Bool} (h : Wins ws wt wz) (w : World) : (Op.equalIn (d + 1 + 1 + 1 + 1) 44 (.agg (wsList ws).toArray) (.agg (wsList ws).toArray)).run Try.prog w = .ok true w := by
  have hp : ∀ p, p < 4 → ∀ w, (Op.equalIn (d + 1 + 1 + 1) 43 (.agg #[ws (9 * p), ws (9 * p + 1 + 0), ws (9 * p + 1 + 1), ws (9 * p + 1 + 2), ws (9 * p + 1 + 3), ws (9 * p + 1 + 4), ws (9 * p + 1 + 5), ws (9 * p + 1 + 6), ws (9 * p + 1 + 7)]) (.agg #[ws (9 * p), ws (9 * p + 1 + 0), ws (9 * p + 1 + 1), ws (9 * p + 1 + 2), ws (9 * p + 1 + 3), ws (9 * p + 1 + 4), ws (9 * p + 1 + 5), ws (9 * p + 1 + 6), ws (9 * p + 1 + 7)])).run Try.prog w = .ok true w := fun p hp w => by
    rw [h.nine p hp]
    exact run_equal_win d _ _ w
  have h0 := hp 0 (by omega)
  have h1 := hp 1 (by omega)
  have h2 := hp 2 (by omega)
  have h3 := hp 3 (by omega)
  simp only [Nat.mul_zero, Nat.zero_add, Nat.mul_one, Nat.reduceMul, Nat.reduceAdd, Nat.add_zero] at h0 h1 h2 h3
  rw [Op.equalIn]
  generalize d + 1 + 1 + 1 = dd at h0 h1 h2 h3 ⊢
  simp only [Sem.run_bind, run_underlying Try.underlying44, Result.andThen_ok]
  simp [go_sem, List.range', wsList, h0, h1, h2, h3]
end Go.Proofs.Ytdenfhnbhmdbnaa

namespace Go.Proofs.Ytdenfhnbhmdbnaa
open Go.RowKit

/-- the two boxes of sameQueue. -/
structure Sq (w wr : World) (V : Nat) (s : St) (a1 : Option Addr) (c1 : Nat) (a2 : Option Addr) (c2 : Nat) (ws : Nat → Value) (b1 : Option Addr) (d1 : Nat) (b2 : Option Addr) (d2 : Nat) (vs : Nat → Value) : Prop where
  q : qBlock wr w.heap.size s.ep s.nx s.gv (.slice a1 s.rn c1) (.slice a2 s.ln c2) ws
  v : qBlock wr V s.ep s.nx s.gv (.slice b1 s.rn d1) (.slice b2 s.ln d2) vs
  bel : Below w.heap.size w wr
theorem Sq.next {w wr wx : World} {V : Nat} {s : St} {a1 : Option Addr} {c1 : Nat} {a2 : Option Addr} {c2 : Nat} {ws : Nat → Value} {b1 : Option Addr} {d1 : Nat} {b2 : Option Addr} {d2 : Nat} {vs : Nat → Value} (h : Sq w wr V s a1 c1 a2 c2 ws b1 d1 b2 d2 vs) (b : Below wr.heap.size wr wx) : Sq w wx V s a1 c1 a2 c2 ws b1 d1 b2 d2 vs := ⟨h.q.next b, h.v.next b, Below.next h.bel b⟩
set_option maxRecDepth 20000 in
set_option maxHeartbeats 4000000 in
theorem sameQueue_yes (s : St) (a1 : Option Addr) (c1 : Nat) (a2 : Option Addr) (c2 : Nat) (ws : Nat → Value) (b1 : Option Addr) (d1 : Nat) (b2 : Option Addr) (d2 : Nat) (vs : Nat → Value) (w : World)
    (r1 : RowK .i64 w a1 (2 * s.rn) s.R) (r2 : RowK .i64 w a2 (4 * s.ln) s.L) (t1 : RowK .i64 w b1 (2 * s.rn) s.R) (t2 : RowK .i64 w b2 (4 * s.ln) s.L) (hW : Wins ws s.wt s.wz) (hV : Wins vs s.wt s.wz) (hsz : s.rn + s.ln ≤ 500) :
    Calls Try.prog 21 #[qVal s.ep s.nx s.gv (.slice a1 s.rn c1) (.slice a2 s.ln c2) ws, qVal s.ep s.nx s.gv (.slice b1 s.rn d1) (.slice b2 s.ln d2) vs] w fun e w' => e = .returned (.bool true) ∧ Below w.heap.size w w' := by
  have hq := fun w => run_equal_wins 9996 hW w
  have ew := hV.same hW
  have hszr : s.rn ≤ 500 := by omega
  have hszl : s.ln ≤ 500 := by omega
  go_enter Try.func21, Try.ntmps21
  go_upto_region 1 with (first
    | (refine q_box 2 _ rfl rfl rfl rfl ?_; intro W1 q1 b1')
    | (refine q_box 3 _ rfl rfl rfl rfl ?_; intro W2 q2 b2'))
  have S2 : Sq w W2 W1.heap.size s a1 c1 a2 c2 ws b1 d1 b2 d2 vs := ⟨q1.next b2', q2, Below.next b1' b2'⟩
  obtain ⟨V, hV1⟩ : ∃ V, V = W1.heap.size := ⟨_, rfl⟩
  rw [← hV1] at S2 ⊢
  clear q1 q2 b1' b2' hV1
  obtain ⟨g0, g1, g2, g3, g4⟩ := S2.q.heads
  obtain ⟨u0, u1, u2, u3, u4⟩ := S2.v.heads
  have qa := S2.q
  have qb := S2.v
  have HS2 := veil S2
  clear S2
  go_upto_region 4 with (first
    | (refine q_wins _ rfl rfl rfl qa ?_)
    | (refine q_wins _ rfl rfl rfl qb ?_; rw [ew]))
  clear g0 g1 g2 g3 g4 u0 u1 u2 u3 u4 qa qb hq ew
  go_loopw [5] (fun i wr => ∃ m : Nat, m ≤ s.rn ∧ i = .int .i64 m ∧ Hid (Sq w wr V s a1 c1 a2 c2 ws b1 d1 b2 d2 vs)) (fun i _ => s.rn - (intOf i).toNat)
  case atStart => exact ⟨0, Nat.zero_le _, rfl, HS2⟩
  case round =>
    obtain ⟨m, hm, rfl, HM⟩ := hrel
    clear HS2
    have S := unveil HM
    obtain ⟨g0, g1, g2, g3, g4⟩ := S.q.heads
    obtain ⟨u0, u1, u2, u3, u4⟩ := S.v.heads
    by_cases hlt : m < s.rn
    · have ra := r1.below S.bel
      have rb := t1.below S.bel
      obtain ⟨g, off, rfl⟩ := r1.form (by omega)
      obtain ⟨g', off', rfl⟩ := t1.form (by omega)
      have x0 := ra.at (2 * m) (by omega)
      have x1 := ra.at (2 * m + 1) (by omega)
      have y0 := rb.at (2 * m) (by omega)
      have y1 := rb.at (2 * m + 1) (by omega)
      rw [Nat.mul_comm 2 m, ← Nat.add_assoc] at x1 y1
      rw [Nat.mul_comm 2 m] at x0 y0
      generalize s.R.getD (m * 2) 0 = p0 at x0 y0
      generalize s.R.getD (m * 2 + 1) 0 = p1 at x1 y1
      clear S ra rb
      go_wp2_with fail
      go_quiet (fail)
      go_wp2
      go_roundw
      case rel => exact ⟨m + 1, by omega, by go_num, veil ((unveil HM).next (belowN _ _))⟩
      case measure => simp [intOf]; omega
    · obtain rfl : m = s.rn := by omega
      clear S
      go_upto_region 9 with fail
      clear g0 g1 g2 g3 g4 u0 u1 u2 u3 u4
      go_loopw [6] (fun i wx => ∃ m : Nat, m ≤ s.ln ∧ i = .int .i64 m ∧ Hid (Sq w wx V s a1 c1 a2 c2 ws b1 d1 b2 d2 vs)) (fun i _ => s.ln - (intOf i).toNat)
      case atStart => exact ⟨0, Nat.zero_le _, rfl, HM⟩
      case round =>
        obtain ⟨m, hm', rfl, HN⟩ := hrel
        clear HM
        have S := unveil HN
        obtain ⟨g0, g1, g2, g3, g4⟩ := S.q.heads
        obtain ⟨u0, u1, u2, u3, u4⟩ := S.v.heads
        by_cases hlt2 : m < s.ln
        · have ra := r2.below S.bel
          have rb := t2.below S.bel
          obtain ⟨g, off, rfl⟩ := r2.form (by omega)
          obtain ⟨g', off', rfl⟩ := t2.form (by omega)
          have x0 := ra.at (4 * m) (by omega)
          have x1 := ra.at (4 * m + 1) (by omega)
          have x2 := ra.at (4 * m + 2) (by omega)
          have x3 := ra.at (4 * m + 3) (by omega)
          have y0 := rb.at (4 * m) (by omega)
          have y1 := rb.at (4 * m + 1) (by omega)
          have y2 := rb.at (4 * m + 2) (by omega)
          have y3 := rb.at (4 * m + 3) (by omega)
          rw [Nat.mul_comm 4 m, ← Nat.add_assoc] at x1 y1 x2 y2 x3 y3
          rw [Nat.mul_comm 4 m] at x0 y0
          generalize s.L.getD (m * 4) 0 = p0 at x0 y0
          generalize s.L.getD (m * 4 + 1) 0 = p1 at x1 y1
          generalize s.L.getD (m * 4 + 2) 0 = p2 at x2 y2
          generalize s.L.getD (m * 4 + 3) 0 = p3 at x3 y3
          clear S ra rb
          go_wp2_with fail
          go_quiet (fail)
          go_wp2
          go_roundw
          case rel => exact ⟨m + 1, by omega, by go_num, veil ((unveil HN).next (belowN _ _))⟩
          case measure => simp [intOf]; omega
        · obtain rfl : m = s.ln := by omega
          have B := S.bel
          clear S
          go_wp2
          go_ret
          exact ⟨rfl, B⟩
end Go.Proofs.Ytdenfhnbhmdbnaa

namespace Go.Proofs.Ytdenfhnbhmdbnaa
open Go.RowKit

/-- a deed in a box. -/
def Db (w : World) (R : Nat) (x0 x1 x2 x3 : Int) : Prop := w.heap[R]? = some (.cells #[.int .i64 x0, .int .i64 x1, .int .i64 x2, .int .i64 x3] 24 (0, 0))
theorem Db.lt {w : World} {R : Nat} {x0 x1 x2 x3 : Int} (h : Db w R x0 x1 x2 x3) : R < w.heap.size := block_lt h
theorem Db.next {w w' : World} {R : Nat} {x0 x1 x2 x3 : Int} (h : Db w R x0 x1 x2 x3) (b : Below w.heap.size w w') : Db w' R x0 x1 x2 x3 := (b.block R h.lt).trans h
theorem Db.turned {w w' : World} {R R' : Nat} {x0 x1 x2 x3 : Int} (h : Db w R x0 x1 x2 x3) (t : Turned R' w w') (hR : R ≠ R') : Db w' R x0 x1 x2 x3 := (t.block R hR).trans h
theorem Db.cells {w : World} {R : Nat} {x0 x1 x2 x3 : Int} (h : Db w R x0 x1 x2 x3) : w.cell? ⟨R, 0, none⟩ = some (.int .i64 x0) ∧ w.cell? ⟨R, 1, none⟩ = some (.int .i64 x1) ∧ w.cell? ⟨R, 2, none⟩ = some (.int .i64 x2) ∧ w.cell? ⟨R, 3, none⟩ = some (.int .i64 x3) := by
  unfold Db at h; simp [World.cell?, h]
/-- an event in a box. -/
def Eb (w : World) (R : Nat) (v : Ev) : Prop := w.heap[R]? = some (.cells #[.int .i64 v.k, .int .i64 v.p, .int .i64 v.i, .int .i64 v.b, .int .i64 v.he, .int .i64 v.hn] 37 (0, 0))
theorem Eb.lt {w : World} {R : Nat} {v : Ev} (h : Eb w R v) : R < w.heap.size := block_lt h
theorem Eb.next {w w' : World} {R : Nat} {v : Ev} (h : Eb w R v) (b : Below w.heap.size w w') : Eb w' R v := (b.block R h.lt).trans h
theorem Eb.cells {w : World} {R : Nat} {v : Ev} (h : Eb w R v) : w.cell? ⟨R, 0, none⟩ = some (.int .i64 v.k) ∧ w.cell? ⟨R, 1, none⟩ = some (.int .i64 v.p) ∧ w.cell? ⟨R, 2, none⟩ = some (.int .i64 v.i) ∧ w.cell? ⟨R, 3, none⟩ = some (.int .i64 v.b) ∧ w.cell? ⟨R, 4, none⟩ = some (.int .i64 v.he) ∧ w.cell? ⟨R, 5, none⟩ = some (.int .i64 v.hn) := by
  unfold Eb at h; simp [World.cell?, h]
theorem Eb.free {w : World} {R : Nat} {v : Ev} (h : Eb w R v) (o : Nat) : w.frozen? ⟨R, o, none⟩ = false := by
  unfold Eb at h; simp [World.frozen?, h]
theorem Eb.new (w : World) (v : Ev) : ∃ W, W = w.alloc (.cells #[.int .i64 v.k, .int .i64 v.p, .int .i64 v.i, .int .i64 v.b, .int .i64 v.he, .int .i64 v.hn] 37) ∧ Eb W w.heap.size v ∧ Below w.heap.size w W := ⟨_, rfl, heap_alloc_new _ _, below1 _ _⟩
/-- an event stored into a box. -/
theorem Eb.put {w : World} {R : Nat} {v : Ev} (h : Eb w R v) (u : Ev) : ∃ W, W = (((((w.setCell ⟨R, 0, none⟩ (.int .i64 u.k)).setCell ⟨R, 1, none⟩ (.int .i64 u.p)).setCell ⟨R, 2, none⟩ (.int .i64 u.i)).setCell ⟨R, 3, none⟩ (.int .i64 u.b)).setCell ⟨R, 4, none⟩ (.int .i64 u.he)).setCell ⟨R, 5, none⟩ (.int .i64 u.hn) ∧ Eb W R u ∧ Turned R w W := by
  refine ⟨_, rfl, ?_, (((((Turned.set R 0 w _).trans (Turned.set R 1 _ _)).trans (Turned.set R 2 _ _)).trans (Turned.set R 3 _ _)).trans (Turned.set R 4 _ _)).trans (Turned.set R 5 _ _)⟩
  unfold Eb at h ⊢
  rw [heap_setB (heap_setB (heap_setB (heap_setB (heap_setB (heap_setB h)))))]
  simp
theorem ev_wf {v : Ev} (hv : v.Ok) : ∀ u ∈ evCells v, (Lit.int .i64 u).wf = true := fun u hu => evFlat_wf (es := [v]) (fun x hx => by rw [List.mem_singleton.1 hx]; exact hv) u (by simpa [evFlat] using hu)
/-- Serve at a sealed berth, and at none. -/
theorem serve_still (B : Bt) (a : Option Addr) (c : Nat) (v : Ev) (cd : Int) (w : World) (hb : BIn w B a c) (ok : B.Ok) (hr : (B.r = 3 ∧ cd = 12) ∨ (B.r = 0 ∧ cd = 7)) (hv : v.Ok) (hk : ¬ v.k = 4) :
    Calls Try.prog 20 #[bVal B.r B.e B.f B.t B.o a B.es.length c, evIn v] w fun x w' => ∃ a' c', x = .returned (.tuple #[bVal B.r B.e B.f B.t B.o a' B.es.length c', ansVal cd 0 0 0, .bool false, .int .i64 0]) ∧ BIn w' B a' c' ∧ (∀ x, a' = some x → w.heap.size ≤ x.block) ∧ Below w.heap.size w w' := by
  refine (serve_any B a c v w hb (ev_wf hv)).mono ?_
  rintro x w' ⟨y, an, ch, er, B', rfl, sr, ⟨⟨a', c', rfl, i, u⟩⟩, b⟩
  cases sr with
  | state h => exact absurd ok h
  | fault _ f hf h0 => exact absurd (hf.symm.trans hv) h0
  | brk _ _ h => exact absurd h hk
  | shut _ _ _ h =>
    obtain rfl : cd = 12 := by omega
    exact ⟨a', c', rfl, i, u, b⟩
  | none _ _ _ h =>
    obtain rfl : cd = 7 := by omega
    exact ⟨a', c', rfl, i, u, b⟩
  | same _ _ _ h => omega
  | full _ _ _ h => omega
  | done _ _ _ h => omega
/-- a berth and an answer, in new boxes. -/
theorem Kb.new2 {w w1 w2 : World} {B : Bt} {a : Option Addr} {c : Nat} (cc he no bd : Int) (i : BIn w2 B a c) (b0 : Below w.heap.size w w1) (b : Below w1.heap.size w1 w2) :
    ∃ W, W = (w2.alloc (.cells (bCells B.r B.e B.f B.t B.o a B.es.length c) 27)).alloc (.cells #[.int .i64 cc, .int .i64 he, .int .i64 no, .int .i64 bd] 50) ∧ Kb w W w2.heap.size B a c ∧ ansBlock W (w2.heap.size + 1) cc he no bd ∧ Below w2.heap.size w2 W := by
  obtain ⟨W1, hW1, K1, d1⟩ := Kb.new i b0 b
  have hs : W1.heap.size = w2.heap.size + 1 := by rw [hW1]; simp
  have hA := ansBlock.new W1 cc he no bd
  rw [hs] at hA
  rw [← hW1]
  exact ⟨_, rfl, K1.next (below1 _ _), hA, Below.next d1 (below1 _ _)⟩
theorem event_at (x0 x1 x2 x3 : Int) (hw : ∀ z ∈ [x0, x1, x2, x3], (Lit.int .i64 z).wf = true) (w : World) : Calls Try.prog 17 #[.agg #[.int .i64 x0, .int .i64 x1, .int .i64 x2, .int .i64 x3]] w fun e w' => e = .returned (evIn (deedEv x0 x1 x2 x3)) ∧ Below w.heap.size w w' :=
  event_ev x0 x1 x2 x3 w (hw _ (by simp)) (hw _ (by simp)) (hw _ (by simp)) (hw _ (by simp))
end Go.Proofs.Ytdenfhnbhmdbnaa

namespace Go.Proofs.Ytdenfhnbhmdbnaa
open Go.RowKit

def flatP (L : List (Int × Int)) : List Int := L.flatMap fun p => [p.1, p.2]
theorem flatP_getD : ∀ (L : List (Int × Int)) (i : Nat) (h : i < L.length), (flatP L).getD (2 * i) 0 = L[i].1 ∧ (flatP L).getD (2 * i + 1) 0 = L[i].2
  | p :: L, 0, _ => ⟨rfl, rfl⟩
  | p :: L, i + 1, h => by
    have := flatP_getD L i (by simpa using h)
    rw [show 2 * (i + 1) = 2 * i + 1 + 1 by omega]
    exact this
theorem flatP_len (L : List (Int × Int)) : (flatP L).length = 2 * L.length := by
  induction L with
  | nil => rfl
  | cons p L ih => simp only [flatP, List.flatMap_cons, List.length_append, List.length_cons, List.length_nil] at ih ⊢; omega
theorem pairsOf_flatP (L : List (Int × Int)) : pairsOf (flatP L) L.length = L := by
  apply List.ext_getElem (by simp [pairsOf])
  intro i h1 h2
  obtain ⟨g1, g2⟩ := flatP_getD L i h2
  simp only [pairsOf, List.getElem_map, List.getElem_range, pairAt]
  rw [g1, g2]
/-- what can be ordered is ordered. -/
theorem ordered_ex (X : List Int) (n : Nat) : ∃ R', Ordered X R' n := by
  obtain ⟨L, hL⟩ : ∃ L, L = (pairsOf X n).mergeSort (fun x y => decide (x.1 ≤ y.1)) := ⟨_, rfl⟩
  have hp : L.Perm (pairsOf X n) := by rw [hL]; exact List.mergeSort_perm _ _
  have hs : L.Pairwise (fun x y => decide (x.1 ≤ y.1) = true) := by
    rw [hL]
    exact List.pairwise_mergeSort (fun a b c h1 h2 => by simp only [decide_eq_true_eq] at h1 h2 ⊢; omega) (fun a b => by simp only [Bool.or_eq_true, decide_eq_true_eq]; omega) _
  have hl : L.length = n := by rw [hp.length_eq, pairsOf_len]
  refine ⟨flatP L, by rw [flatP_len, hl], ?_, ?_⟩
  · have := pairsOf_flatP L
    rw [hl] at this
    rw [this]; exact hp
  · intro i j hij hj
    rw [(flatP_getD L i (by omega)).1, (flatP_getD L j (by omega)).1]
    have := (List.pairwise_iff_getElem.1 hs) i j (by omega) (by omega) hij
    simpa using this
theorem Tells.brk {es : List Ev} {s : St} {ans : List An} (h : Tells es s ans) (hl : es.length ≤ 1000) : ∃ s' an, Step s Ev.brk s' an true ∧ Tells (es ++ [Ev.brk]) s' (ans ++ [an]) ∧ s'.ln = 0 := by
  have c := h.counts.2.1
  have := cnt_le es 4
  obtain ⟨R', ho⟩ := ordered_ex (s.R ++ msgsTo s.L s.ln) (s.rn + s.ln)
  have st : Step s Ev.brk _ _ true := .stop rfl (by omega) R' ho
  exact ⟨_, _, st, .snoc h Ev.brk_ok st, rfl⟩
theorem broken_ok {B : Bt} {s' : St} {ans' : List An} (ok : B.Ok) (hr : B.r = 1 ∨ B.r = 2) (ht : Tells (B.es ++ [Ev.brk]) s' ans') (hl : B.es.length < 2000) : B.broken.Ok := by
  have hs := ok.stand
  refine ⟨.inr (.inl ⟨rfl, ?_, ?_, rfl, rfl, rfl⟩), by show (B.es ++ [Ev.brk]).length ≤ 2000; simp; omega, s', ans', ht⟩
  · show 1 ≤ B.e
    unfold Bt.Stand standP at hs
    omega
  · show B.e ≤ 1048576
    unfold Bt.Stand standP at hs
    omega
theorem Tells.oks {es : List Ev} {s : St} {ans : List An} (h : Tells es s ans) : ∀ v ∈ es, v.Ok := by
  induction h with
  | nil => intro v hv; cases hv
  | snoc h hv st ih =>
    intro v hv'
    rcases List.mem_append.1 hv' with h1 | h1
    · exact ih v h1
    · rw [List.mem_singleton.1 h1]; exact hv
end Go.Proofs.Ytdenfhnbhmdbnaa
