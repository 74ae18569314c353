/- Texts put together: HsF, HsG. -/
import Derived.Test.YtlfecmkpafgcmaaQkF
import Derived.Deep.QuietTactic
import Derived.BigQuiet
import Derived.Deep.CutRange
namespace Go.Proofs.Ytlfecmkpafgcmaa
open Go.RowKit

theorem Wins.same {ws vs : Nat → Value} {wt : Nat → Int} {wz : Nat → Nat → Bool} (h : Wins ws wt wz) (g : Wins vs wt wz) : wsList ws = wsList vs := by
  apply List.ext_getElem (by rw [wsList_len, wsList_len])
  intro i h1 h2
  rw [wsList_len] at h1
  have e : ∀ p, p < 4 → ∀ j, j < 9 → ws (9 * p + j) = vs (9 * p + j) := by
    intro p hp j hj
    obtain ⟨a, b⟩ := h p hp
    obtain ⟨c, d⟩ := g p hp
    rcases Nat.eq_zero_or_pos j with rfl | h0
    · rw [Nat.add_zero, a, c]
    · have b' := b (j - 1) (by omega)
      have d' := d (j - 1) (by omega)
      rw [show 9 * p + 1 + (j - 1) = 9 * p + j by omega] at b' d'
      rw [b', d']
  have := e (i / 9) (by omega) (i % 9) (by omega)
  rw [show 9 * (i / 9) + i % 9 = i by omega] at this
  have ea := wsList_get ws i h1
  have eb := wsList_get vs i h1
  rw [List.getElem?_eq_getElem (by rw [wsList_len]; exact h1)] at ea eb
  rw [Option.some.inj ea, Option.some.inj eb, this]
set_option maxRecDepth 20000 in
theorem run_equal_win (d : Nat) (t : Int) (s : Nat → Bool) (w : World) : (Op.equalIn (d + 1 + 1 + 1) 35 (winVal t s) (winVal t s)).run Try.prog w = .ok true w := by
  have hs := fun w => run_equal_seen_at d (s 0) (s 1) (s 2) (s 3) (s 4) (s 5) (s 6) (s 7) (s 0) (s 1) (s 2) (s 3) (s 4) (s 5) (s 6) (s 7) w
  simp only [beq_self_eq_true, Bool.and_self] at hs
  rw [run_equalIn_agg (P := Try.prog) w (d + 1 + 1) 35 _ _ Try.underlying35 (by kernel_rfl)]
  simp [go_sem, hs]
set_option maxRecDepth 20000 in
set_option maxHeartbeats 1000000 in
theorem run_equal_wins (d : Nat) {ws : Nat → Value} {wt : Nat → Int} {wz : Nat → Nat → Bool} (h : Wins ws wt wz) (w : World) : (Op.equalIn (d + 1 + 1 + 1 + 1) 36 (.agg (wsList ws).toArray) (.agg (wsList ws).toArray)).run Try.prog w = .ok true w := by
  have hp : ∀ p, p < 4 → ∀ w, (Op.equalIn (d + 1 + 1 + 1) 35 (.agg #[ws (9 * p), ws (9 * p + 1 + 0), ws (9 * p + 1 + 1), ws (9 * p + 1 + 2), ws (9 * p + 1 + 3), ws (9 * p + 1 + 4), ws (9 * p + 1 + 5), ws (9 * p + 1 + 6), ws (9 * p + 1 + 7)]) (.agg #[ws (9 * p), ws (9 * p + 1 + 0), ws (9 * p + 1 + 1), ws (9 * p + 1 + 2), ws (9 * p + 1 + 3), ws (9 * p + 1 + 4), ws (9 * p + 1 + 5), ws (9 * p + 1 + 6), ws (9 * p + 1 + 7)])).run Try.prog w = .ok true w := fun p hp w => by
    rw [h.nine p hp]
    exact run_equal_win d _ _ w
  have h0 := hp 0 (by omega)
  have h1 := hp 1 (by omega)
  have h2 := hp 2 (by omega)
  have h3 := hp 3 (by omega)
  simp only [Nat.mul_zero, Nat.zero_add, Nat.mul_one, Nat.reduceMul, Nat.reduceAdd, Nat.add_zero] at h0 h1 h2 h3
  rw [Op.equalIn]
  generalize d + 1 + 1 + 1 = dd at h0 h1 h2 h3 ⊢
  simp only [Sem.run_bind, run_underlying Try.underlying36, Result.andThen_ok]
  simp [go_sem, List.range', wsList, h0, h1, h2, h3]
end Go.Proofs.Ytlfecmkpafgcmaa

namespace Go.Proofs.Ytlfecmkpafgcmaa
open Go.RowKit

/-- the two boxes of sameQueue. -/
structure Sq (w wr : World) (V : Nat) (s : St) (a1 : Option Addr) (c1 : Nat) (a2 : Option Addr) (c2 : Nat) (ws : Nat → Value) (b1 : Option Addr) (d1 : Nat) (b2 : Option Addr) (d2 : Nat) (vs : Nat → Value) : Prop where
  q : qBlock wr w.heap.size s.ep s.nx s.gv (.slice a1 s.rn c1) (.slice a2 s.ln c2) ws
  v : qBlock wr V s.ep s.nx s.gv (.slice b1 s.rn d1) (.slice b2 s.ln d2) vs
  bel : Below w.heap.size w wr
theorem Sq.next {w wr wx : World} {V : Nat} {s : St} {a1 : Option Addr} {c1 : Nat} {a2 : Option Addr} {c2 : Nat} {ws : Nat → Value} {b1 : Option Addr} {d1 : Nat} {b2 : Option Addr} {d2 : Nat} {vs : Nat → Value} (h : Sq w wr V s a1 c1 a2 c2 ws b1 d1 b2 d2 vs) (b : Below wr.heap.size wr wx) : Sq w wx V s a1 c1 a2 c2 ws b1 d1 b2 d2 vs := ⟨h.q.next b, h.v.next b, Below.next h.bel b⟩
set_option maxRecDepth 20000 in
set_option maxHeartbeats 4000000 in
theorem sameQueue_yes (s : St) (a1 : Option Addr) (c1 : Nat) (a2 : Option Addr) (c2 : Nat) (ws : Nat → Value) (b1 : Option Addr) (d1 : Nat) (b2 : Option Addr) (d2 : Nat) (vs : Nat → Value) (w : World)
    (r1 : RowK .i64 w a1 (2 * s.rn) s.R) (r2 : RowK .i64 w a2 (4 * s.ln) s.L) (t1 : RowK .i64 w b1 (2 * s.rn) s.R) (t2 : RowK .i64 w b2 (4 * s.ln) s.L) (hW : Wins ws s.wt s.wz) (hV : Wins vs s.wt s.wz) (hsz : s.rn + s.ln ≤ 500) :
    Calls Try.prog 12 #[qVal s.ep s.nx s.gv (.slice a1 s.rn c1) (.slice a2 s.ln c2) ws, qVal s.ep s.nx s.gv (.slice b1 s.rn d1) (.slice b2 s.ln d2) vs] w fun e w' => e = .returned (.bool true) ∧ Below w.heap.size w w' := by
  have hq := fun w => run_equal_wins 9996 hW w
  have ew := hV.same hW
  have hszr : s.rn ≤ 500 := by omega
  have hszl : s.ln ≤ 500 := by omega
  go_enter Try.func12, Try.ntmps12
  go_upto_region 1 with (first
    | (refine q_box 2 _ rfl rfl rfl rfl ?_; intro W1 q1 b1')
    | (refine q_box 3 _ rfl rfl rfl rfl ?_; intro W2 q2 b2'))
  have S2 : Sq w W2 W1.heap.size s a1 c1 a2 c2 ws b1 d1 b2 d2 vs := ⟨q1.next b2', q2, Below.next b1' b2'⟩
  obtain ⟨V, hV1⟩ : ∃ V, V = W1.heap.size := ⟨_, rfl⟩
  rw [← hV1] at S2 ⊢
  clear q1 q2 b1' b2' hV1
  obtain ⟨g0, g1, g2, g3, g4⟩ := S2.q.heads
  obtain ⟨u0, u1, u2, u3, u4⟩ := S2.v.heads
  have qa := S2.q
  have qb := S2.v
  have HS2 := veil S2
  clear S2
  go_upto_region 4 with (first
    | (refine q_wins _ rfl rfl rfl qa ?_)
    | (refine q_wins _ rfl rfl rfl qb ?_; rw [ew]))
  clear g0 g1 g2 g3 g4 u0 u1 u2 u3 u4 qa qb hq ew
  go_loopw [5] (fun i wr => ∃ m : Nat, m ≤ s.rn ∧ i = .int .i64 m ∧ Hid (Sq w wr V s a1 c1 a2 c2 ws b1 d1 b2 d2 vs)) (fun i _ => s.rn - (intOf i).toNat)
  case atStart => exact ⟨0, Nat.zero_le _, rfl, HS2⟩
  case round =>
    obtain ⟨m, hm, rfl, HM⟩ := hrel
    clear HS2
    have S := unveil HM
    obtain ⟨g0, g1, g2, g3, g4⟩ := S.q.heads
    obtain ⟨u0, u1, u2, u3, u4⟩ := S.v.heads
    by_cases hlt : m < s.rn
    · have ra := r1.below S.bel
      have rb := t1.below S.bel
      obtain ⟨g, off, rfl⟩ := r1.form (by omega)
      obtain ⟨g', off', rfl⟩ := t1.form (by omega)
      have x0 := ra.at (2 * m) (by omega)
      have x1 := ra.at (2 * m + 1) (by omega)
      have y0 := rb.at (2 * m) (by omega)
      have y1 := rb.at (2 * m + 1) (by omega)
      rw [Nat.mul_comm 2 m, ← Nat.add_assoc] at x1 y1
      rw [Nat.mul_comm 2 m] at x0 y0
      generalize s.R.getD (m * 2) 0 = p0 at x0 y0
      generalize s.R.getD (m * 2 + 1) 0 = p1 at x1 y1
      clear S ra rb
      go_wp2_with fail
      go_quiet (fail)
      go_wp2
      go_roundw
      case rel => exact ⟨m + 1, by omega, by go_num, veil ((unveil HM).next (belowN _ _))⟩
      case measure => simp [intOf]; omega
    · obtain rfl : m = s.rn := by omega
      clear S
      go_upto_region 9 with fail
      clear g0 g1 g2 g3 g4 u0 u1 u2 u3 u4
      go_loopw [6] (fun i wx => ∃ m : Nat, m ≤ s.ln ∧ i = .int .i64 m ∧ Hid (Sq w wx V s a1 c1 a2 c2 ws b1 d1 b2 d2 vs)) (fun i _ => s.ln - (intOf i).toNat)
      case atStart => exact ⟨0, Nat.zero_le _, rfl, HM⟩
      case round =>
        obtain ⟨m, hm', rfl, HN⟩ := hrel
        clear HM
        have S := unveil HN
        obtain ⟨g0, g1, g2, g3, g4⟩ := S.q.heads
        obtain ⟨u0, u1, u2, u3, u4⟩ := S.v.heads
        by_cases hlt2 : m < s.ln
        · have ra := r2.below S.bel
          have rb := t2.below S.bel
          obtain ⟨g, off, rfl⟩ := r2.form (by omega)
          obtain ⟨g', off', rfl⟩ := t2.form (by omega)
          have x0 := ra.at (4 * m) (by omega)
          have x1 := ra.at (4 * m + 1) (by omega)
          have x2 := ra.at (4 * m + 2) (by omega)
          have x3 := ra.at (4 * m + 3) (by omega)
          have y0 := rb.at (4 * m) (by omega)
          have y1 := rb.at (4 * m + 1) (by omega)
          have y2 := rb.at (4 * m + 2) (by omega)
          have y3 := rb.at (4 * m + 3) (by omega)
          rw [Nat.mul_comm 4 m, ← Nat.add_assoc] at x1 y1 x2 y2 x3 y3
          rw [Nat.mul_comm 4 m] at x0 y0
          generalize s.L.getD (m * 4) 0 = p0 at x0 y0
          generalize s.L.getD (m * 4 + 1) 0 = p1 at x1 y1
          generalize s.L.getD (m * 4 + 2) 0 = p2 at x2 y2
          generalize s.L.getD (m * 4 + 3) 0 = p3 at x3 y3
          clear S ra rb
          go_wp2_with fail
          go_quiet (fail)
          go_wp2
          go_roundw
          case rel => exact ⟨m + 1, by omega, by go_num, veil ((unveil HN).next (belowN _ _))⟩
          case measure => simp [intOf]; omega
        · obtain rfl : m = s.ln := by omega
          have B := S.bel
          clear S
          go_wp2
          go_ret
          exact ⟨rfl, B⟩
end Go.Proofs.Ytlfecmkpafgcmaa
