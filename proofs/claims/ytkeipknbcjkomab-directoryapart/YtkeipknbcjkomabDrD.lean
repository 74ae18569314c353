/- Walks of directory.Flip and New, and of the document's answers. -/
import Derived.Test.YtkeipknbcjkomabDrC
namespace Go.Proofs.Ytkeipknbcjkomab
open Go.RowKit

/-- what Flip answers. -/
inductive FlipR (n e : Nat → Int) (q ep node : Int) : (Nat → Int) → (Nat → Int) → Int → Prop
  | off (a b c : Int) (h : WhereR n e q a b c) (hc : ¬ c = 0) : FlipR n e q ep node zeroF zeroF c
  | no (a b : Int) (h : WhereR n e q a b 0) (hc : ¬ goOf a b ep node = 0) : FlipR n e q ep node zeroF zeroF (goOf a b ep node)
  | flip (h : DirOk n e) (k : Nat) (hk : k < 4) (hq : q = k) (hn : ¬ n k = -1) (hc : goOf (n k) (e k) ep node = 0) : FlipR n e q ep node (dput n k node) (dput e k (e k + 1)) 0
theorem WhereR.at {n e : Nat → Int} {q a b : Int} (h : WhereR n e q a b 0) : DirOk n e ∧ ∃ k : Nat, k < 4 ∧ q = k ∧ ¬ n k = -1 ∧ a = n k ∧ b = e k := by
  obtain ⟨c, hc⟩ : ∃ c : Int, c = 0 := ⟨0, rfl⟩
  rw [← hc] at h
  cases h with
  | state h => omega
  | range h => omega
  | none h => omega
  | here h k hk hq hn => exact ⟨h, k, hk, hq, hn, rfl, rfl⟩
theorem FlipR.one {n e : Nat → Int} {q ep node : Int} {a b : Nat → Int} {c : Int} {a' b' : Nat → Int} {c' : Int} (h : FlipR n e q ep node a b c) (h' : FlipR n e q ep node a' b' c') : a = a' ∧ b = b' ∧ c = c' := by
  cases h with
  | off x y z h hc => cases h' with
    | off x' y' z' h' hc' => exact ⟨rfl, rfl, (h.one h').2.2⟩
    | no x' y' h' hc' => exact absurd (h.one h').2.2 hc
    | flip ok k hk hq hn hc' => exact absurd (h.one (.here ok k hk hq hn)).2.2 hc
  | no x y h hc => cases h' with
    | off x' y' z' h' hc' => exact absurd (h.one h').2.2.symm hc'
    | no x' y' h' hc' =>
      obtain ⟨rfl, rfl, _⟩ := h.one h'
      exact ⟨rfl, rfl, rfl⟩
    | flip ok k hk hq hn hc' =>
      obtain ⟨rfl, rfl, _⟩ := h.one (.here ok k hk hq hn)
      exact absurd hc' hc
  | flip ok k hk hq hn hc => cases h' with
    | off x' y' z' h' hc' => exact absurd ((WhereR.here ok k hk hq hn).one h').2.2.symm hc'
    | no x' y' h' hc' =>
      obtain ⟨rfl, rfl, _⟩ := (WhereR.here ok k hk hq hn).one h'
      exact absurd hc hc'
    | flip ok' k' hk' hq' hn' hc' =>
      obtain rfl : k = k' := by omega
      exact ⟨rfl, rfl, rfl⟩
theorem ret_Flip {W : World} {R : Nat} {n e : Nat → Int} {c : Int} {tmps : Array Value} (d : dirBlock W R n e) (t6 : tmps[8]? = some (.pointer (some ⟨R, 0, none⟩))) (t7 : tmps[9]? = some (.int .i64 c)) :
    (results Try.f23 tmps).run Try.prog W = .ok (.tuple #[dirVal n e, .int .i64 c]) W := by
  have h1 := run_loadVar_row (P := Try.prog) W R 26 26 _ (0, 0) _ d Try.underlying26 rfl (by kernel_rfl)
  simp [results, Try.results23, t6, t7, asAddr, h1]
theorem pl_new (w : World) (a b : Int) : plBlock (w.alloc (.cells #[.int .i64 a, .int .i64 b] 23)) w.heap.size a b := heap_alloc_new w _
set_option maxRecDepth 20000 in
set_option maxHeartbeats 2000000 in
theorem flip_any (n e : Nat → Int) (q ep node : Int) (w : World) : Calls Try.prog 23 #[dirVal n e, .int .i64 q, .int .i64 ep, .int .i64 node] w fun r w' => ∃ a b c, r = .returned (.tuple #[dirVal a b, .int .i64 c]) ∧ FlipR n e q ep node a b c ∧ Below w.heap.size w w' := by
  go_enter Try.func23, Try.ntmps23
  go_wp2_with fail
  obtain ⟨W, hW, H⟩ := Mk.made w n e
  rw [← hW]
  clear hW
  refine (where_any n e q _).mono ?_
  rintro r w1 ⟨a, b, c, rfl, hwr, b1⟩
  have H1 := H.next b1
  clear H b1
  have HW := veil hwr
  clear hwr
  go_upto_region 2 with fail
  have P2 := pl_new w1 a b
  have H2 := H1.next (below1 w1 (.cells #[.int .i64 a, .int .i64 b] 23))
  obtain ⟨W2, hW2⟩ : ∃ W2, W2 = w1.alloc (.cells #[.int .i64 a, .int .i64 b] 23) := ⟨_, rfl⟩
  rw [← hW2] at P2 H2 ⊢
  clear hW2 H1
  by_cases hc : c = 0
  case neg =>
    obtain ⟨x0, x1, x2, x3, x4, x5, x6, x7⟩ := H2.z.cells
    have zf := H2.z.free
    have HH := veil H2
    clear H2 P2
    go_wp2
    obtain ⟨W2, hW2, d2, b2⟩ := (unveil HH).zero
    rw [← hW2]
    exact bodyPost_ret (ret_Flip d2 rfl rfl) rfl ⟨zeroF, zeroF, c, rfl, .off a b c (unveil HW) hc, b2⟩
  case pos =>
  subst hc
  obtain ⟨p0, p1⟩ := P2.cells
  have HG := fun w => mayGo_any a b ep node w
  by_cases hg : goOf a b ep node = 0
  case neg =>
    obtain ⟨g, hgg⟩ : ∃ g, goOf a b ep node = g := ⟨_, rfl⟩
    rw [hgg] at HG hg
    have HE := veil hgg
    clear hgg
    go_wp2_with (go_at_call 51; refine (HG _).mono ?_; rintro r w3 ⟨rfl, b3⟩; have H3 := H2.next b3; obtain ⟨x0, x1, x2, x3, x4, x5, x6, x7⟩ := H3.z.cells; have zf := H3.z.free; have HH := veil H3; clear H3 H2 b3 p0 p1 P2)
    obtain ⟨W2, hW2, d2, b2⟩ := (unveil HH).zero
    rw [← hW2]
    refine bodyPost_ret (ret_Flip d2 rfl rfl) rfl ⟨zeroF, zeroF, g, rfl, ?_, b2⟩
    have := FlipR.no (ep := ep) (node := node) a b (unveil HW) (by rw [unveil HE]; exact hg)
    rw [unveil HE] at this
    exact this
  case pos =>
    rw [hg] at HG
    obtain ⟨ok, k, hk, rfl, hn, rfl, rfl⟩ := (unveil HW).at
    have he : e k < 9223372036854775807 ∧ -9223372036854775808 ≤ e k := by
      have := ok k hk
      unfold PlOk at this
      omega
    have hw : IntKind.i64.wrap (e k + 1) = e k + 1 := by rw [IntKind.wrap_i64]; omega
    obtain ⟨y, hy⟩ : ∃ y, e k = y := ⟨_, rfl⟩
    rw [hy] at HG p1 hw P2 hg
    have HY := veil hy
    clear hy he
    go_upto_region 5 with (go_at_call 51; refine (HG _).mono ?_; rintro r w3 ⟨rfl, b3⟩; have H3 := H2.next b3; have P3 := P2.next b3; obtain ⟨c0, c1, c2, c3, c4, c5, c6, c7⟩ := H3.d.cells; obtain ⟨q0, q1⟩ := P3.cells; have HH := veil H3; clear H3 H2 b3 p0 p1 P2 P3)
    go_wp2_with (go_at_call 50; refine (with_any n e k node (y + 1) _ hk).mono ?_; rintro r w8 ⟨rfl, b8⟩; have H8 := (unveil HH).next b8; obtain ⟨x0, x1, x2, x3, x4, x5, x6, x7⟩ := H8.z.cells; have zf := H8.z.free; have HH8 := veil H8; clear H8 b8 c0 c1 c2 c3 c4 c5 c6 c7)
    obtain ⟨W3, hW3, d3, b3⟩ := (unveil HH8).out (dput n k node) (dput e k (y + 1))
    rw [← hW3]
    refine bodyPost_ret (ret_Flip d3 rfl rfl) rfl ⟨_, _, 0, rfl, ?_, b3⟩
    rw [← unveil HY]
    exact .flip ok k hk rfl hn (by rw [unveil HY]; exact hg)
end Go.Proofs.Ytkeipknbcjkomab
