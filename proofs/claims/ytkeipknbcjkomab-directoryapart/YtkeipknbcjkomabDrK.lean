/- What a directory does, call by call, where it is known ahead. -/
import Derived.Test.YtkeipknbcjkomabDrD
import Derived.Test.YtkeipknbcjkomabDrG
import Derived.Test.YtkeipknbcjkomabDrH
import Derived.Test.YtkeipknbcjkomabKpP
namespace Go.Proofs.Ytkeipknbcjkomab
open Go.RowKit

theorem make_yes (n e : Nat → Int) (k : Nat) (node : Int) (w : World) (ok : DirOk n e) (hk : k < 4) (hd : 0 ≤ node ∧ node ≤ 4) (hn : n k = -1) : Calls Try.prog 21 #[dirVal n e, .int .i64 k, .int .i64 node] w fun r w' => r = .returned (.tuple #[dirVal (dput n k node) (dput e k 1), .int .i64 0]) ∧ Below w.heap.size w w' := by
  refine (make_any n e k node w).mono ?_
  rintro r w' ⟨a, b, c, rfl, h, bb⟩
  obtain ⟨rfl, rfl, rfl⟩ := h.one (.made ok k hk rfl hd hn)
  exact ⟨rfl, bb⟩
theorem make_twice (n e : Nat → Int) (k : Nat) (node : Int) (w : World) (ok : DirOk n e) (hk : k < 4) (hd : 0 ≤ node ∧ node ≤ 4) (hn : ¬ n k = -1) : Calls Try.prog 21 #[dirVal n e, .int .i64 k, .int .i64 node] w fun r w' => r = .returned (.tuple #[dirVal zeroF zeroF, .int .i64 8]) ∧ Below w.heap.size w w' := by
  refine (make_any n e k node w).mono ?_
  rintro r w' ⟨a, b, c, rfl, h, bb⟩
  obtain ⟨rfl, rfl, rfl⟩ := h.one (.twice ok k hk rfl hd hn)
  exact ⟨rfl, bb⟩
theorem where_here (n e : Nat → Int) (k : Nat) (w : World) (ok : DirOk n e) (hk : k < 4) (hn : ¬ n k = -1) : Calls Try.prog 19 #[dirVal n e, .int .i64 k] w fun r w' => r = .returned (.tuple #[plVal (n k) (e k), .int .i64 0]) ∧ Below w.heap.size w w' := by
  refine (where_any n e k w).mono ?_
  rintro r w' ⟨a, b, c, rfl, h, bb⟩
  obtain ⟨rfl, rfl, rfl⟩ := h.one (.here ok k hk rfl hn)
  exact ⟨rfl, bb⟩
theorem where_none (n e : Nat → Int) (k : Nat) (w : World) (ok : DirOk n e) (hk : k < 4) (hn : n k = -1) : Calls Try.prog 19 #[dirVal n e, .int .i64 k] w fun r w' => r = .returned (.tuple #[plVal 0 0, .int .i64 7]) ∧ Below w.heap.size w w' := by
  refine (where_any n e k w).mono ?_
  rintro r w' ⟨a, b, c, rfl, h, bb⟩
  obtain ⟨rfl, rfl, rfl⟩ := h.one (.none ok k hk rfl hn)
  exact ⟨rfl, bb⟩
theorem flip_yes (n e : Nat → Int) (k : Nat) (ep node : Int) (w : World) (ok : DirOk n e) (hk : k < 4) (hn : ¬ n k = -1) (hg : goOf (n k) (e k) ep node = 0) : Calls Try.prog 23 #[dirVal n e, .int .i64 k, .int .i64 ep, .int .i64 node] w fun r w' => r = .returned (.tuple #[dirVal (dput n k node) (dput e k (e k + 1)), .int .i64 0]) ∧ Below w.heap.size w w' := by
  refine (flip_any n e k ep node w).mono ?_
  rintro r w' ⟨a, b, c, rfl, h, bb⟩
  obtain ⟨rfl, rfl, rfl⟩ := h.one (.flip ok k hk rfl hn hg)
  exact ⟨rfl, bb⟩
theorem flip_no (n e : Nat → Int) (k : Nat) (ep node g : Int) (w : World) (ok : DirOk n e) (hk : k < 4) (hn : ¬ n k = -1) (hg : goOf (n k) (e k) ep node = g) (h0 : ¬ g = 0) : Calls Try.prog 23 #[dirVal n e, .int .i64 k, .int .i64 ep, .int .i64 node] w fun r w' => r = .returned (.tuple #[dirVal zeroF zeroF, .int .i64 g]) ∧ Below w.heap.size w w' := by
  refine (flip_any n e k ep node w).mono ?_
  rintro r w' ⟨a, b, c, rfl, h, bb⟩
  obtain ⟨rfl, rfl, rfl⟩ := h.one (.no _ _ (.here ok k hk rfl hn) (by rw [hg]; exact h0))
  rw [hg]
  exact ⟨rfl, bb⟩
theorem DirOk.put {n e : Nat → Int} (h : DirOk n e) (k : Nat) (a b : Int) (ha : 0 ≤ a ∧ a ≤ 4) (hb : 1 ≤ b ∧ b ≤ 1048576) : DirOk (dput n k a) (dput e k b) := by
  intro p hp
  unfold dput
  by_cases e : p = k
  · rw [if_pos e, if_pos e]; exact .inr ⟨ha.1, ha.2, hb.1, hb.2⟩
  · rw [if_neg e, if_neg e]; exact h p hp
theorem dput_self (f : Nat → Int) (k : Nat) (x : Int) : dput f k x k = x := by unfold dput; rw [if_pos rfl]
theorem dput_other (f : Nat → Int) (k j : Nat) (x : Int) (h : ¬ j = k) : dput f k x j = f j := by unfold dput; rw [if_neg h]
theorem goOf_yes {x y ep node : Int} (h1 : 0 ≤ node ∧ node ≤ 4) (h2 : y = ep) (h3 : ¬ x = node) (h4 : ¬ y = 1048576) : goOf x y ep node = 0 := by
  unfold goOf; rw [if_neg (fun h => h h1), if_neg (fun h => h h2), if_neg h3, if_neg h4]
theorem goOf_epoch {x y ep node : Int} (h1 : 0 ≤ node ∧ node ≤ 4) (h2 : ¬ y = ep) : goOf x y ep node = 15 := by
  unfold goOf; rw [if_neg (fun h => h h1), if_pos h2]
theorem goOf_same {x y ep node : Int} (h1 : 0 ≤ node ∧ node ≤ 4) (h2 : y = ep) (h3 : x = node) : goOf x y ep node = 8 := by
  unfold goOf; rw [if_neg (fun h => h h1), if_neg (fun h => h h2), if_pos h3]
theorem newF_at (p : Nat) (h : p < 4) : newF 4 p = -1 := by unfold newF; rw [if_pos h]
end Go.Proofs.Ytkeipknbcjkomab
