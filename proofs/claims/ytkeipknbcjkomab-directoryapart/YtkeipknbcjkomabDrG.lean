/- Walks of directory.New and of the document's DirectoryNew. -/
import Derived.Test.YtkeipknbcjkomabDrC
namespace Go.Proofs.Ytkeipknbcjkomab
open Go.RowKit

/-- places in memory. -/
def plsBlock (w : World) (R : Nat) (n e : Nat → Int) : Prop := w.heap[R]? = some (.cells (dirCells n e) 24 (0, 0))
section
variable {w w' : World} {R : Nat} {n e : Nat → Int}
theorem plsBlock.cells (h : plsBlock w R n e) : w.cell? ⟨R, 0, none⟩ = some (.int .i64 (n 0)) ∧ w.cell? ⟨R, 1, none⟩ = some (.int .i64 (e 0)) ∧ w.cell? ⟨R, 2, none⟩ = some (.int .i64 (n 1)) ∧ w.cell? ⟨R, 3, none⟩ = some (.int .i64 (e 1)) ∧ w.cell? ⟨R, 4, none⟩ = some (.int .i64 (n 2)) ∧ w.cell? ⟨R, 5, none⟩ = some (.int .i64 (e 2)) ∧ w.cell? ⟨R, 6, none⟩ = some (.int .i64 (n 3)) ∧ w.cell? ⟨R, 7, none⟩ = some (.int .i64 (e 3)) := by
  unfold plsBlock at h; simp [World.cell?, h]
theorem plsBlock.at (h : plsBlock w R n e) : ∀ k, k < 4 → w.cell? ⟨R, k * 2, none⟩ = some (.int .i64 (n k)) ∧ w.cell? ⟨R, k * 2 + 1, none⟩ = some (.int .i64 (e k)) := by
  obtain ⟨a, b, c, d, e, f, g, h⟩ := h.cells
  exact below4d ⟨a, b⟩ ⟨c, d⟩ ⟨e, f⟩ ⟨g, h⟩
theorem plsBlock.lt (h : plsBlock w R n e) : R < w.heap.size := by
  unfold plsBlock at h
  rcases Nat.lt_or_ge R w.heap.size with h' | h'
  · exact h'
  · simp [Array.getElem?_eq_none h'] at h
theorem plsBlock.next (h : plsBlock w R n e) (hb : Below w.heap.size w w') : plsBlock w' R n e := by
  have := h.lt
  unfold plsBlock at h ⊢; rw [← h]; exact hb.block R this
theorem plsBlock.free (h : plsBlock w R n e) (o : Nat) : w.frozen? ⟨R, o, none⟩ = false := by
  unfold plsBlock at h; simp [World.frozen?, h]
theorem plsBlock.put (h : plsBlock w R n e) (k : Nat) (hk : k < 4) (a b : Int) : plsBlock ((w.setCell ⟨R, k * 2, none⟩ (.int .i64 a)).setCell ⟨R, k * 2 + 1, none⟩ (.int .i64 b)) R (dput n k a) (dput e k b) := by
  unfold plsBlock at h ⊢
  rw [heap_set' (heap_set' h)]
  have : ∀ k, k < 4 → ((dirCells n e).set! (k * 2) (.int .i64 a)).set! (k * 2 + 1) (.int .i64 b) = dirCells (dput n k a) (dput e k b) := by
    refine below4d ?_ ?_ ?_ ?_ <;> simp [dput]
  rw [this k hk]
end
def newF (k : Nat) : Nat → Int := fun p => if p < k then -1 else 0
theorem newF_zero : newF 0 = zeroF := by funext p; simp [newF, zeroF]
theorem newF_succ (k : Nat) : dput (newF k) k (-1) = newF (k + 1) := by
  funext p
  unfold dput newF
  by_cases h : p = k
  · rw [if_pos h, if_pos (by omega)]
  · rw [if_neg h]
    by_cases h' : p < k
    · rw [if_pos h', if_pos (by omega)]
    · rw [if_neg h', if_neg (by omega)]
theorem zeroF_put (k : Nat) : dput zeroF k 0 = zeroF := by funext p; simp [dput, zeroF]
/-- New on its way. -/
structure Nw (w wx : World) (n e : Nat → Int) : Prop where
  d : dirBlock wx w.heap.size zeroF zeroF
  p : plsBlock wx (w.heap.size + 1) n e
  bel : Below w.heap.size w wx
theorem Nw.next {w wx wy : World} {n e : Nat → Int} (h : Nw w wx n e) (b : Below wx.heap.size wx wy) : Nw w wy n e := ⟨h.d.next b, h.p.next b, Below.next h.bel b⟩
theorem Nw.made (w : World) : ∃ W, W = (w.alloc (.cells zeroC 26)).alloc (.cells zeroC 24) ∧ Nw w W zeroF zeroF := by
  refine ⟨_, rfl, (dirBlock.new w zeroF zeroF).next (below1 _ _), ?_, below2 _ _ _⟩
  have h0 := heap_alloc_new (w.alloc (.cells zeroC 26)) (.cells zeroC 24)
  rw [show (w.alloc (.cells zeroC 26)).heap.size = w.heap.size + 1 by simp] at h0
  exact h0
theorem Nw.put {w wx : World} {n e : Nat → Int} (h : Nw w wx n e) (k : Nat) (hk : k < 4) (a b : Int) : Nw w ((wx.setCell ⟨w.heap.size + 1, k * 2, none⟩ (.int .i64 a)).setCell ⟨w.heap.size + 1, k * 2 + 1, none⟩ (.int .i64 b)) (dput n k a) (dput e k b) := by
  refine ⟨?_, h.p.put k hk a b, (h.bel.setCell (show w.heap.size ≤ w.heap.size + 1 by omega) _).setCell (show w.heap.size ≤ w.heap.size + 1 by omega) _⟩
  have z := h.d
  unfold dirBlock at z ⊢
  rw [Below.heap_setCell _ _ _ _ (by simp), Below.heap_setCell _ _ _ _ (by simp)]
  exact z
theorem ret_New {W : World} {R : Nat} {n e : Nat → Int} {tmps : Array Value} (d : dirBlock W R n e) (t0 : tmps[0]? = some (.pointer (some ⟨R, 0, none⟩))) :
    (results Try.f17 tmps).run Try.prog W = .ok (dirVal n e) W := by
  have h1 := run_loadVar_row (P := Try.prog) W R 26 26 _ (0, 0) _ d Try.underlying26 rfl (by kernel_rfl)
  simp [results, Try.results17, t0, asAddr, h1]
set_option maxRecDepth 20000 in
set_option maxHeartbeats 2000000 in
theorem new_any (w : World) : Calls Try.prog 17 #[] w fun r w' => r = .returned (dirVal (newF 4) zeroF) ∧ Below w.heap.size w w' := by
  go_enter Try.func17, Try.ntmps17
  go_wp2_with fail
  obtain ⟨W, hW, H⟩ := Nw.made w
  rw [← hW]
  clear hW
  rw [← newF_zero] at H
  go_loopw [3] (fun i wr => ∃ k : Nat, k ≤ 4 ∧ i = .int .i64 k ∧ Nw w wr (newF k) zeroF) (fun i _ => 4 - (intOf i).toNat)
  case atStart => exact ⟨0, by omega, rfl, by rw [newF_zero] at H ⊢; exact H⟩
  case round =>
    obtain ⟨k, hk, rfl, Hk⟩ := hrel
    clear H
    by_cases hlt : k < 4
    · go_wp2_with (go_at_call 45; refine (nowhere_any _).mono ?_; rintro r w2 ⟨rfl, b2⟩; have H2 := Hk.next b2; obtain ⟨p0, p1⟩ := H2.p.at k hlt; have pf := H2.p.free; clear Hk b2)
      have H3 := H2.put k hlt (-1) 0
      rw [newF_succ, zeroF_put] at H3
      go_roundw
      case rel => exact ⟨k + 1, by omega, by go_num, H3⟩
      case measure => simp [intOf]; omega
    · obtain rfl : k = 4 := by omega
      obtain ⟨c0, c1, c2, c3, c4, c5, c6, c7⟩ := Hk.p.cells
      obtain ⟨x0, x1, x2, x3, x4, x5, x6, x7⟩ := Hk.d.cells
      have zf := Hk.d.free
      have HH := veil Hk
      clear Hk
      go_wp2
      obtain ⟨W4, hW4, d4, b4⟩ := dir_stored (unveil HH).d (unveil HH).bel (Nat.le_refl _) (newF 4) zeroF
      rw [← hW4]
      exact bodyPost_ret (ret_New d4 rfl) rfl ⟨rfl, b4⟩
theorem ret_DirectoryNew {W : World} {R : Nat} {n e : Nat → Int} {tmps : Array Value} (d : dirBlock W R n e) (t0 : tmps[0]? = some (.pointer (some ⟨R, 0, none⟩))) :
    (results Try.f18 tmps).run Try.prog W = .ok (dirVal n e) W := by
  have h1 := run_loadVar_row (P := Try.prog) W R 26 26 _ (0, 0) _ d Try.underlying26 rfl (by kernel_rfl)
  simp [results, Try.results18, t0, asAddr, h1]
set_option maxRecDepth 20000 in
set_option maxHeartbeats 2000000 in
theorem dirNew_any (w : World) : Calls Try.prog 18 #[] w fun r w' => r = .returned (dirVal (newF 4) zeroF) ∧ Below w.heap.size w w' := by
  go_enter Try.func18, Try.ntmps18
  go_wp2
  exact bodyPost_ret (ret_DirectoryNew (W := w.alloc (.cells (dirCells (newF 4) zeroF) 26)) (dirBlock.new w _ _) rfl) rfl ⟨rfl, below1 _ _⟩
theorem new_ok : DirOk (newF 4) zeroF := by
  intro p hp
  left
  unfold newF zeroF
  rw [if_pos hp]
  exact ⟨rfl, rfl⟩
end Go.Proofs.Ytkeipknbcjkomab
