/- Walks of window.raised and Take. -/
import Derived.Test.YtcdopnkabbfooaaGreatWdC
import Derived.Laws.CopyOwn
namespace Go.Proofs.YtcdopnkabbfooaaGreat
open Go.RowKit

theorem ret_raised {W : World} {R : Nat} {t : Int} {s : Nat → Bool} {tmps : Array Value} (h : winBlock W R t s) (t4 : tmps[4]? = some (.pointer (some ⟨R, 0, none⟩))) :
    (results Tryz.f121 tmps).run Tryz.prog W = .ok (winVal t s) W := by
  obtain ⟨c0, c1, c2, c3, c4, c5, c6, c7, c8⟩ := h.cells
  simp [results, Tryz.results121, go_sem, c0, c1, c2, c3, c4, c5, c6, c7, c8, t4]

/-- eight bools in memory. -/
def seenBlock (w : World) (R : Nat) (s : Nat → Bool) : Prop := w.heap[R]? = some (.cells #[.bool (s 0), .bool (s 1), .bool (s 2), .bool (s 3), .bool (s 4), .bool (s 5), .bool (s 6), .bool (s 7)] 87 (0, 0))
theorem seenBlock.cells {w : World} {R : Nat} {s : Nat → Bool} (h : seenBlock w R s) :
    w.cell? ⟨R, 0, none⟩ = some (.bool (s 0)) ∧ w.cell? ⟨R, 1, none⟩ = some (.bool (s 1)) ∧ w.cell? ⟨R, 2, none⟩ = some (.bool (s 2)) ∧ w.cell? ⟨R, 3, none⟩ = some (.bool (s 3)) ∧
    w.cell? ⟨R, 4, none⟩ = some (.bool (s 4)) ∧ w.cell? ⟨R, 5, none⟩ = some (.bool (s 5)) ∧ w.cell? ⟨R, 6, none⟩ = some (.bool (s 6)) ∧ w.cell? ⟨R, 7, none⟩ = some (.bool (s 7)) := by
  unfold seenBlock at h; simp [World.cell?, h]

theorem raised_boxes (w : World) (t z : Int) (s : Nat → Bool) : ∃ W, W = ((w.alloc (.cells (winCells t s) 89)).alloc (.cells #[.int .i64 z, .bool false, .bool false, .bool false, .bool false, .bool false, .bool false, .bool false, .bool false] 89)).alloc
      (.cells #[.bool false, .bool false, .bool false, .bool false, .bool false, .bool false, .bool false, .bool false] 87) ∧
    winBlock W w.heap.size t s ∧ winBlock W (w.heap.size + 1) z noneS ∧ seenBlock W (w.heap.size + 1 + 1) noneS ∧ Below w.heap.size w W ∧ W.heap.size = w.heap.size + 3 := by
  refine ⟨_, rfl, ?_, ?_, ?_, ?_, by simp⟩
  · exact ((winBlock.new w t s).below (below1 _ _) (by simp)).below (below1 _ _) (by simp; omega)
  · have := (winBlock.new (w.alloc (.cells (winCells t s) 89)) z noneS).below (below1 _ (.cells #[.bool false, .bool false, .bool false, .bool false, .bool false, .bool false, .bool false, .bool false] 87)) (by simp)
    rw [show (w.alloc (.cells (winCells t s) 89)).heap.size = w.heap.size + 1 by simp] at this
    exact this
  · have := heap_alloc_new ((w.alloc (.cells (winCells t s) 89)).alloc (.cells #[.int .i64 z, .bool false, .bool false, .bool false, .bool false, .bool false, .bool false, .bool false, .bool false] 89)) (.cells #[.bool false, .bool false, .bool false, .bool false, .bool false, .bool false, .bool false, .bool false] 87)
    simpa [seenBlock, noneS] using this
  · exact (below2 w _ _).trans ((below1 _ _).mono (by simp; omega))

theorem run_slice_seen (R o : Nat) : ∀ u : Nat, u < 8 → ∀ w : World,
    (Instr.sliceAt 87 (.pointer (some ⟨R, o, none⟩)) (some (.int .i64 u)) none none).run Tryz.prog w = .ok (.slice (some ⟨R, o + u, none⟩) (8 - u) (8 - u)) w := by
  refine below8 ?_ ?_ ?_ ?_ ?_ ?_ ?_ ?_ <;> (intro w; simp [go_sem])

theorem copy_src {W : World} {R : Nat} {t : Int} {s : Nat → Bool} (h : winBlock W R t s) (u : Nat) (hu : u < 8) :
    ∀ j v, ((List.range (8 - u)).map fun j => Value.bool (s (u + j)))[j]? = some v → W.cell? ((⟨R, 1 + u, none⟩ : Addr).add j) = some v := by
  intro j v hj
  have hlt : j < 8 - u := by
    rcases Nat.lt_or_ge j (8 - u) with h' | h'
    · exact h'
    · rw [List.getElem?_eq_none (by simpa using h')] at hj; cases hj
  rw [List.getElem?_map, List.getElem?_range hlt] at hj
  simp only [Option.map_some, Option.some.injEq] at hj
  have e : (⟨R, 1 + u, none⟩ : Addr).add j = ⟨R, 1 + (u + j), none⟩ := by unfold Addr.add; split <;> simp_all; omega
  rw [e, h.cell (u + j) (by omega), hj]
theorem copied (u : Nat) (s s' : Nat → Bool) (h0 : u < 8) (hs : ∀ j, j < 8 → s' j = (decide (j + u < 8) && s (u + j))) :
    (splice [Value.bool false, .bool false, .bool false, .bool false, .bool false, .bool false, .bool false, .bool false] 0 ((List.range (8 - u)).map fun j => Value.bool (s (u + j)))).toArray = #[.bool (s' 0), .bool (s' 1), .bool (s' 2), .bool (s' 3), .bool (s' 4), .bool (s' 5), .bool (s' 6), .bool (s' 7)] := by
  rw [hs 0 (by omega), hs 1 (by omega), hs 2 (by omega), hs 3 (by omega), hs 4 (by omega), hs 5 (by omega), hs 6 (by omega), hs 7 (by omega)]
  revert u
  refine below8 ?_ ?_ ?_ ?_ ?_ ?_ ?_ ?_ <;> (intros; simp [splice, List.range_succ])
theorem draw_below (B : Nat) (W : World) : Below B W W.drew := ⟨rfl, rfl, rfl, Nat.le_refl _, fun _ _ => rfl⟩

set_option maxHeartbeats 1000000 in
theorem raised_near (t : Int) (u : Nat) (s : Nat → Bool) (w : World) (_ : 0 ≤ t) (_ : t ≤ 1073741825) (hu0 : 0 < u) (hu1 : u < 8) :
    Calls Tryz.prog 121 #[winVal t s, .int .i64 (t + (u : Int))] w fun e w' => e = .returned (winVal (t + (u : Int)) (fun j => decide (j + u < 8) && s (u + j))) ∧ Below w.heap.size w w' := by
  obtain ⟨top, htop⟩ : ∃ top, top = t + (u : Int) := ⟨_, rfl⟩
  rw [← htop]
  have e1 : top - t = (u : Int) := by omega
  have HT := veil htop
  clear htop
  go_enter Tryz.func121, Tryz.ntmps121
  go_wp2_with fail
  obtain ⟨W, hW, wb0, wb1, sb0, B0, S0⟩ := raised_boxes w t 0 s
  rw [← hW]
  clear hW
  have hsl := run_slice_seen w.heap.size 1 u hu1
  have hcs := copy_src wb0 u hu1
  have hln : ((List.range (8 - u)).map fun j => Value.bool (s (u + j))).length = Nat.min (8 - u) 8 := by simp
  have hft : 0 + ((List.range (8 - u)).map fun j => Value.bool (s (u + j))).length ≤ [Value.bool false, .bool false, .bool false, .bool false, .bool false, .bool false, .bool false, .bool false].length := by simp
  have hon : ∀ v ∈ ((List.range (8 - u)).map fun j => Value.bool (s (u + j))), v.oneCell' = true := by
    intro v hv
    obtain ⟨j, _, rfl⟩ := List.mem_map.1 hv
    rfl
  go_region_law (refine step_copy_splice rfl (.tmp 13) (.tmp 16) 57 57 rfl 4 Tryz.underlying57 (by kernel_rfl) (some ⟨w.heap.size + 1 + 1, 0, none⟩) (some ⟨w.heap.size, 1 + u, none⟩) 8 8 (8 - u) (8 - u) rfl rfl (w.heap.size + 1 + 1) 0 [.bool false, .bool false, .bool false, .bool false, .bool false, .bool false, .bool false, .bool false] 87 sb0 _ hln (fun _ => ⟨rfl, _, rfl, hcs⟩) hft hon (w.heap.size + 2) W (draw_below _ _) (Nat.le_refl _) ?_; intro w4 hg4 hb4)
  obtain ⟨s', hs'⟩ : ∃ s' : Nat → Bool, s' = fun j => decide (j + u < 8) && s (u + j) := ⟨_, rfl⟩
  have HS := veil hs'
  have sb4 : seenBlock w4 (w.heap.size + 1 + 1) s' := by
    unfold seenBlock
    rw [← copied u s s' hu1 (fun j _ => by rw [hs'])]
    exact hg4.out
  have wb4 : winBlock w4 (w.heap.size + 1) 0 noneS := wb1.below hb4 (by omega)
  have B4 : Below w.heap.size w w4 := B0.trans (hb4.mono (by omega))
  obtain ⟨c0, c1, c2, c3, c4, c5, c6, c7⟩ := sb4.cells
  obtain ⟨d0, d1, d2, d3, d4, d5, d6, d7, d8⟩ := wb4.cells
  have df := wb4.free
  have HB := veil B4
  have HW := veil wb4
  clear sb4 wb4 B4 hs' hg4 hb4 sb0 wb0 wb1 B0 S0 hcs hln hft hon hsl
  go_wp2
  have e2 : (fun j => decide (j + u < 8) && s (u + j)) = s' := (unveil HS).symm
  exact bodyPost_ret (ret_raised ((unveil HW).store top s') rfl) rfl ⟨by rw [e2], winStore_below (unveil HB) _ (by omega) _ _⟩

set_option maxHeartbeats 1000000 in
theorem raised_far (t top : Int) (s : Nat → Bool) (w : World) (h0 : 0 ≤ t) (h1 : t + 8 ≤ top) (h2 : top ≤ 1073741825) :
    Calls Tryz.prog 121 #[winVal t s, .int .i64 top] w fun e w' => e = .returned (winVal top noneS) ∧ Below w.heap.size w w' := by
  have e1 : ¬ top - t < 8 := by omega
  go_enter Tryz.func121, Tryz.ntmps121
  go_wp2_with fail
  obtain ⟨W, hW, wb0, wb1, sb0, B0, S0⟩ := raised_boxes w t top s
  rw [← hW]
  exact bodyPost_ret (ret_raised wb1 rfl) rfl ⟨rfl, B0⟩

/-- the window with a higher top: what falls out of it is forgotten. -/
theorem raised_any (t top : Int) (s : Nat → Bool) (w : World) (h0 : 0 ≤ t) (h1 : t < top) (h2 : top ≤ 1073741825) :
    Calls Tryz.prog 121 #[winVal t s, .int .i64 top] w fun e w' => e = .returned (winVal top (fun j => inWin t s (top - 8 + j))) ∧ Below w.heap.size w w' := by
  by_cases hf : t + 8 ≤ top
  · refine (raised_far t top s w h0 hf h2).mono ?_
    rintro e w' ⟨rfl, b⟩
    refine ⟨?_, b⟩
    congr 1
    refine winVal_eq rfl fun i hi => ?_
    simp only [inWin]
    rw [show decide (top - 8 + (i : Int) < t) = false by simp; omega]
    simp [noneS]
  · obtain ⟨u, hu⟩ : ∃ u : Nat, top = t + u := ⟨(top - t).toNat, by omega⟩
    subst hu
    refine (raised_near t u s w h0 (by omega) (by omega) (by omega)).mono ?_
    rintro e w' ⟨rfl, b⟩
    refine ⟨?_, b⟩
    congr 1
    refine winVal_eq rfl fun i hi => ?_
    by_cases hiu : i + u < 8
    · rw [show t + (u : Int) - 8 + (i : Int) = t - 8 + ((u + i : Nat) : Int) by omega, inWin_at (u + i) (by omega)]
      simp [hiu]
    · simp only [inWin]
      rw [show decide (t + (u : Int) - 8 + (i : Int) < t) = false by simp; omega]
      simp [hiu]
end Go.Proofs.YtcdopnkabbfooaaGreat
