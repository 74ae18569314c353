/- Walks of berthshiftkeep.event and berthshiftkeep.Act: acts that may be. -/
import Derived.Test.YtekbdkppnjnaaaaDoorKpP
import Derived.Test.YtekbdkppnjnaaaaDoorLoF
import Derived.Deep.RegionHeld3
namespace Go.Proofs.YtekbdkppnjnaaaaDoor
open Go.RowKit

/-- the event of raw numbers. -/
def evNums (k a b c : Int) : List Int :=
  if pickedOf k 8 < 3 then [1, pickedOf a 2, pickedOf b 24, pickedOf c 1000, 0, 0]
  else if pickedOf k 8 < 5 then [2, 0, 0, 0, 0, 0]
  else if pickedOf k 8 < 7 then [3, 0, 0, 0, pickedOf a 3, pickedOf b 6]
  else [4, 0, 0, 0, 0, 0]

set_option maxRecDepth 20000 in
set_option maxHeartbeats 1000000 in
theorem event_any (k a b c : Int) (w : World) (wk : (Lit.int .i64 k).wf = true) (wa : (Lit.int .i64 a).wf = true) (wb : (Lit.int .i64 b).wf = true) (wc : (Lit.int .i64 c).wf = true) :
    Calls Tryd.prog 52 #[.agg #[.int .i64 k, .int .i64 a, .int .i64 b, .int .i64 c]] w fun e w' => e = .returned (.agg ((evNums k a b c).map (Value.int .i64)).toArray) ∧ Below w.heap.size w w' := by
  obtain ⟨ev, hev⟩ : ∃ ev, evNums k a b c = ev := ⟨_, rfl⟩
  rw [hev]
  unfold evNums at hev
  obtain ⟨p0, p1⟩ := pickedOf_range k 8 (by omega)
  go_enter Tryd.func52, Tryd.ntmps52
  go_wp2_with fail
  refine (picked_any k 8 _ wk (by omega) (by omega)).mono ?_
  rintro e w0 ⟨rfl, rfl⟩
  generalize pickedOf k 8 = p at p0 p1 hev
  have HV := veil hev
  clear hev
  have P : p = 0 ∨ p = 1 ∨ p = 2 ∨ p = 3 ∨ p = 4 ∨ p = 5 ∨ p = 6 ∨ p = 7 := by omega
  clear p0 p1
  rcases P with rfl | rfl | rfl | rfl | rfl | rfl | rfl | rfl
  · have hv : [1, pickedOf a 2, pickedOf b 24, pickedOf c 1000, 0, 0] = ev := by simpa using unveil HV
    subst hv
    clear HV
    go_wp2_with fail
    go_region_held3 (fun w' => w'.cell? ⟨w.heap.size, 1, none⟩ = some (.int .i64 a) ∧ w'.cell? ⟨w.heap.size, 2, none⟩ = some (.int .i64 b) ∧ w'.cell? ⟨w.heap.size, 3, none⟩ = some (.int .i64 c)) (go_keep) ((go_at_call 21; refine (picked_any _ _ _ (by assumption) (by omega) (by omega)).mono ?_; rintro e w' ⟨rfl, rfl⟩))
    all_goals
      go_wp2
      exact bodyPost_ret (v := .agg #[.int .i64 1, .int .i64 (pickedOf a 2), .int .i64 (pickedOf b 24), .int .i64 (pickedOf c 1000), .int .i64 0, .int .i64 0]) (by simp [results, Tryd.results52, go_sem]) rfl ⟨rfl, (below2 _ _ _).drew⟩
  · have hv : [1, pickedOf a 2, pickedOf b 24, pickedOf c 1000, 0, 0] = ev := by simpa using unveil HV
    subst hv
    clear HV
    go_wp2_with fail
    go_region_held3 (fun w' => w'.cell? ⟨w.heap.size, 1, none⟩ = some (.int .i64 a) ∧ w'.cell? ⟨w.heap.size, 2, none⟩ = some (.int .i64 b) ∧ w'.cell? ⟨w.heap.size, 3, none⟩ = some (.int .i64 c)) (go_keep) ((go_at_call 21; refine (picked_any _ _ _ (by assumption) (by omega) (by omega)).mono ?_; rintro e w' ⟨rfl, rfl⟩))
    all_goals
      go_wp2
      exact bodyPost_ret (v := .agg #[.int .i64 1, .int .i64 (pickedOf a 2), .int .i64 (pickedOf b 24), .int .i64 (pickedOf c 1000), .int .i64 0, .int .i64 0]) (by simp [results, Tryd.results52, go_sem]) rfl ⟨rfl, (below2 _ _ _).drew⟩
  · have hv : [1, pickedOf a 2, pickedOf b 24, pickedOf c 1000, 0, 0] = ev := by simpa using unveil HV
    subst hv
    clear HV
    go_wp2_with fail
    go_region_held3 (fun w' => w'.cell? ⟨w.heap.size, 1, none⟩ = some (.int .i64 a) ∧ w'.cell? ⟨w.heap.size, 2, none⟩ = some (.int .i64 b) ∧ w'.cell? ⟨w.heap.size, 3, none⟩ = some (.int .i64 c)) (go_keep) ((go_at_call 21; refine (picked_any _ _ _ (by assumption) (by omega) (by omega)).mono ?_; rintro e w' ⟨rfl, rfl⟩))
    all_goals
      go_wp2
      exact bodyPost_ret (v := .agg #[.int .i64 1, .int .i64 (pickedOf a 2), .int .i64 (pickedOf b 24), .int .i64 (pickedOf c 1000), .int .i64 0, .int .i64 0]) (by simp [results, Tryd.results52, go_sem]) rfl ⟨rfl, (below2 _ _ _).drew⟩
  · have hv : [2, 0, 0, 0, 0, 0] = ev := by simpa using unveil HV
    subst hv
    clear HV
    go_wp2
    exact bodyPost_ret (v := .agg #[.int .i64 2, .int .i64 0, .int .i64 0, .int .i64 0, .int .i64 0, .int .i64 0]) (by simp [results, Tryd.results52, go_sem]) rfl ⟨rfl, below2 _ _ _⟩
  · have hv : [2, 0, 0, 0, 0, 0] = ev := by simpa using unveil HV
    subst hv
    clear HV
    go_wp2
    exact bodyPost_ret (v := .agg #[.int .i64 2, .int .i64 0, .int .i64 0, .int .i64 0, .int .i64 0, .int .i64 0]) (by simp [results, Tryd.results52, go_sem]) rfl ⟨rfl, below2 _ _ _⟩
  · have hv : [3, 0, 0, 0, pickedOf a 3, pickedOf b 6] = ev := by simpa using unveil HV
    subst hv
    clear HV
    go_wp2_with fail
    go_region_held3 (fun w' => w'.cell? ⟨w.heap.size, 1, none⟩ = some (.int .i64 a) ∧ w'.cell? ⟨w.heap.size, 2, none⟩ = some (.int .i64 b)) (go_keep) ((go_at_call 21; refine (picked_any _ _ _ (by assumption) (by omega) (by omega)).mono ?_; rintro e w' ⟨rfl, rfl⟩))
    all_goals
      go_wp2
      exact bodyPost_ret (v := .agg #[.int .i64 3, .int .i64 0, .int .i64 0, .int .i64 0, .int .i64 (pickedOf a 3), .int .i64 (pickedOf b 6)]) (by simp [results, Tryd.results52, go_sem]) rfl ⟨rfl, (below2 _ _ _).drew⟩
  · have hv : [3, 0, 0, 0, pickedOf a 3, pickedOf b 6] = ev := by simpa using unveil HV
    subst hv
    clear HV
    go_wp2_with fail
    go_region_held3 (fun w' => w'.cell? ⟨w.heap.size, 1, none⟩ = some (.int .i64 a) ∧ w'.cell? ⟨w.heap.size, 2, none⟩ = some (.int .i64 b)) (go_keep) ((go_at_call 21; refine (picked_any _ _ _ (by assumption) (by omega) (by omega)).mono ?_; rintro e w' ⟨rfl, rfl⟩))
    all_goals
      go_wp2
      exact bodyPost_ret (v := .agg #[.int .i64 3, .int .i64 0, .int .i64 0, .int .i64 0, .int .i64 (pickedOf a 3), .int .i64 (pickedOf b 6)]) (by simp [results, Tryd.results52, go_sem]) rfl ⟨rfl, (below2 _ _ _).drew⟩
  · have hv : [4, 0, 0, 0, 0, 0] = ev := by simpa using unveil HV
    subst hv
    clear HV
    go_wp2
    exact bodyPost_ret (v := .agg #[.int .i64 4, .int .i64 0, .int .i64 0, .int .i64 0, .int .i64 0, .int .i64 0]) (by simp [results, Tryd.results52, go_sem]) rfl ⟨rfl, below2 _ _ _⟩
/-- the event of a deed. -/
def deedEv (k a b c : Int) : Ev :=
  if pickedOf k 8 < 3 then ⟨1, pickedOf a 2, pickedOf b 24, pickedOf c 1000, 0, 0⟩
  else if pickedOf k 8 < 5 then ⟨2, 0, 0, 0, 0, 0⟩
  else if pickedOf k 8 < 7 then ⟨3, 0, 0, 0, pickedOf a 3, pickedOf b 6⟩
  else ⟨4, 0, 0, 0, 0, 0⟩
theorem chk_yes {f : Nat → Int} {i : Nat} (hk : kno (f 0) (f 5) = i) (hi : i < 12) (hall : allIn ((noffs i).map f) (mosts i)) (hrest : ∀ j, j < 11 → j ∉ noffs i → f j = bareK i j) : chk f = 0 := by
  rw [chk_ref]
  unfold refFault
  rw [hk, if_pos hi, if_pos hall, if_pos]
  refine eqA_iff.2 fun j hj => ?_
  unfold over
  split
  · rfl
  · exact hrest j hj (by assumption)
/-- the numbers of an event that a script's Call has. -/
theorem evNums_cases (k a b c : Int) : (∃ p i x, evNums k a b c = [1, p, i, x, 0, 0] ∧ 0 ≤ p ∧ p ≤ 3 ∧ 0 ≤ i ∧ i ≤ 1073741824 ∧ 0 ≤ x ∧ x ≤ 1000000) ∨ evNums k a b c = [2, 0, 0, 0, 0, 0] ∨ (∃ p i, evNums k a b c = [3, 0, 0, 0, p, i] ∧ 0 ≤ p ∧ p ≤ 1048576 ∧ 0 ≤ i ∧ i ≤ 1073741824) ∨ evNums k a b c = [4, 0, 0, 0, 0, 0] := by
  unfold evNums
  have h1 := pickedOf_range a 2 (by omega)
  have h2 := pickedOf_range b 24 (by omega)
  have h3 := pickedOf_range c 1000 (by omega)
  have h4 := pickedOf_range a 3 (by omega)
  have h5 := pickedOf_range b 6 (by omega)
  split
  · exact .inl ⟨_, _, _, rfl, by omega, by omega, by omega, by omega, by omega, by omega⟩
  · split
    · exact .inr (.inl rfl)
    · split
      · exact .inr (.inr (.inl ⟨_, _, rfl, by omega, by omega, by omega, by omega⟩))
      · exact .inr (.inr (.inr rfl))
abbrev xVal (k a b c d : Int) : Value := .agg #[.int .i64 k, .int .i64 a, .int .i64 b, .int .i64 c, .int .i64 d]
theorem ret_Act {w : World} {R : Nat} {f : Nat → Int} {tmps : Array Value} (d : aBlock w R f) (t2 : tmps[2]? = some (.pointer (some ⟨R, 0, none⟩))) :
    (results Tryd.f37 tmps).run Tryd.prog w = .ok (aVal f) w := by
  simp [results, Tryd.results37, t2, asAddr, load_act d]
set_option linter.unusedVariables false in
set_option maxRecDepth 20000 in
set_option maxHeartbeats 4000000 in
theorem act_1 (k a b c d : Int) (w : World) (wk : (Lit.int .i64 k).wf = true) (wa : (Lit.int .i64 a).wf = true) (wb : (Lit.int .i64 b).wf = true) (hp : pickedOf k 10 = 0) :
    Calls Tryd.prog 37 #[xVal k a b c d] w fun e w' => ∃ f, e = .returned (aVal f) ∧ chk f = 0 ∧ Below w.heap.size w w' := by
  have h2 := pickedOf_range a 4 (by omega)
  have h1 := pickedOf_range b 5 (by omega)
  go_enter Tryd.func37, Tryd.ntmps37
  go_wp2_with (go_at_call 21; refine (picked_any _ _ _ (by assumption) (by omega) (by omega)).mono ?_; rintro e w' ⟨rfl, rfl⟩; try rw [hp])
  have hd : aBlock ((((w.alloc (.cells #[.int .i64 k, .int .i64 a, .int .i64 b, .int .i64 c, .int .i64 d] 78)).alloc (.cells (aCells (vec [1, pickedOf b 5, pickedOf a 4, 0, 0, 0, 0, 0, 0, 0, 0])) 27)).alloc (.cells (aCells (vec [1, pickedOf b 5, pickedOf a 4, 0, 0, 0, 0, 0, 0, 0, 0])) 27))) (w.heap.size + 1) (vec [1, pickedOf b 5, pickedOf a 4, 0, 0, 0, 0, 0, 0, 0, 0]) := by
    have := (aBlock.new (w.alloc (.cells #[.int .i64 k, .int .i64 a, .int .i64 b, .int .i64 c, .int .i64 d] 78)) (vec [1, pickedOf b 5, pickedOf a 4, 0, 0, 0, 0, 0, 0, 0, 0])).next (below1 _ (.cells (aCells (vec [1, pickedOf b 5, pickedOf a 4, 0, 0, 0, 0, 0, 0, 0, 0])) 27))
    rw [World.size_alloc] at this
    exact this
  exact bodyPost_ret (ret_Act hd rfl) rfl ⟨_, rfl, chk_yes (i := 0) rfl (by omega) ((allIn_cons _ _ _ _).2 ⟨⟨(show (0 : Int) ≤ pickedOf a 4 by omega), (show pickedOf a 4 ≤ 3 by omega)⟩, (allIn_cons _ _ _ _).2 ⟨⟨(show (0 : Int) ≤ pickedOf b 5 by omega), (show pickedOf b 5 ≤ 4 by omega)⟩, (allIn_nil _).2 trivial⟩⟩) (below11 (fun _ => rfl) (fun h => absurd (by decide) h) (fun h => absurd (by decide) h) (fun _ => rfl) (fun _ => rfl) (fun _ => rfl) (fun _ => rfl) (fun _ => rfl) (fun _ => rfl) (fun _ => rfl) (fun _ => rfl)), Below.next (Below.next (below1 w _) (below1 _ _)) (below1 _ _)⟩
set_option linter.unusedVariables false in
set_option maxRecDepth 20000 in
set_option maxHeartbeats 4000000 in
theorem act_10 (k a b c d : Int) (w : World) (wk : (Lit.int .i64 k).wf = true) (wa : (Lit.int .i64 a).wf = true) (wb : (Lit.int .i64 b).wf = true) (hp : pickedOf k 10 = 9) :
    Calls Tryd.prog 37 #[xVal k a b c d] w fun e w' => ∃ f, e = .returned (aVal f) ∧ chk f = 0 ∧ Below w.heap.size w w' := by
  have h2 := pickedOf_range a 4 (by omega)
  have h1 := pickedOf_range b 5 (by omega)
  go_enter Tryd.func37, Tryd.ntmps37
  go_wp2_with (go_at_call 21; refine (picked_any _ _ _ (by assumption) (by omega) (by omega)).mono ?_; rintro e w' ⟨rfl, rfl⟩; try rw [hp])
  have hd : aBlock ((((w.alloc (.cells #[.int .i64 k, .int .i64 a, .int .i64 b, .int .i64 c, .int .i64 d] 78)).alloc (.cells (aCells (vec [10, pickedOf b 5, pickedOf a 4, 0, 0, 0, 0, 0, 0, 0, 0])) 27)).alloc (.cells (aCells (vec [10, pickedOf b 5, pickedOf a 4, 0, 0, 0, 0, 0, 0, 0, 0])) 27))) (w.heap.size + 1) (vec [10, pickedOf b 5, pickedOf a 4, 0, 0, 0, 0, 0, 0, 0, 0]) := by
    have := (aBlock.new (w.alloc (.cells #[.int .i64 k, .int .i64 a, .int .i64 b, .int .i64 c, .int .i64 d] 78)) (vec [10, pickedOf b 5, pickedOf a 4, 0, 0, 0, 0, 0, 0, 0, 0])).next (below1 _ (.cells (aCells (vec [10, pickedOf b 5, pickedOf a 4, 0, 0, 0, 0, 0, 0, 0, 0])) 27))
    rw [World.size_alloc] at this
    exact this
  exact bodyPost_ret (ret_Act hd rfl) rfl ⟨_, rfl, chk_yes (i := 1) rfl (by omega) ((allIn_cons _ _ _ _).2 ⟨⟨(show (0 : Int) ≤ pickedOf a 4 by omega), (show pickedOf a 4 ≤ 3 by omega)⟩, (allIn_cons _ _ _ _).2 ⟨⟨(show (0 : Int) ≤ pickedOf b 5 by omega), (show pickedOf b 5 ≤ 4 by omega)⟩, (allIn_nil _).2 trivial⟩⟩) (below11 (fun _ => rfl) (fun h => absurd (by decide) h) (fun h => absurd (by decide) h) (fun _ => rfl) (fun _ => rfl) (fun _ => rfl) (fun _ => rfl) (fun _ => rfl) (fun _ => rfl) (fun _ => rfl) (fun _ => rfl)), Below.next (Below.next (below1 w _) (below1 _ _)) (below1 _ _)⟩
set_option linter.unusedVariables false in
set_option maxRecDepth 20000 in
set_option maxHeartbeats 4000000 in
theorem act_3 (k a b c d : Int) (w : World) (wk : (Lit.int .i64 k).wf = true) (wa : (Lit.int .i64 a).wf = true) (wb : (Lit.int .i64 b).wf = true) (hp : pickedOf k 10 = 2) :
    Calls Tryd.prog 37 #[xVal k a b c d] w fun e w' => ∃ f, e = .returned (aVal f) ∧ chk f = 0 ∧ Below w.heap.size w w' := by
  have h1 := pickedOf_range a 5 (by omega)
  go_enter Tryd.func37, Tryd.ntmps37
  go_wp2_with (go_at_call 21; refine (picked_any _ _ _ (by assumption) (by omega) (by omega)).mono ?_; rintro e w' ⟨rfl, rfl⟩; try rw [hp])
  have hd : aBlock ((((w.alloc (.cells #[.int .i64 k, .int .i64 a, .int .i64 b, .int .i64 c, .int .i64 d] 78)).alloc (.cells (aCells (vec [3, pickedOf a 5, 0, 0, 0, 0, 0, 0, 0, 0, 0])) 27)).alloc (.cells (aCells (vec [3, pickedOf a 5, 0, 0, 0, 0, 0, 0, 0, 0, 0])) 27))) (w.heap.size + 1) (vec [3, pickedOf a 5, 0, 0, 0, 0, 0, 0, 0, 0, 0]) := by
    have := (aBlock.new (w.alloc (.cells #[.int .i64 k, .int .i64 a, .int .i64 b, .int .i64 c, .int .i64 d] 78)) (vec [3, pickedOf a 5, 0, 0, 0, 0, 0, 0, 0, 0, 0])).next (below1 _ (.cells (aCells (vec [3, pickedOf a 5, 0, 0, 0, 0, 0, 0, 0, 0, 0])) 27))
    rw [World.size_alloc] at this
    exact this
  exact bodyPost_ret (ret_Act hd rfl) rfl ⟨_, rfl, chk_yes (i := 2) rfl (by omega) ((allIn_cons _ _ _ _).2 ⟨⟨(show (0 : Int) ≤ pickedOf a 5 by omega), (show pickedOf a 5 ≤ 4 by omega)⟩, (allIn_nil _).2 trivial⟩) (below11 (fun _ => rfl) (fun h => absurd (by decide) h) (fun _ => rfl) (fun _ => rfl) (fun _ => rfl) (fun _ => rfl) (fun _ => rfl) (fun _ => rfl) (fun _ => rfl) (fun _ => rfl) (fun _ => rfl)), Below.next (Below.next (below1 w _) (below1 _ _)) (below1 _ _)⟩
set_option linter.unusedVariables false in
set_option maxRecDepth 20000 in
set_option maxHeartbeats 4000000 in
theorem act_9 (k a b c d : Int) (w : World) (wk : (Lit.int .i64 k).wf = true) (wa : (Lit.int .i64 a).wf = true) (wb : (Lit.int .i64 b).wf = true) (hp : pickedOf k 10 = 8) :
    Calls Tryd.prog 37 #[xVal k a b c d] w fun e w' => ∃ f, e = .returned (aVal f) ∧ chk f = 0 ∧ Below w.heap.size w w' := by
  have h1 := pickedOf_range a 5 (by omega)
  go_enter Tryd.func37, Tryd.ntmps37
  go_wp2_with (go_at_call 21; refine (picked_any _ _ _ (by assumption) (by omega) (by omega)).mono ?_; rintro e w' ⟨rfl, rfl⟩; try rw [hp])
  have hd : aBlock ((((w.alloc (.cells #[.int .i64 k, .int .i64 a, .int .i64 b, .int .i64 c, .int .i64 d] 78)).alloc (.cells (aCells (vec [9, pickedOf a 5, 0, 0, 0, 0, 0, 0, 0, 0, 0])) 27)).alloc (.cells (aCells (vec [9, pickedOf a 5, 0, 0, 0, 0, 0, 0, 0, 0, 0])) 27))) (w.heap.size + 1) (vec [9, pickedOf a 5, 0, 0, 0, 0, 0, 0, 0, 0, 0]) := by
    have := (aBlock.new (w.alloc (.cells #[.int .i64 k, .int .i64 a, .int .i64 b, .int .i64 c, .int .i64 d] 78)) (vec [9, pickedOf a 5, 0, 0, 0, 0, 0, 0, 0, 0, 0])).next (below1 _ (.cells (aCells (vec [9, pickedOf a 5, 0, 0, 0, 0, 0, 0, 0, 0, 0])) 27))
    rw [World.size_alloc] at this
    exact this
  exact bodyPost_ret (ret_Act hd rfl) rfl ⟨_, rfl, chk_yes (i := 3) rfl (by omega) ((allIn_cons _ _ _ _).2 ⟨⟨(show (0 : Int) ≤ pickedOf a 5 by omega), (show pickedOf a 5 ≤ 4 by omega)⟩, (allIn_nil _).2 trivial⟩) (below11 (fun _ => rfl) (fun h => absurd (by decide) h) (fun _ => rfl) (fun _ => rfl) (fun _ => rfl) (fun _ => rfl) (fun _ => rfl) (fun _ => rfl) (fun _ => rfl) (fun _ => rfl) (fun _ => rfl)), Below.next (Below.next (below1 w _) (below1 _ _)) (below1 _ _)⟩
set_option linter.unusedVariables false in
set_option maxRecDepth 20000 in
set_option maxHeartbeats 4000000 in
theorem act_8 (k a b c d : Int) (w : World) (wk : (Lit.int .i64 k).wf = true) (wa : (Lit.int .i64 a).wf = true) (wb : (Lit.int .i64 b).wf = true) (hp : pickedOf k 10 = 7) :
    Calls Tryd.prog 37 #[xVal k a b c d] w fun e w' => ∃ f, e = .returned (aVal f) ∧ chk f = 0 ∧ Below w.heap.size w w' := by
  have h1 := pickedOf_range a 5 (by omega)
  have h4 := pickedOf_range b 200 (by omega)
  go_enter Tryd.func37, Tryd.ntmps37
  go_wp2_with (go_at_call 21; refine (picked_any _ _ _ (by assumption) (by omega) (by omega)).mono ?_; rintro e w' ⟨rfl, rfl⟩; try rw [hp])
  have hd : aBlock ((((w.alloc (.cells #[.int .i64 k, .int .i64 a, .int .i64 b, .int .i64 c, .int .i64 d] 78)).alloc (.cells (aCells (vec [8, pickedOf a 5, 0, 0, pickedOf b 200, 0, 0, 0, 0, 0, 0])) 27)).alloc (.cells (aCells (vec [8, pickedOf a 5, 0, 0, pickedOf b 200, 0, 0, 0, 0, 0, 0])) 27))) (w.heap.size + 1) (vec [8, pickedOf a 5, 0, 0, pickedOf b 200, 0, 0, 0, 0, 0, 0]) := by
    have := (aBlock.new (w.alloc (.cells #[.int .i64 k, .int .i64 a, .int .i64 b, .int .i64 c, .int .i64 d] 78)) (vec [8, pickedOf a 5, 0, 0, pickedOf b 200, 0, 0, 0, 0, 0, 0])).next (below1 _ (.cells (aCells (vec [8, pickedOf a 5, 0, 0, pickedOf b 200, 0, 0, 0, 0, 0, 0])) 27))
    rw [World.size_alloc] at this
    exact this
  exact bodyPost_ret (ret_Act hd rfl) rfl ⟨_, rfl, chk_yes (i := 4) rfl (by omega) ((allIn_cons _ _ _ _).2 ⟨⟨(show (0 : Int) ≤ pickedOf a 5 by omega), (show pickedOf a 5 ≤ 4 by omega)⟩, (allIn_cons _ _ _ _).2 ⟨⟨(show (0 : Int) ≤ pickedOf b 200 by omega), (show pickedOf b 200 ≤ 100000 by omega)⟩, (allIn_nil _).2 trivial⟩⟩) (below11 (fun _ => rfl) (fun h => absurd (by decide) h) (fun _ => rfl) (fun _ => rfl) (fun h => absurd (by decide) h) (fun _ => rfl) (fun _ => rfl) (fun _ => rfl) (fun _ => rfl) (fun _ => rfl) (fun _ => rfl)), Below.next (Below.next (below1 w _) (below1 _ _)) (below1 _ _)⟩
set_option linter.unusedVariables false in
set_option maxRecDepth 20000 in
set_option maxHeartbeats 4000000 in
theorem act_4 (k a b c d : Int) (w : World) (wk : (Lit.int .i64 k).wf = true) (wa : (Lit.int .i64 a).wf = true) (wb : (Lit.int .i64 b).wf = true) (hp : pickedOf k 10 = 3) :
    Calls Tryd.prog 37 #[xVal k a b c d] w fun e w' => ∃ f, e = .returned (aVal f) ∧ chk f = 0 ∧ Below w.heap.size w w' := by
  have h3 := pickedOf_range a 100 (by omega)
  go_enter Tryd.func37, Tryd.ntmps37
  go_wp2_with (go_at_call 21; refine (picked_any _ _ _ (by assumption) (by omega) (by omega)).mono ?_; rintro e w' ⟨rfl, rfl⟩; try rw [hp])
  have hd : aBlock ((((w.alloc (.cells #[.int .i64 k, .int .i64 a, .int .i64 b, .int .i64 c, .int .i64 d] 78)).alloc (.cells (aCells (vec [4, 0, 0, pickedOf a 100, 0, 0, 0, 0, 0, 0, 0])) 27)).alloc (.cells (aCells (vec [4, 0, 0, pickedOf a 100, 0, 0, 0, 0, 0, 0, 0])) 27))) (w.heap.size + 1) (vec [4, 0, 0, pickedOf a 100, 0, 0, 0, 0, 0, 0, 0]) := by
    have := (aBlock.new (w.alloc (.cells #[.int .i64 k, .int .i64 a, .int .i64 b, .int .i64 c, .int .i64 d] 78)) (vec [4, 0, 0, pickedOf a 100, 0, 0, 0, 0, 0, 0, 0])).next (below1 _ (.cells (aCells (vec [4, 0, 0, pickedOf a 100, 0, 0, 0, 0, 0, 0, 0])) 27))
    rw [World.size_alloc] at this
    exact this
  exact bodyPost_ret (ret_Act hd rfl) rfl ⟨_, rfl, chk_yes (i := 5) rfl (by omega) ((allIn_cons _ _ _ _).2 ⟨⟨(show (0 : Int) ≤ pickedOf a 100 by omega), (show pickedOf a 100 ≤ 1048576 by omega)⟩, (allIn_nil _).2 trivial⟩) (below11 (fun _ => rfl) (fun _ => rfl) (fun _ => rfl) (fun h => absurd (by decide) h) (fun _ => rfl) (fun _ => rfl) (fun _ => rfl) (fun _ => rfl) (fun _ => rfl) (fun _ => rfl) (fun _ => rfl)), Below.next (Below.next (below1 w _) (below1 _ _)) (below1 _ _)⟩
set_option linter.unusedVariables false in
set_option maxRecDepth 20000 in
set_option maxHeartbeats 4000000 in
theorem act_5 (k a b c d : Int) (w : World) (wk : (Lit.int .i64 k).wf = true) (wa : (Lit.int .i64 a).wf = true) (wb : (Lit.int .i64 b).wf = true) (hp : pickedOf k 10 = 4) :
    Calls Tryd.prog 37 #[xVal k a b c d] w fun e w' => ∃ f, e = .returned (aVal f) ∧ chk f = 0 ∧ Below w.heap.size w w' := by
  have h3 := pickedOf_range a 100 (by omega)
  go_enter Tryd.func37, Tryd.ntmps37
  go_wp2_with (go_at_call 21; refine (picked_any _ _ _ (by assumption) (by omega) (by omega)).mono ?_; rintro e w' ⟨rfl, rfl⟩; try rw [hp])
  have hd : aBlock ((((w.alloc (.cells #[.int .i64 k, .int .i64 a, .int .i64 b, .int .i64 c, .int .i64 d] 78)).alloc (.cells (aCells (vec [5, 0, 0, pickedOf a 100, 0, 0, 0, 0, 0, 0, 0])) 27)).alloc (.cells (aCells (vec [5, 0, 0, pickedOf a 100, 0, 0, 0, 0, 0, 0, 0])) 27))) (w.heap.size + 1) (vec [5, 0, 0, pickedOf a 100, 0, 0, 0, 0, 0, 0, 0]) := by
    have := (aBlock.new (w.alloc (.cells #[.int .i64 k, .int .i64 a, .int .i64 b, .int .i64 c, .int .i64 d] 78)) (vec [5, 0, 0, pickedOf a 100, 0, 0, 0, 0, 0, 0, 0])).next (below1 _ (.cells (aCells (vec [5, 0, 0, pickedOf a 100, 0, 0, 0, 0, 0, 0, 0])) 27))
    rw [World.size_alloc] at this
    exact this
  exact bodyPost_ret (ret_Act hd rfl) rfl ⟨_, rfl, chk_yes (i := 6) rfl (by omega) ((allIn_cons _ _ _ _).2 ⟨⟨(show (0 : Int) ≤ pickedOf a 100 by omega), (show pickedOf a 100 ≤ 1048576 by omega)⟩, (allIn_nil _).2 trivial⟩) (below11 (fun _ => rfl) (fun _ => rfl) (fun _ => rfl) (fun h => absurd (by decide) h) (fun _ => rfl) (fun _ => rfl) (fun _ => rfl) (fun _ => rfl) (fun _ => rfl) (fun _ => rfl) (fun _ => rfl)), Below.next (Below.next (below1 w _) (below1 _ _)) (below1 _ _)⟩
set_option linter.unusedVariables false in
set_option maxRecDepth 20000 in
set_option maxHeartbeats 4000000 in
theorem act_6 (k a b c d : Int) (w : World) (wk : (Lit.int .i64 k).wf = true) (wa : (Lit.int .i64 a).wf = true) (wb : (Lit.int .i64 b).wf = true) (hp : pickedOf k 10 = 5) :
    Calls Tryd.prog 37 #[xVal k a b c d] w fun e w' => ∃ f, e = .returned (aVal f) ∧ chk f = 0 ∧ Below w.heap.size w w' := by
  have h3 := pickedOf_range a 100 (by omega)
  go_enter Tryd.func37, Tryd.ntmps37
  go_wp2_with (go_at_call 21; refine (picked_any _ _ _ (by assumption) (by omega) (by omega)).mono ?_; rintro e w' ⟨rfl, rfl⟩; try rw [hp])
  have hd : aBlock ((((w.alloc (.cells #[.int .i64 k, .int .i64 a, .int .i64 b, .int .i64 c, .int .i64 d] 78)).alloc (.cells (aCells (vec [6, 0, 0, pickedOf a 100, 0, 0, 0, 0, 0, 0, 0])) 27)).alloc (.cells (aCells (vec [6, 0, 0, pickedOf a 100, 0, 0, 0, 0, 0, 0, 0])) 27))) (w.heap.size + 1) (vec [6, 0, 0, pickedOf a 100, 0, 0, 0, 0, 0, 0, 0]) := by
    have := (aBlock.new (w.alloc (.cells #[.int .i64 k, .int .i64 a, .int .i64 b, .int .i64 c, .int .i64 d] 78)) (vec [6, 0, 0, pickedOf a 100, 0, 0, 0, 0, 0, 0, 0])).next (below1 _ (.cells (aCells (vec [6, 0, 0, pickedOf a 100, 0, 0, 0, 0, 0, 0, 0])) 27))
    rw [World.size_alloc] at this
    exact this
  exact bodyPost_ret (ret_Act hd rfl) rfl ⟨_, rfl, chk_yes (i := 7) rfl (by omega) ((allIn_cons _ _ _ _).2 ⟨⟨(show (0 : Int) ≤ pickedOf a 100 by omega), (show pickedOf a 100 ≤ 1048576 by omega)⟩, (allIn_nil _).2 trivial⟩) (below11 (fun _ => rfl) (fun _ => rfl) (fun _ => rfl) (fun h => absurd (by decide) h) (fun _ => rfl) (fun _ => rfl) (fun _ => rfl) (fun _ => rfl) (fun _ => rfl) (fun _ => rfl) (fun _ => rfl)), Below.next (Below.next (below1 w _) (below1 _ _)) (below1 _ _)⟩
set_option linter.unusedVariables false in
set_option maxRecDepth 20000 in
set_option maxHeartbeats 4000000 in
theorem act_7 (k a b c d : Int) (w : World) (wk : (Lit.int .i64 k).wf = true) (wa : (Lit.int .i64 a).wf = true) (wb : (Lit.int .i64 b).wf = true) (hp : pickedOf k 10 = 6) :
    Calls Tryd.prog 37 #[xVal k a b c d] w fun e w' => ∃ f, e = .returned (aVal f) ∧ chk f = 0 ∧ Below w.heap.size w w' := by
  go_enter Tryd.func37, Tryd.ntmps37
  go_wp2_with (go_at_call 21; refine (picked_any _ _ _ (by assumption) (by omega) (by omega)).mono ?_; rintro e w' ⟨rfl, rfl⟩; try rw [hp])
  have hd : aBlock ((((w.alloc (.cells #[.int .i64 k, .int .i64 a, .int .i64 b, .int .i64 c, .int .i64 d] 78)).alloc (.cells (aCells (vec [7, 0, 0, 0, 0, 0, 0, 0, 0, 0, 0])) 27)).alloc (.cells (aCells (vec [7, 0, 0, 0, 0, 0, 0, 0, 0, 0, 0])) 27))) (w.heap.size + 1) (vec [7, 0, 0, 0, 0, 0, 0, 0, 0, 0, 0]) := by
    have := (aBlock.new (w.alloc (.cells #[.int .i64 k, .int .i64 a, .int .i64 b, .int .i64 c, .int .i64 d] 78)) (vec [7, 0, 0, 0, 0, 0, 0, 0, 0, 0, 0])).next (below1 _ (.cells (aCells (vec [7, 0, 0, 0, 0, 0, 0, 0, 0, 0, 0])) 27))
    rw [World.size_alloc] at this
    exact this
  exact bodyPost_ret (ret_Act hd rfl) rfl ⟨_, rfl, chk_yes (i := 8) rfl (by omega) ((allIn_nil _).2 trivial) (below11 (fun _ => rfl) (fun _ => rfl) (fun _ => rfl) (fun _ => rfl) (fun _ => rfl) (fun _ => rfl) (fun _ => rfl) (fun _ => rfl) (fun _ => rfl) (fun _ => rfl) (fun _ => rfl)), Below.next (Below.next (below1 w _) (below1 _ _)) (below1 _ _)⟩
end Go.Proofs.YtekbdkppnjnaaaaDoor
