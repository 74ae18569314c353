/- The walk of berthshiftkeep.event: an event that may be. -/
import Derived.Test.YtegbndllfnimdaaGreatKpP
import Derived.Test.YtegbndllfnimdaaGreatQvD
import Derived.Deep.RegionHeld3
namespace Go.Proofs.YtegbndllfnimdaaGreat
open Go.RowKit

/-- the event of raw numbers. -/
def evNums (k a b c : Int) : List Int :=
  if pickedOf k 8 < 3 then [1, pickedOf a 2, pickedOf b 24, pickedOf c 1000, 0, 0]
  else if pickedOf k 8 < 5 then [2, 0, 0, 0, 0, 0]
  else if pickedOf k 8 < 7 then [3, 0, 0, 0, pickedOf a 3, pickedOf b 6]
  else [4, 0, 0, 0, 0, 0]

set_option maxRecDepth 20000 in
set_option maxHeartbeats 1000000 in
theorem event_any (k a b c : Int) (w : World) (wk : (Lit.int .i64 k).wf = true) (wa : (Lit.int .i64 a).wf = true) (wb : (Lit.int .i64 b).wf = true) (wc : (Lit.int .i64 c).wf = true) :
    Calls Tryz.prog 33 #[.agg #[.int .i64 k, .int .i64 a, .int .i64 b, .int .i64 c]] w fun e w' => e = .returned (.agg ((evNums k a b c).map (Value.int .i64)).toArray) ∧ Below w.heap.size w w' := by
  obtain ⟨ev, hev⟩ : ∃ ev, evNums k a b c = ev := ⟨_, rfl⟩
  rw [hev]
  unfold evNums at hev
  obtain ⟨p0, p1⟩ := pickedOf_range k 8 (by omega)
  go_enter Tryz.func33, Tryz.ntmps33
  go_wp2_with fail
  refine (picked_any k 8 _ wk (by omega) (by omega)).mono ?_
  rintro e w0 ⟨rfl, rfl⟩
  generalize pickedOf k 8 = p at p0 p1 hev
  have HV := veil hev
  clear hev
  have P : p = 0 ∨ p = 1 ∨ p = 2 ∨ p = 3 ∨ p = 4 ∨ p = 5 ∨ p = 6 ∨ p = 7 := by omega
  clear p0 p1
  rcases P with rfl | rfl | rfl | rfl | rfl | rfl | rfl | rfl
  · have hv : [1, pickedOf a 2, pickedOf b 24, pickedOf c 1000, 0, 0] = ev := by simpa using unveil HV
    subst hv
    clear HV
    go_wp2_with fail
    go_region_held3 (fun w' => w'.cell? ⟨w.heap.size, 1, none⟩ = some (.int .i64 a) ∧ w'.cell? ⟨w.heap.size, 2, none⟩ = some (.int .i64 b) ∧ w'.cell? ⟨w.heap.size, 3, none⟩ = some (.int .i64 c)) (go_keep) ((go_at_call 29; refine (picked_any _ _ _ (by assumption) (by omega) (by omega)).mono ?_; rintro e w' ⟨rfl, rfl⟩))
    all_goals
      go_wp2
      exact bodyPost_ret (v := .agg #[.int .i64 1, .int .i64 (pickedOf a 2), .int .i64 (pickedOf b 24), .int .i64 (pickedOf c 1000), .int .i64 0, .int .i64 0]) (by simp [results, Tryz.results33, go_sem]) rfl ⟨rfl, (below2 _ _ _).drew⟩
  · have hv : [1, pickedOf a 2, pickedOf b 24, pickedOf c 1000, 0, 0] = ev := by simpa using unveil HV
    subst hv
    clear HV
    go_wp2_with fail
    go_region_held3 (fun w' => w'.cell? ⟨w.heap.size, 1, none⟩ = some (.int .i64 a) ∧ w'.cell? ⟨w.heap.size, 2, none⟩ = some (.int .i64 b) ∧ w'.cell? ⟨w.heap.size, 3, none⟩ = some (.int .i64 c)) (go_keep) ((go_at_call 29; refine (picked_any _ _ _ (by assumption) (by omega) (by omega)).mono ?_; rintro e w' ⟨rfl, rfl⟩))
    all_goals
      go_wp2
      exact bodyPost_ret (v := .agg #[.int .i64 1, .int .i64 (pickedOf a 2), .int .i64 (pickedOf b 24), .int .i64 (pickedOf c 1000), .int .i64 0, .int .i64 0]) (by simp [results, Tryz.results33, go_sem]) rfl ⟨rfl, (below2 _ _ _).drew⟩
  · have hv : [1, pickedOf a 2, pickedOf b 24, pickedOf c 1000, 0, 0] = ev := by simpa using unveil HV
    subst hv
    clear HV
    go_wp2_with fail
    go_region_held3 (fun w' => w'.cell? ⟨w.heap.size, 1, none⟩ = some (.int .i64 a) ∧ w'.cell? ⟨w.heap.size, 2, none⟩ = some (.int .i64 b) ∧ w'.cell? ⟨w.heap.size, 3, none⟩ = some (.int .i64 c)) (go_keep) ((go_at_call 29; refine (picked_any _ _ _ (by assumption) (by omega) (by omega)).mono ?_; rintro e w' ⟨rfl, rfl⟩))
    all_goals
      go_wp2
      exact bodyPost_ret (v := .agg #[.int .i64 1, .int .i64 (pickedOf a 2), .int .i64 (pickedOf b 24), .int .i64 (pickedOf c 1000), .int .i64 0, .int .i64 0]) (by simp [results, Tryz.results33, go_sem]) rfl ⟨rfl, (below2 _ _ _).drew⟩
  · have hv : [2, 0, 0, 0, 0, 0] = ev := by simpa using unveil HV
    subst hv
    clear HV
    go_wp2
    exact bodyPost_ret (v := .agg #[.int .i64 2, .int .i64 0, .int .i64 0, .int .i64 0, .int .i64 0, .int .i64 0]) (by simp [results, Tryz.results33, go_sem]) rfl ⟨rfl, below2 _ _ _⟩
  · have hv : [2, 0, 0, 0, 0, 0] = ev := by simpa using unveil HV
    subst hv
    clear HV
    go_wp2
    exact bodyPost_ret (v := .agg #[.int .i64 2, .int .i64 0, .int .i64 0, .int .i64 0, .int .i64 0, .int .i64 0]) (by simp [results, Tryz.results33, go_sem]) rfl ⟨rfl, below2 _ _ _⟩
  · have hv : [3, 0, 0, 0, pickedOf a 3, pickedOf b 6] = ev := by simpa using unveil HV
    subst hv
    clear HV
    go_wp2_with fail
    go_region_held3 (fun w' => w'.cell? ⟨w.heap.size, 1, none⟩ = some (.int .i64 a) ∧ w'.cell? ⟨w.heap.size, 2, none⟩ = some (.int .i64 b)) (go_keep) ((go_at_call 29; refine (picked_any _ _ _ (by assumption) (by omega) (by omega)).mono ?_; rintro e w' ⟨rfl, rfl⟩))
    all_goals
      go_wp2
      exact bodyPost_ret (v := .agg #[.int .i64 3, .int .i64 0, .int .i64 0, .int .i64 0, .int .i64 (pickedOf a 3), .int .i64 (pickedOf b 6)]) (by simp [results, Tryz.results33, go_sem]) rfl ⟨rfl, (below2 _ _ _).drew⟩
  · have hv : [3, 0, 0, 0, pickedOf a 3, pickedOf b 6] = ev := by simpa using unveil HV
    subst hv
    clear HV
    go_wp2_with fail
    go_region_held3 (fun w' => w'.cell? ⟨w.heap.size, 1, none⟩ = some (.int .i64 a) ∧ w'.cell? ⟨w.heap.size, 2, none⟩ = some (.int .i64 b)) (go_keep) ((go_at_call 29; refine (picked_any _ _ _ (by assumption) (by omega) (by omega)).mono ?_; rintro e w' ⟨rfl, rfl⟩))
    all_goals
      go_wp2
      exact bodyPost_ret (v := .agg #[.int .i64 3, .int .i64 0, .int .i64 0, .int .i64 0, .int .i64 (pickedOf a 3), .int .i64 (pickedOf b 6)]) (by simp [results, Tryz.results33, go_sem]) rfl ⟨rfl, (below2 _ _ _).drew⟩
  · have hv : [4, 0, 0, 0, 0, 0] = ev := by simpa using unveil HV
    subst hv
    clear HV
    go_wp2
    exact bodyPost_ret (v := .agg #[.int .i64 4, .int .i64 0, .int .i64 0, .int .i64 0, .int .i64 0, .int .i64 0]) (by simp [results, Tryz.results33, go_sem]) rfl ⟨rfl, below2 _ _ _⟩
/-- the event of a deed. -/
def deedEv (k a b c : Int) : Ev :=
  if pickedOf k 8 < 3 then ⟨1, pickedOf a 2, pickedOf b 24, pickedOf c 1000, 0, 0⟩
  else if pickedOf k 8 < 5 then ⟨2, 0, 0, 0, 0, 0⟩
  else if pickedOf k 8 < 7 then ⟨3, 0, 0, 0, pickedOf a 3, pickedOf b 6⟩
  else ⟨4, 0, 0, 0, 0, 0⟩
theorem evNums_eq (k a b c : Int) : Value.agg ((evNums k a b c).map (Value.int .i64)).toArray = evIn (deedEv k a b c) := by
  unfold evNums deedEv
  repeat' split
  all_goals rfl
theorem event_ev (k a b c : Int) (w : World) (wk : (Lit.int .i64 k).wf = true) (wa : (Lit.int .i64 a).wf = true) (wb : (Lit.int .i64 b).wf = true) (wc : (Lit.int .i64 c).wf = true) :
    Calls Tryz.prog 33 #[.agg #[.int .i64 k, .int .i64 a, .int .i64 b, .int .i64 c]] w fun e w' => e = .returned (evIn (deedEv k a b c)) ∧ Below w.heap.size w w' := by
  rw [← evNums_eq]
  exact event_any k a b c w wk wa wb wc
/-- an event as deeds make them. -/
structure DeedLike (v : Ev) : Prop where
  ok : v.Ok
  p : 0 ≤ v.p ∧ v.p < 2
  i : 0 ≤ v.i ∧ v.i < 24
theorem deedEv_like (k a b c : Int) : DeedLike (deedEv k a b c) := by
  have h1 := pickedOf_range a 2 (by omega)
  have h2 := pickedOf_range b 24 (by omega)
  have h3 := pickedOf_range c 1000 (by omega)
  have h4 := pickedOf_range a 3 (by omega)
  have h5 := pickedOf_range b 6 (by omega)
  unfold deedEv
  repeat' split
  all_goals (refine ⟨?_, ?_, ?_⟩ <;> simp only [Ev.Ok, eventFault] <;> first | omega | (split <;> omega) | simp)
  all_goals (repeat' split)
  all_goals first | omega | rfl | simp_all
end Go.Proofs.YtegbndllfnimdaaGreat
