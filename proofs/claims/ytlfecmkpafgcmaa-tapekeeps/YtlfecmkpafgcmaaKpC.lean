/- Walks of berthshiftkeep.event and record: events and records that may be. -/
import Derived.Test.YtlfecmkpafgcmaaKpA
import Derived.Test.YtlfecmkpafgcmaaPkH
import Derived.Deep.RegionHeld3
namespace Go.Proofs.Ytlfecmkpafgcmaa
open Go.RowKit

/-- the event of raw numbers. -/
def evOf (k a b c : Int) : List Int :=
  if pickedOf k 8 < 3 then [1, pickedOf a 2, pickedOf b 24, pickedOf c 1000, 0, 0]
  else if pickedOf k 8 < 5 then [2, 0, 0, 0, 0, 0]
  else if pickedOf k 8 < 7 then [3, 0, 0, 0, pickedOf a 3, pickedOf b 6]
  else [4, 0, 0, 0, 0, 0]

set_option maxRecDepth 20000 in
set_option maxHeartbeats 1000000 in
theorem event_any (k a b c : Int) (w : World) (wk : (Lit.int .i64 k).wf = true) (wa : (Lit.int .i64 a).wf = true) (wb : (Lit.int .i64 b).wf = true) (wc : (Lit.int .i64 c).wf = true) :
    Calls Try.prog 26 #[.agg #[.int .i64 k, .int .i64 a, .int .i64 b, .int .i64 c]] w fun e w' => e = .returned (.agg ((evOf k a b c).map (Value.int .i64)).toArray) ∧ Below w.heap.size w w' := by
  obtain ⟨ev, hev⟩ : ∃ ev, evOf k a b c = ev := ⟨_, rfl⟩
  rw [hev]
  unfold evOf at hev
  obtain ⟨p0, p1⟩ := pickedOf_range k 8 (by omega)
  go_enter Try.func26, Try.ntmps26
  go_wp2_with fail
  refine (picked_any k 8 _ wk (by omega) (by omega)).mono ?_
  rintro e w0 ⟨rfl, rfl⟩
  generalize pickedOf k 8 = p at p0 p1 hev
  have HV := hide hev
  clear hev
  have P : p = 0 ∨ p = 1 ∨ p = 2 ∨ p = 3 ∨ p = 4 ∨ p = 5 ∨ p = 6 ∨ p = 7 := by omega
  clear p0 p1
  rcases P with rfl | rfl | rfl | rfl | rfl | rfl | rfl | rfl
  · have hv : [1, pickedOf a 2, pickedOf b 24, pickedOf c 1000, 0, 0] = ev := by simpa using unhide HV
    subst hv
    clear HV
    go_wp2_with fail
    go_region_held3 (fun w' => w'.cell? ⟨w.heap.size, 1, none⟩ = some (.int .i64 a) ∧ w'.cell? ⟨w.heap.size, 2, none⟩ = some (.int .i64 b) ∧ w'.cell? ⟨w.heap.size, 3, none⟩ = some (.int .i64 c)) (go_keep) ((go_at_call 13; refine (picked_any _ _ _ (by assumption) (by omega) (by omega)).mono ?_; rintro e w' ⟨rfl, rfl⟩))
    all_goals
      go_wp2
      exact bodyPost_ret (v := .agg #[.int .i64 1, .int .i64 (pickedOf a 2), .int .i64 (pickedOf b 24), .int .i64 (pickedOf c 1000), .int .i64 0, .int .i64 0]) (by simp [results, Try.results26, go_sem]) rfl ⟨rfl, (below2 _ _ _).drew⟩
  · have hv : [1, pickedOf a 2, pickedOf b 24, pickedOf c 1000, 0, 0] = ev := by simpa using unhide HV
    subst hv
    clear HV
    go_wp2_with fail
    go_region_held3 (fun w' => w'.cell? ⟨w.heap.size, 1, none⟩ = some (.int .i64 a) ∧ w'.cell? ⟨w.heap.size, 2, none⟩ = some (.int .i64 b) ∧ w'.cell? ⟨w.heap.size, 3, none⟩ = some (.int .i64 c)) (go_keep) ((go_at_call 13; refine (picked_any _ _ _ (by assumption) (by omega) (by omega)).mono ?_; rintro e w' ⟨rfl, rfl⟩))
    all_goals
      go_wp2
      exact bodyPost_ret (v := .agg #[.int .i64 1, .int .i64 (pickedOf a 2), .int .i64 (pickedOf b 24), .int .i64 (pickedOf c 1000), .int .i64 0, .int .i64 0]) (by simp [results, Try.results26, go_sem]) rfl ⟨rfl, (below2 _ _ _).drew⟩
  · have hv : [1, pickedOf a 2, pickedOf b 24, pickedOf c 1000, 0, 0] = ev := by simpa using unhide HV
    subst hv
    clear HV
    go_wp2_with fail
    go_region_held3 (fun w' => w'.cell? ⟨w.heap.size, 1, none⟩ = some (.int .i64 a) ∧ w'.cell? ⟨w.heap.size, 2, none⟩ = some (.int .i64 b) ∧ w'.cell? ⟨w.heap.size, 3, none⟩ = some (.int .i64 c)) (go_keep) ((go_at_call 13; refine (picked_any _ _ _ (by assumption) (by omega) (by omega)).mono ?_; rintro e w' ⟨rfl, rfl⟩))
    all_goals
      go_wp2
      exact bodyPost_ret (v := .agg #[.int .i64 1, .int .i64 (pickedOf a 2), .int .i64 (pickedOf b 24), .int .i64 (pickedOf c 1000), .int .i64 0, .int .i64 0]) (by simp [results, Try.results26, go_sem]) rfl ⟨rfl, (below2 _ _ _).drew⟩
  · have hv : [2, 0, 0, 0, 0, 0] = ev := by simpa using unhide HV
    subst hv
    clear HV
    go_wp2
    exact bodyPost_ret (v := .agg #[.int .i64 2, .int .i64 0, .int .i64 0, .int .i64 0, .int .i64 0, .int .i64 0]) (by simp [results, Try.results26, go_sem]) rfl ⟨rfl, below2 _ _ _⟩
  · have hv : [2, 0, 0, 0, 0, 0] = ev := by simpa using unhide HV
    subst hv
    clear HV
    go_wp2
    exact bodyPost_ret (v := .agg #[.int .i64 2, .int .i64 0, .int .i64 0, .int .i64 0, .int .i64 0, .int .i64 0]) (by simp [results, Try.results26, go_sem]) rfl ⟨rfl, below2 _ _ _⟩
  · have hv : [3, 0, 0, 0, pickedOf a 3, pickedOf b 6] = ev := by simpa using unhide HV
    subst hv
    clear HV
    go_wp2_with fail
    go_region_held3 (fun w' => w'.cell? ⟨w.heap.size, 1, none⟩ = some (.int .i64 a) ∧ w'.cell? ⟨w.heap.size, 2, none⟩ = some (.int .i64 b)) (go_keep) ((go_at_call 13; refine (picked_any _ _ _ (by assumption) (by omega) (by omega)).mono ?_; rintro e w' ⟨rfl, rfl⟩))
    all_goals
      go_wp2
      exact bodyPost_ret (v := .agg #[.int .i64 3, .int .i64 0, .int .i64 0, .int .i64 0, .int .i64 (pickedOf a 3), .int .i64 (pickedOf b 6)]) (by simp [results, Try.results26, go_sem]) rfl ⟨rfl, (below2 _ _ _).drew⟩
  · have hv : [3, 0, 0, 0, pickedOf a 3, pickedOf b 6] = ev := by simpa using unhide HV
    subst hv
    clear HV
    go_wp2_with fail
    go_region_held3 (fun w' => w'.cell? ⟨w.heap.size, 1, none⟩ = some (.int .i64 a) ∧ w'.cell? ⟨w.heap.size, 2, none⟩ = some (.int .i64 b)) (go_keep) ((go_at_call 13; refine (picked_any _ _ _ (by assumption) (by omega) (by omega)).mono ?_; rintro e w' ⟨rfl, rfl⟩))
    all_goals
      go_wp2
      exact bodyPost_ret (v := .agg #[.int .i64 3, .int .i64 0, .int .i64 0, .int .i64 0, .int .i64 (pickedOf a 3), .int .i64 (pickedOf b 6)]) (by simp [results, Try.results26, go_sem]) rfl ⟨rfl, (below2 _ _ _).drew⟩
  · have hv : [4, 0, 0, 0, 0, 0] = ev := by simpa using unhide HV
    subst hv
    clear HV
    go_wp2
    exact bodyPost_ret (v := .agg #[.int .i64 4, .int .i64 0, .int .i64 0, .int .i64 0, .int .i64 0, .int .i64 0]) (by simp [results, Try.results26, go_sem]) rfl ⟨rfl, below2 _ _ _⟩
end Go.Proofs.Ytlfecmkpafgcmaa
