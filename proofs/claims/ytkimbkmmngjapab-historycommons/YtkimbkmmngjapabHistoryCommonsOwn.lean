/- For every two slices of events l and k, berthshiftlaw.HistoryCommons(l, k) returns true: history.Common tells with how many events two lists begin alike, as the document's answer does; both read behind the call as before it; no condition on them. -/
import Derived.Test.YtkimbkmmngjapabRows
import Derived.Test.YtkimbkmmngjapabHsA
import Derived.Test.YtkimbkmmngjapabHsO
namespace Go.Proofs.Ytkimbkmmngjapab
open Go.ChangeShapes Go.WideShapes Go.ChangeAt Go.RowKit

theorem own : ownKnob Try.prog.godebug = none := by kernel_rfl
theorem laidOut : laidOutB Try.prog = true := by kernel_rfl

theorem events_any (a : Option Addr) (la ca : Nat) (A : List Int) (w : World) (hA : RowK .i64 w a (6 * la) A) (hs : la * 48 ≤ 140737488351232) :
    Calls Try.prog 12 #[.slice a la ca] w fun e w' => ∃ v, e = .returned v ∧ w'.ownsRow w.heap.size 43 6 v la (A.map (Value.int .i64)) ∧ Below w.heap.size w w' := by
  go_enter Try.func12, Try.ntmps12
  go_wp2_with (go_at_call 27; refine (eventsCopy_any _ _ _ A _ hA hs).mono ?_; rintro e w1 ⟨v, rfl, o1, b1⟩)
  go_ret
  exact ⟨_, rfl, o1, b1⟩

set_option maxHeartbeats 2000000 in
theorem walk_HistoryCommons (w : World) (a : Option Addr) (la ca : Nat) (A : List Int) (hA : RowK .i64 w a (6 * la) A) (hc : la ≤ ca) (_ : a = none → ca = 0) (hz : ca * 48 ≤ 140737488351232) (b : Option Addr) (lb cb : Nat) (B : List Int) (hB : RowK .i64 w b (6 * lb) B) (hc' : lb ≤ cb) (_ : b = none → cb = 0) (hz' : cb * 48 ≤ 140737488351232) :
    Calls Try.prog 8 #[.slice a la ca, .slice b lb cb] w fun e w' => e = .returned (.bool true) ∧ Below w.heap.size w w' := by
  have wA := hA.wf
  have wB := hB.wf
  go_enter Try.func8, Try.ntmps8
  go_wp2_with fail
  refine (events_any a la ca A w hA (by omega)).mono ?_
  rintro e w1 ⟨v1, rfl, o1, b1⟩
  obtain ⟨a1, c1, rfl, r1, _, _, _, _⟩ := RowK.ofMany o1 wA
  go_wp2_with fail
  refine (events_any b lb cb B w1 (hB.below b1) (by omega)).mono ?_
  rintro e w2 ⟨v2, rfl, o2, b2⟩
  obtain ⟨a2, c2, rfl, r2, _, _, _, _⟩ := RowK.ofMany o2 wB
  have r1' := r1.below b2
  have B2 := Below.next b1 b2
  clear o1 o2 r1 b1 b2
  go_wp2_with fail
  refine (common_any a1 a2 la c1 lb c2 A B w2 r1' r2 (by omega) (by omega)).mono ?_
  rintro e w3 ⟨n, rfl, hn, b3⟩
  have B3 := Below.next B2 b3
  clear r1' r2 B2 b3
  go_wp2_with fail
  refine (commonTo_any a b la ca lb cb A B w3 (hA.below B3) (hB.below B3) (by omega) (by omega)).mono ?_
  rintro e w4 ⟨m, rfl, hm, b4⟩
  have B4 := Below.next B3 b4
  obtain rfl := hn.unique hm
  clear hn hm hA hB B3 b4
  go_wp2
  go_ret
  exact ⟨rfl, B4⟩

set_option linter.unusedVariables false in
set_option maxRecDepth 100000 in
theorem lifted_HistoryCommons (os : Os) (started : os.Started) (H : Type) (enc : TypeId × Value → H) :
    ReturnsInHanded {} Try.checked os 8 .any (Rows.historyCommonsSpec.pre6 enc Try.prog Try.f8 Rows.historyCommonsRow.domain false) (Rows.historyCommonsSpec.post enc Try.prog Try.f8 false true false false) := by
  refine returnsInHanded_of_change_sized (C := Try.checked) own started (by kernel_rfl) Try.func8
    (ChangeSpec.witness6 (enc := enc) (C := Try.checked) false ⟨#[], #[.slice none 0 0, .slice none 0 0], []⟩ 8 (by kernel_rfl) (by kernel_rfl) (by kernel_rfl) (by kernel_rfl)) ?_
  intro W base args ds gs before hval0 hW hcnd hsz0 _
  have hval : ∀ (j : Nat) t v, Try.f8.params[j]? = some t → args[j]? = some v → Value.okWide Try.prog W .any base t v := hval0
  have hsz : (DataW.weightsEach Try.prog (Try.f8.params.toList ++ Rows.historyCommonsSpec.plain.varTypes Try.prog) (ds ++ gs)).all (· ≤ reachBytes) = true := hsz0
  have hW' := hW
  obtain ⟨p, q, hA0, hV, rfl, hfz, hnd⟩ := hW
  have hA : DataW.TrodAll enc Try.prog W 0 (fun _ => true) true Try.f8.params.toList args.toList ds p := hA0
  rw [Try.params8] at hA hval hsz
  have hK := hA
  have hlt : ∀ x ∈ p, x.block < W.heap.size := fun x hx => hW'.lt x (by simp [hx])
  obtain ⟨v0, vs0, d0, ds0, p0, q0, hargs, rfl, rfl, h0, r0⟩ := trodAll_cons hA
  obtain ⟨v1, vs1, d1, ds1, p1, q1, rfl, rfl, rfl, h1, r1⟩ := trodAll_cons r0
  obtain ⟨rfl, rfl, rfl⟩ := trodAll_nil r1
  obtain rfl : args = #[v0, v1] := by cases args; simp_all
  obtain ⟨rfl, rfl⟩ := trodVars_none hV
  obtain ⟨a0, len0, cap0, l0, rfl, w0, lc0, cm0, na0, hd0⟩ := open_Events (hval 0 31 v0 rfl rfl) h0
  have z0 : cap0 * 48 ≤ 140737488351232 := open_sized (j := 0) (t := 31) (e := 43) hsz rfl rfl Try.underlying31 (by kernel_rfl) hd0
  clear hd0
  obtain ⟨a1, len1, cap1, l1, rfl, w1, lc1, cm1, na1, hd1⟩ := open_Events (hval 1 31 v1 rfl rfl) h1
  have z1 : cap1 * 48 ≤ 140737488351232 := open_sized (j := 1) (t := 31) (e := 43) hsz rfl rfl Try.underlying31 (by kernel_rfl) hd1
  clear hd1
  clear hA0 hval0 hsz0
  refine (walk_HistoryCommons W a0 len0 cap0 l0 w0 lc0 na0 z0 a1 len1 cap1 l1 w1 lc1 na1 z1).mono fun e W' ⟨he, bel⟩ => ?_
  subst he
  exact ⟨_, rfl, _, _, _, [], _, [], hW', trodAll_mk1 (shut_bool Try.underlying4 _), trodAll_stays laidOut (List.forall_mem_cons.2 ⟨⟨by kernel_rfl, of_decide_eq_true (by kernel_rfl)⟩, List.forall_mem_cons.2 ⟨⟨by kernel_rfl, of_decide_eq_true (by kernel_rfl)⟩, by intro t ht; cases ht⟩⟩) hK bel hlt, rfl, bel.frame _, fun h => by cases h⟩

theorem historyCommons_holds : Rows.HistoryCommonsSaid :=
  OpenClaim.holds_of_wide 8 Try.f8 rfl rfl rfl rfl rfl rfl rfl ⟨rfl, rfl, rfl, rfl, rfl⟩ rfl rfl rfl rfl rfl (by kernel_rfl) Try.func8 (by kernel_rfl)
    (of_decide_eq_true (by kernel_rfl)) (by unfold Func.isWrapper; first | (rw [if_pos (by decide +kernel)]; kernel_rfl) | (rw [if_neg (by decide +kernel)]; exact ⟨rfl, rfl⟩))
    (fun os started H enc _ => lifted_HistoryCommons os started H enc)
#print axioms historyCommons_holds
end Go.Proofs.Ytkimbkmmngjapab
