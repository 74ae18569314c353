/- RebuildAlls (P8.2): rebuild.All answers what the document says, at every list of records, and changes none of them: for every list berthshiftlaw.RebuildAlls returns true; the list reads behind the call as before it. No condition. -/
import Derived.Test.YtcdopnkabbfooaaGreatRows
import Derived.Test.YtcdopnkabbfooaaGreatRmT
import Derived.Test.YtcdopnkabbfooaaGreatRaTop
namespace Go.Proofs.YtcdopnkabbfooaaGreat
open Go.ChangeShapes Go.WideShapes Go.ChangeAt Go.RowKit

theorem own : ownKnob Tryz.prog.godebug = none := by kernel_rfl
theorem laidOut : laidOutB Tryz.prog = true := by kernel_rfl
theorem walk_RebuildAlls (w : World) (a : Option Addr) (len cap : Nat) (D : List Int) (h : RowK .i64 w a (10 * len) D) (hc : len ≤ cap) (hnil : a = none → cap = 0) (hs : cap * 80 ≤ 140737488351232) :
    Calls Tryz.prog 4 #[.slice a len cap] w fun x w' => x = .returned (.bool true) ∧ Below w.heap.size w w' :=
  walkA_RebuildAlls (fun B a c r u hb hv => applied_full B a c r u hb hv) w a len cap D h hc hnil hs

set_option linter.unusedVariables false in
set_option maxRecDepth 100000 in
theorem lifted_RebuildAlls (os : Os) (started : os.Started) (H : Type) (enc : TypeId × Value → H) :
    ReturnsInHanded {} Tryz.checked os 4 .any (Rows.rebuildAllsSpec.pre6 enc Tryz.prog Tryz.f4 Rows.rebuildAllsRow.domain false) (Rows.rebuildAllsSpec.post enc Tryz.prog Tryz.f4 false true false false) := by
  refine returnsInHanded_of_change_sized (C := Tryz.checked) own started (by kernel_rfl) Tryz.func4
    (ChangeSpec.witness6 (enc := enc) (C := Tryz.checked) false ⟨#[], #[.slice none 0 0], []⟩ 8 (by kernel_rfl) (by kernel_rfl) (by kernel_rfl) (by kernel_rfl)) ?_
  intro W base args ds gs before hval0 hW hcnd hsz0 _
  have hval : ∀ (j : Nat) t v, Tryz.f4.params[j]? = some t → args[j]? = some v → Value.okWide Tryz.prog W .any base t v := hval0
  have hsz : (DataW.weightsEach Tryz.prog (Tryz.f4.params.toList ++ Rows.rebuildAllsSpec.plain.varTypes Tryz.prog) (ds ++ gs)).all (· ≤ reachBytes) = true := hsz0
  have hW' := hW
  obtain ⟨p, q, hA0, hV, rfl, hfz, hnd⟩ := hW
  have hA : DataW.TrodAll enc Tryz.prog W 0 (fun _ => true) true Tryz.f4.params.toList args.toList ds p := hA0
  rw [Tryz.params4] at hA hval hsz
  have hK := hA
  have hlt : ∀ x ∈ p, x.block < W.heap.size := fun x hx => hW'.lt x (by simp [hx])
  obtain ⟨v0, vs0, d0, ds0, p0, q0, hargs, rfl, rfl, h0, r0⟩ := trodAll_cons hA
  obtain ⟨rfl, rfl, rfl⟩ := trodAll_nil r0
  obtain rfl : args = #[v0] := by cases args; simp_all
  obtain ⟨rfl, rfl⟩ := trodVars_none hV
  obtain ⟨a0, len0, cap0, l0, rfl, w0, lc0, cm0, na0, hd0⟩ := open_Records (hval 0 37 v0 rfl rfl) h0
  have z0 : cap0 * 80 ≤ 140737488351232 := open_sized (j := 0) (t := 37) (e := 30) hsz rfl rfl Tryz.underlying37 (by kernel_rfl) hd0
  clear hd0
  clear hA0 hval0 hsz0
  refine (walk_RebuildAlls W a0 len0 cap0 l0 w0 lc0 na0 z0).mono fun e W' ⟨he, bel⟩ => ?_
  subst he
  exact ⟨_, rfl, _, _, _, [], _, [], hW', trodAll_mk1 (shut_bool Tryz.underlying4 _), trodAll_stays laidOut (List.forall_mem_cons.2 ⟨⟨by kernel_rfl, of_decide_eq_true (by kernel_rfl)⟩, by intro t ht; cases ht⟩) hK bel hlt, rfl, bel.frame _, fun h => by cases h⟩

theorem rebuildAlls_holds : Rows.RebuildAllsSaid :=
  OpenClaim.holds_of_wide 4 Tryz.f4 rfl rfl rfl rfl rfl rfl rfl ⟨rfl, rfl, rfl, rfl, rfl⟩ rfl rfl rfl rfl rfl (by kernel_rfl) Tryz.func4 (by kernel_rfl)
    (of_decide_eq_true (by kernel_rfl)) (by unfold Func.isWrapper; first | (rw [if_pos (by decide +kernel)]; kernel_rfl) | (rw [if_neg (by decide +kernel)]; exact ⟨rfl, rfl⟩))
    (fun os started H enc _ => lifted_RebuildAlls os started H enc)
#print axioms rebuildAlls_holds
end Go.Proofs.YtcdopnkabbfooaaGreat
