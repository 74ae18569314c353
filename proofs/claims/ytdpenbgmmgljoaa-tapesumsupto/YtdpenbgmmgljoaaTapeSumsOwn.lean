/- For every slice of bytes l that, with its spare places, is of bulk at most 1048576, berthshiftlaw.TapeSums(l) returns true: tape.Sum answers what the document's answer (P2.2) says; l reads behind the call as before it. (Without the bound the statement is false: the document's answer goes round at 2^63.) -/
import Derived.Test.YtdpenbgmmgljoaaRows
import Derived.Test.YtdpenbgmmgljoaaBulk
import Derived.Test.YtdpenbgmmgljoaaTpA
import Derived.JoinedCond
namespace Go.Proofs.Ytdpenbgmmgljoaa
open Go.ChangeShapes Go.WideShapes Go.ChangeAt Go.RowKit

theorem own : ownKnob Try.prog.godebug = none := by kernel_rfl
theorem laidOut : laidOutB Try.prog = true := by kernel_rfl

set_option maxHeartbeats 400000 in
theorem walk_TapeSums (w : World) (a : Option Addr) (len cap : Nat) (l : List Int) (h : RowK .u8 w a len l) (hc : len ≤ cap) (hn : a = none → cap = 0) (hz : cap * 1 ≤ 140737488351232) (hu : cap ≤ 1048576) :
    Calls Try.prog 3 #[.slice a len cap] w fun e w' => e = .returned (.bool true) ∧ Below w.heap.size w w' := by
  go_enter Try.func3, Try.ntmps3
  go_wp2_with fail
  refine (octets_any a len cap l _ h hc hn hz).mono ?_
  rintro e w1 ⟨a1, cap1, rfl, r1, c1, n1, m1, b1⟩
  go_wp2_with fail
  refine (sum_any a1 len cap1 l _ r1 (by omega)).mono ?_
  rintro e w2 ⟨rfl, rfl⟩
  go_wp2_with fail
  refine (summed_any a len cap l _ (h.below b1) (by omega)).mono ?_
  rintro e w3 ⟨rfl, rfl⟩
  have ee : (sumOf l == sumOf l) = true := by simp
  go_wp2
  go_ret
  exact ⟨rfl, b1⟩

set_option linter.unusedVariables false in
set_option maxRecDepth 100000 in
theorem lifted_TapeSums (os : Os) (started : os.Started) (H : Type) (enc : TypeId × Value → H) (F : Stop.Interp) :
    ReturnsInHanded {} Try.checked os 3 .any ((Rows.OpenSpec.upto Rows.tapeSumsSpec).pre6 enc Try.prog Try.f3 Rows.tapeSumsUptoRow.domain false) (((Rows.OpenSpec.upto Rows.tapeSumsSpec).at F).post enc Try.prog Try.f3 false true false false) := by
  refine returnsInHanded_of_cond (C := Try.checked) (s := Rows.OpenSpec.upto Rows.tapeSumsSpec) (k := Rows.uptoSmall) rfl own started (by kernel_rfl) Try.func3
    (OpenSpec.witness (enc := enc) (C := Try.checked) (s := Rows.OpenSpec.upto Rows.tapeSumsSpec) (k := Rows.uptoSmall) rfl false ⟨#[], #[.slice none 0 0], []⟩ 8 (by kernel_rfl) (by kernel_rfl) (by kernel_rfl)
      (x := ([.nil], [], [])) (by kernel_rfl) rfl (by kernel_rfl)) ?_
  intro W base args ds gs before hval0 hW hcnd hk _
  have hu := of_decide_eq_true hk
  have hval : ∀ (j : Nat) t v, Try.f3.params[j]? = some t → args[j]? = some v → Value.okWide Try.prog W .any base t v := hval0
  have hW' := hW
  obtain ⟨p, q, hA0, hV, rfl, hfz, hnd⟩ := hW
  have hA : DataW.TrodAll enc Try.prog W 0 (fun _ => true) true Try.f3.params.toList args.toList ds p := hA0
  rw [Try.params3] at hA hval
  have hK := hA
  have hlt : ∀ x ∈ p, x.block < W.heap.size := fun x hx => hW'.lt x (by simp [hx])
  obtain ⟨v0, vs0, d0, ds0, p0, q0, hargs, rfl, rfl, h0, r0⟩ := trodAll_cons hA
  obtain ⟨rfl, rfl, rfl⟩ := trodAll_nil r0
  obtain rfl : args = #[v0] := by cases args; simp_all
  obtain ⟨rfl, rfl⟩ := trodVars_none hV
  obtain ⟨a0, len0, cap0, l0, rfl, w0, lc0, cm0, na0, hd0⟩ := open_row Try.underlying22 Try.underlying5 (by kernel_rfl) (hval 0 22 v0 rfl rfl) h0
  have z0 : cap0 ≤ 1048576 := bulk_row hu (by simp) hd0
  clear hd0
  clear hA0 hval0
  refine (walk_TapeSums W a0 len0 cap0 l0 w0 lc0 na0 (by omega) z0).mono fun e W' ⟨he, bel⟩ => ?_
  subst he
  exact ⟨_, rfl, _, _, _, [], _, [], hW', trodAll_mk1 (shut_bool Try.underlying4 _), trodAll_stays laidOut (List.forall_mem_cons.2 ⟨⟨by kernel_rfl, of_decide_eq_true (by kernel_rfl)⟩, by intro t ht; cases ht⟩) hK bel hlt, rfl, bel.frame _, fun h => by cases h⟩

theorem tapeSums_upto : Rows.TapeSumsUptoSaid :=
  OpenClaim.holds_of_cond 3 Try.f3 rfl rfl rfl rfl rfl rfl rfl ⟨rfl, rfl, rfl, rfl, rfl⟩ rfl rfl rfl rfl rfl (by kernel_rfl) Try.func3 (by kernel_rfl)
    (of_decide_eq_true (by kernel_rfl)) (by unfold Func.isWrapper; first | (rw [if_pos (by decide +kernel)]; kernel_rfl) | (rw [if_neg (by decide +kernel)]; exact ⟨rfl, rfl⟩))
    (fun os started H enc _ F => lifted_TapeSums os started H enc F)
#print axioms tapeSums_upto
end Go.Proofs.Ytdpenbgmmgljoaa
