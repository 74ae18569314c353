/- For every slice of deeds l, berthshiftkeep.TapeBack(l) returns true: records are read as they were written; l reads behind the call as before it; no condition on l. -/
import Derived.Test.YtdpenbgmmgljoabRows
import Derived.Test.YtdpenbgmmgljoabKtD
import Derived.Test.YtdpenbgmmgljoabKtE
import Derived.Test.YtdpenbgmmgljoabKtF
import Derived.Test.YtdpenbgmmgljoabKtO
namespace Go.Proofs.Ytdpenbgmmgljoab
open Go.ChangeShapes Go.WideShapes Go.ChangeAt Go.RowKit

theorem own : ownKnob Try.prog.godebug = none := by kernel_rfl
theorem laidOut : laidOutB Try.prog = true := by kernel_rfl

set_option maxHeartbeats 2000000 in
theorem walk_TapeBack (w : World) (a : Option Addr) (len cap : Nat) (D : List Int) (h : RowK .i64 w a (4 * len) D) (hc : len ≤ cap) (hm : cap ≤ maxLen) (_ : a = none → cap = 0) :
    Calls Try.prog 5 #[.slice a len cap] w fun e w' => e = .returned (.bool true) ∧ Below w.heap.size w w' := by
  go_enter Try.func5, Try.ntmps5
  go_wp2_with fail
  refine (taped_any a len cap D _ h hc (by unfold maxLen at hm; exact hm)).mono ?_
  rintro e w1 ⟨a1, n1, cap1, v1, rfl, r1, c1, hn1, m1, y1, o1, b1⟩
  have hm10 : min (len / 2) 10 ≤ 10 := by omega
  generalize min (len / 2) 10 = m at r1 o1 hm10
  have hg := recsOf_good D m
  have hrl := recsOf_len D m
  have hfl := framesOf_len (recsOf D m)
  have hrd := read_frames (recsOf D m) hg
  have ht : ∀ z ∈ recsOf D m, z.length = 10 := fun z hz => (hg z hz).len
  obtain ⟨ar, capr, rfl, rr, _, _, _, _⟩ := RecRow.ofOwns o1 hrl ht
  have hn := r1.len_eq
  rw [hn] at hfl hrd
  rw [hrl] at hfl
  generalize recsOf D m = rs at r1 rr hrl hrd o1 hg ht
  generalize framesOf rs = T at r1 hrd hn
  clear hg ht o1 h hc
  have HRD := hide hrd
  clear hrd
  go_wp2_with fail
  obtain ⟨W, hW, t0, B0, S0⟩ : ∃ W, W = w1.alloc (.cells #[.slice a1 n1 cap1, .int .i64 0] 30) ∧ tapeBlock W w1.heap.size a1 n1 cap1 0 ∧ Below w1.heap.size w1 W ∧ W.heap.size = w1.heap.size + 1 := ⟨_, rfl, tapeBlock.new w1 a1 n1 cap1 0, below1 _ _, alloc_size _ _⟩
  rw [← hW]
  clear hW
  refine (read_any a1 n1 cap1 T 0 _ (r1.below B0) hn1 c1 m1 (by omega) (by omega) (by omega)).mono ?_
  rw [unhide HRD]
  rintro e w3 ⟨a3, cap3, rfl, r3, _, _, _, _, b3⟩
  have t3 := t0.below b3 t0.lt
  have rr3 := (rr.below B0).below b3
  have B3 := Below.next (Below.next b1 B0) b3
  have k0 := t3.cell0
  have k1 := t3.cell1
  have ee : ((n1 : Int) == (n1 : Int)) = true := by simp
  clear t0 B0 b3 b1 r1 rr
  simp only
  go_wp2_with fail
  refine (sameRecordsK_yes a3 ar m cap3 m capr rs _ r3 rr3 hrl.symm hrl.symm (by omega)).mono ?_
  rintro e w5 ⟨rfl, q, hw5⟩
  have b5 : Below w3.heap.size w3 w5 := by rw [hw5]; exact belowN _ _
  clear hw5 k0 k1
  have t5 := t3.below b5 t3.lt
  have k1 := t5.cell1
  go_wp2
  go_ret
  exact ⟨rfl, Below.next B3 b5⟩

set_option linter.unusedVariables false in
set_option maxRecDepth 100000 in
theorem lifted_TapeBack (os : Os) (started : os.Started) (H : Type) (enc : TypeId × Value → H) :
    ReturnsInHanded {} Try.checked os 5 .any (Rows.tapeBackSpec.pre6 enc Try.prog Try.f5 Rows.tapeBackRow.domain false) (Rows.tapeBackSpec.post enc Try.prog Try.f5 false true false false) := by
  refine returnsInHanded_of_change_sized (C := Try.checked) own started (by kernel_rfl) Try.func5
    (ChangeSpec.witness6 (enc := enc) (C := Try.checked) false ⟨#[], #[.slice none 0 0], []⟩ 8 (by kernel_rfl) (by kernel_rfl) (by kernel_rfl) (by kernel_rfl)) ?_
  intro W base args ds gs before hval0 hW hcnd hsz0 _
  have hval : ∀ (j : Nat) t v, Try.f5.params[j]? = some t → args[j]? = some v → Value.okWide Try.prog W .any base t v := hval0
  have hsz : (DataW.weightsEach Try.prog (Try.f5.params.toList ++ Rows.tapeBackSpec.plain.varTypes Try.prog) (ds ++ gs)).all (· ≤ reachBytes) = true := hsz0
  have hW' := hW
  obtain ⟨p, q, hA0, hV, rfl, hfz, hnd⟩ := hW
  have hA : DataW.TrodAll enc Try.prog W 0 (fun _ => true) true Try.f5.params.toList args.toList ds p := hA0
  rw [Try.params5] at hA hval hsz
  have hK := hA
  have hlt : ∀ x ∈ p, x.block < W.heap.size := fun x hx => hW'.lt x (by simp [hx])
  obtain ⟨v0, vs0, d0, ds0, p0, q0, hargs, rfl, rfl, h0, r0⟩ := trodAll_cons hA
  obtain ⟨rfl, rfl, rfl⟩ := trodAll_nil r0
  obtain rfl : args = #[v0] := by cases args; simp_all
  obtain ⟨rfl, rfl⟩ := trodVars_none hV
  obtain ⟨a0, len0, cap0, l0, rfl, w0, lc0, cm0, na0⟩ := open_Deeds (hval 0 28 v0 rfl rfl) h0
  clear hA0 hval0 hsz0
  refine (walk_TapeBack W a0 len0 cap0 l0 w0 lc0 cm0 na0).mono fun e W' ⟨he, bel⟩ => ?_
  subst he
  exact ⟨_, rfl, _, _, _, [], _, [], hW', trodAll_mk1 (shut_bool Try.underlying4 _), trodAll_stays laidOut (List.forall_mem_cons.2 ⟨⟨by kernel_rfl, of_decide_eq_true (by kernel_rfl)⟩, by intro t ht; cases ht⟩) hK bel hlt, rfl, bel.frame _, fun h => by cases h⟩

theorem tapeBack_holds : Rows.TapeBackSaid :=
  OpenClaim.holds_of_wide 5 Try.f5 rfl rfl rfl rfl rfl rfl rfl ⟨rfl, rfl, rfl, rfl, rfl⟩ rfl rfl rfl rfl rfl (by kernel_rfl) Try.func5 (by kernel_rfl)
    (of_decide_eq_true (by kernel_rfl)) (by unfold Func.isWrapper; first | (rw [if_pos (by decide +kernel)]; kernel_rfl) | (rw [if_neg (by decide +kernel)]; exact ⟨rfl, rfl⟩))
    (fun os started H enc _ => lifted_TapeBack os started H enc)
#print axioms tapeBack_holds
end Go.Proofs.Ytdpenbgmmgljoab
