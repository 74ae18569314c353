/- For every slice of deeds l and every number cut, berthshiftkeep.TapeTorn(l, cut) returns true: of a torn tape just the whole records are read; the arguments read behind the call as before it; no condition on them. -/
import Derived.Test.YthbjnjbcmcollabRows
import Derived.Test.YthbjnjbcmcollabKtD
import Derived.Test.YthbjnjbcmcollabKtE
import Derived.Test.YthbjnjbcmcollabKtF
import Derived.Test.YthbjnjbcmcollabKtO
namespace Go.Proofs.Ythbjnjbcmcollab
open Go.ChangeShapes Go.WideShapes Go.ChangeAt Go.RowKit

theorem own : ownKnob Try.prog.godebug = none := by kernel_rfl
theorem laidOut : laidOutB Try.prog = true := by kernel_rfl

theorem RecRow.left {w : World} {a : Option Addr} {gs more : List (List Int)} (h : RecRow w a (gs ++ more)) : RecRow w a gs := by
  have hg : ∀ z ∈ gs, z.length = 10 := fun z hz => h.ten z (by simp [hz])
  have hf := flat_len gs hg
  refine ⟨hg, fun i hi => ?_⟩
  obtain ⟨b, off, ha, hlt, hc⟩ := h.cell i (by rw [List.length_append]; omega)
  refine ⟨b, off, ha, hlt, ?_⟩
  rw [hc, List.flatten_append]
  simp [List.getD_eq_getElem?_getD, List.getElem?_append_left (show i < gs.flatten.length by omega)]

set_option maxHeartbeats 2000000 in
theorem walk_TapeTorn (w : World) (a : Option Addr) (len cap : Nat) (D : List Int) (h : RowK .i64 w a (4 * len) D) (hc : len ≤ cap) (hm : cap ≤ maxLen) (_ : a = none → cap = 0) (cut : Int) (wc : (Lit.int .i64 cut).wf = true) :
    Calls Try.prog 5 #[.slice a len cap, .int .i64 cut] w fun e w' => e = .returned (.bool true) ∧ Below w.heap.size w w' := by
  go_enter Try.func5, Try.ntmps5
  go_wp2_with fail
  refine (taped_any a len cap D _ h hc (by unfold maxLen at hm; exact hm)).mono ?_
  rintro e w1 ⟨a1, n1, cap1, v1, rfl, r1, c1, hn1, m1, y1, o1, b1⟩
  have hm10 : min (len / 2) 10 ≤ 10 := by omega
  generalize min (len / 2) 10 = m at r1 o1 hm10
  have hg := recsOf_good D m
  have hrl := recsOf_len D m
  have hfl := framesOf_len (recsOf D m)
  have ht : ∀ z ∈ recsOf D m, z.length = 10 := fun z hz => (hg z hz).len
  obtain ⟨ar, capr, rfl, rr, hcr, _, _, _⟩ := RecRow.ofOwns o1 hrl ht
  have hn := r1.len_eq
  obtain ⟨k0', k1'⟩ := pickedOf_range cut ((n1 : Int) + 1) (by omega)
  obtain ⟨K, hK⟩ : ∃ K, pickedOf cut ((n1 : Int) + 1) = K := ⟨_, rfl⟩
  rw [hK] at k0' k1'
  obtain ⟨k, rfl⟩ : ∃ k : Nat, K = (k : Int) := ⟨K.toNat, by omega⟩
  have hk : k ≤ n1 := by omega
  obtain ⟨more, hmo, hiff⟩ := read_torn (recsOf D m) hg k (by omega)
  have hbo := readOf_bounds ((framesOf (recsOf D m)).take k)
  rw [hn] at hfl hiff
  rw [hrl] at hfl
  have HK := hide hK
  clear hK
  generalize recsOf D m = rs at r1 rr hrl hmo hiff hbo o1 hg ht
  generalize framesOf rs = T at r1 hn hmo hbo
  rw [List.length_take] at hbo
  clear hg ht o1 h hc
  have rk := r1.take k hk
  generalize T.take k = Tk at rk hmo hbo
  obtain ⟨gs, N, hro⟩ : ∃ gs N, readOf Tk = (gs, N) := ⟨_, _, rfl⟩
  rw [hro] at hmo hbo
  simp only at hmo hbo
  have HRO := hide hro
  clear hro
  subst hmo
  rw [List.length_append] at hrl
  have hw1 : IntKind.i64.wrap ((n1 : Int) + 1) = (n1 : Int) + 1 := by rw [IntKind.wrap_i64]; omega
  go_wp2_with fail
  obtain ⟨W, hW, t0, B0, S0⟩ : ∃ W, W = w1.alloc (.cells #[.slice a1 n1 cap1, .int .i64 0] 35) ∧ tapeBlock W w1.heap.size a1 n1 cap1 0 ∧ Below w1.heap.size w1 W ∧ W.heap.size = w1.heap.size + 1 := ⟨_, rfl, tapeBlock.new w1 a1 n1 cap1 0, below1 _ _, alloc_size _ _⟩
  rw [← hW]
  clear hW
  refine (picked_any _ _ _ wc (by omega) (by omega)).mono ?_
  rw [unhide HK]
  rintro e w2 ⟨rfl, rfl⟩
  have q0 := t0.cell0
  have hkc : (k : Int) ≤ (cap1 : Int) := by omega
  have rk2 := rk.below B0
  have rr2 := rr.below B0
  have B2 := Below.next b1 B0
  have hnk : a1 = none → k = 0 := fun h0 => by have := hn1 h0; omega
  clear rk rr B0 b1 r1
  go_wp2_with fail
  refine (read_any a1 k k Tk 0 _ rk2 hnk (Nat.le_refl _) (by omega) (by omega) (by omega) (by omega)).mono ?_
  rw [unhide HRO]
  rintro e w3 ⟨a3, cap3, rfl, r3, _, _, _, _, b3⟩
  have t3 := t0.below b3 t0.lt
  have rr3 := (rr2.below b3).left
  have B3 := Below.next B2 b3
  have q1 := t3.cell0
  clear t0 b3 rr2 q0
  simp only at r3 ⊢
  have hg1 : (N : Int) ≤ (k : Int) := by omega
  have hg2 : (gs.length : Int) ≤ (m : Int) := by omega
  have hg3 : (gs.length : Int) ≤ (capr : Int) := by omega
  obtain ⟨gl, hgl⟩ : ∃ gl, gs.length = gl := ⟨_, rfl⟩
  rw [hgl] at hg2 hg3 hrl ⊢
  have HG := hide hgl
  clear hgl
  go_wp2_with fail
  refine (sameRecordsK_yes a3 ar gl cap3 gl capr gs _ r3 rr3 (unhide HG).symm (unhide HG).symm (by omega)).mono ?_
  rintro e w5 ⟨rfl, q, hw5⟩
  have b5 : Below w3.heap.size w3 w5 := by rw [hw5]; exact belowN _ _
  clear hw5 q1
  have t5 := t3.below b5 t3.lt
  have q2 := t5.cell0
  by_cases hkn : k = n1
  · have hmm : more = [] := hiff.2 hkn
    have hgm : gl = m := by rw [hmm] at hrl; simpa using hrl
    subst hkn
    subst hgm
    have z1 : ¬ (k : Int) < (k : Int) := by omega
    have z2 : ((gl : Int) == (gl : Int)) = true := by simp
    have z3 : ((k : Int) == (k : Int)) = true := by simp
    clear hiff
    go_wp2
    go_ret
    exact ⟨rfl, Below.next B3 b5⟩
  · have hgm : ¬ gl = m := fun hh => hkn (hiff.1 (List.length_eq_zero_iff.1 (by omega)))
    have z1 : (k : Int) < (n1 : Int) := by omega
    have z2 : ((gl : Int) == (m : Int)) = false := by simp; omega
    have z3 : ((k : Int) == (n1 : Int)) = false := by simp; omega
    clear hiff
    go_wp2
    go_ret
    exact ⟨rfl, Below.next B3 b5⟩

set_option linter.unusedVariables false in
set_option maxRecDepth 100000 in
theorem lifted_TapeTorn (os : Os) (started : os.Started) (H : Type) (enc : TypeId × Value → H) :
    ReturnsInHanded {} Try.checked os 5 .any (Rows.tapeTornSpec.pre6 enc Try.prog Try.f5 Rows.tapeTornRow.domain false) (Rows.tapeTornSpec.post enc Try.prog Try.f5 false true false false) := by
  refine returnsInHanded_of_change_sized (C := Try.checked) own started (by kernel_rfl) Try.func5
    (ChangeSpec.witness6 (enc := enc) (C := Try.checked) false ⟨#[], #[.slice none 0 0, .int .i64 0], []⟩ 8 (by kernel_rfl) (by kernel_rfl) (by kernel_rfl) (by kernel_rfl)) ?_
  intro W base args ds gs before hval0 hW hcnd hsz0 _
  have hval : ∀ (j : Nat) t v, Try.f5.params[j]? = some t → args[j]? = some v → Value.okWide Try.prog W .any base t v := hval0
  have hsz : (DataW.weightsEach Try.prog (Try.f5.params.toList ++ Rows.tapeTornSpec.plain.varTypes Try.prog) (ds ++ gs)).all (· ≤ reachBytes) = true := hsz0
  have hW' := hW
  obtain ⟨p, q, hA0, hV, rfl, hfz, hnd⟩ := hW
  have hA : DataW.TrodAll enc Try.prog W 0 (fun _ => true) true Try.f5.params.toList args.toList ds p := hA0
  rw [Try.params5] at hA hval hsz
  have hK := hA
  have hlt : ∀ x ∈ p, x.block < W.heap.size := fun x hx => hW'.lt x (by simp [hx])
  obtain ⟨v0, vs0, d0, ds0, p0, q0, hargs, rfl, rfl, h0, r0⟩ := trodAll_cons hA
  obtain ⟨v1, vs1, d1, ds1, p1, q1, rfl, rfl, rfl, h1, r1⟩ := trodAll_cons r0
  obtain ⟨rfl, rfl, rfl⟩ := trodAll_nil r1
  obtain rfl : args = #[v0, v1] := by cases args; simp_all
  obtain ⟨rfl, rfl⟩ := trodVars_none hV
  obtain ⟨a0, len0, cap0, l0, rfl, w0, lc0, cm0, na0⟩ := open_Deeds (hval 0 30 v0 rfl rfl) h0
  obtain ⟨a1, rfl, rfl, rfl, w1⟩ := open_int Try.underlying3 (hval 1 3 v1 rfl rfl) h1
  clear hA0 hval0 hsz0
  refine (walk_TapeTorn W a0 len0 cap0 l0 w0 lc0 cm0 na0 a1 w1).mono fun e W' ⟨he, bel⟩ => ?_
  subst he
  exact ⟨_, rfl, _, _, _, [], _, [], hW', trodAll_mk1 (shut_bool Try.underlying4 _), trodAll_stays laidOut (List.forall_mem_cons.2 ⟨⟨by kernel_rfl, of_decide_eq_true (by kernel_rfl)⟩, List.forall_mem_cons.2 ⟨⟨by kernel_rfl, of_decide_eq_true (by kernel_rfl)⟩, by intro t ht; cases ht⟩⟩) hK bel hlt, rfl, bel.frame _, fun h => by cases h⟩

theorem tapeTorn_holds : Rows.TapeTornSaid :=
  OpenClaim.holds_of_wide 5 Try.f5 rfl rfl rfl rfl rfl rfl rfl ⟨rfl, rfl, rfl, rfl, rfl⟩ rfl rfl rfl rfl rfl (by kernel_rfl) Try.func5 (by kernel_rfl)
    (of_decide_eq_true (by kernel_rfl)) (by unfold Func.isWrapper; first | (rw [if_pos (by decide +kernel)]; kernel_rfl) | (rw [if_neg (by decide +kernel)]; exact ⟨rfl, rfl⟩))
    (fun os started H enc _ => lifted_TapeTorn os started H enc)
#print axioms tapeTorn_holds
end Go.Proofs.Ythbjnjbcmcollab
