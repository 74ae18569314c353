/- Texts put together: QaG, BeJ, BeK. -/
import Derived.Test.YtbhlpiomoookcaaHsAll
import Derived.Test.YtbhlpiomoookcaaBeAll
namespace Go.Proofs.Ytbhlpiomoookcaa
open Go.RowKit

theorem evFlat_take (es : List Ev) (k : Nat) : (evFlat es).take (6 * k) = evFlat (es.take k) := by
  induction k generalizing es with
  | zero => simp [evFlat]
  | succ k ih =>
    cases es with
    | nil => simp [evFlat]
    | cons v es =>
      show (evCells v ++ evFlat es).take (6 * (k + 1)) = evCells v ++ evFlat (es.take k)
      rw [show 6 * (k + 1) = (evCells v).length + 6 * k by show _ = 6 + _; omega, List.take_append]
      rw [List.take_of_length_le (by omega), Nat.add_sub_cancel_left, ih]
theorem RowK.firsts {k : IntKind} {w : World} {a : Option Addr} {len : Nat} {l : List Int} (h : RowK k w a len l) (n : Nat) (hn : n ≤ len) : RowK k w a n (l.take n) := by
  have hl := h.len_eq
  refine ⟨by simp; omega, fun u hu => h.wf u (List.mem_of_mem_take hu), fun i hi => ?_⟩
  obtain ⟨b, off, ha, hlt, hc⟩ := h.cell i (by omega)
  refine ⟨b, off, ha, hlt, ?_⟩
  rw [hc]
  simp [hi]
theorem SameAt.symm {A B : List Int} {k : Nat} (h : SameAt A B k) : SameAt B A k := fun j hj => (h j hj).symm
theorem IsCommon.symm {A B : List Int} {la lb n : Nat} (h : IsCommon A B la lb n) : IsCommon B A lb la n :=
  ⟨h.leb, h.lea, fun k hk => (h.same k hk).symm, by
    rcases h.stop with h1 | h1 | h1
    · exact .inr (.inl h1)
    · exact .inl h1
    · exact .inr (.inr fun h2 => h1 h2.symm)⟩
theorem IsCommon.self {A : List Int} {la n : Nat} (h : IsCommon A A la la n) : n = la := by
  rcases h.stop with h1 | h1 | h1
  · exact h1
  · exact h1
  · exact absurd (fun j _ => rfl) h1
theorem IsCommon.least {A B : List Int} {la lb n k : Nat} (h : IsCommon A B la lb n) (hs : ∀ j, j < k → SameAt A B j) (ha : k ≤ la) (hb : k ≤ lb) : k ≤ n := by
  rcases Nat.lt_or_ge n k with h1 | h1
  · rcases h.stop with h2 | h2 | h2
    · omega
    · omega
    · exact absurd (hs n h1) h2
  · exact h1
theorem sameAt_take {es os : List Ev} {k : Nat} (h : es.take k = os.take k) (he : k ≤ es.length) (ho : k ≤ os.length) : ∀ j, j < k → SameAt (evFlat es) (evFlat os) j := by
  intro j hj i hi
  rw [evFlat_at es j (by omega) i hi, evFlat_at os j (by omega) i hi]
  have : es[j]'(by omega) = os[j]'(by omega) := by
    have h1 : (es.take k)[j]? = (os.take k)[j]? := by rw [h]
    rw [List.getElem?_take, List.getElem?_take, if_pos hj, if_pos hj, List.getElem?_eq_getElem (by omega), List.getElem?_eq_getElem (by omega)] at h1
    exact Option.some.inj h1
  rw [this]
/-- the other history, on its way. -/
structure Al (W3 wr : World) (base k m : Nat) (es os : List Ev) (v : Value) : Prop where
  own : wr.ownsRow base 33 6 v os.length ((evFlat os).map (Value.int .i64))
  len : os.length = k + m
  pre : es.take k = os.take k
  ok : ∀ v ∈ os, v.Ok
  bel : Below base W3 wr
end Go.Proofs.Ytbhlpiomoookcaa

namespace Go.Proofs.Ytbhlpiomoookcaa
open Go.RowKit

/-- where a cut begins. -/
def cutA (ad : Option Addr) (c l : Nat) : Option Addr := if c = l then ad else ad.map (·.add (l * 6))
theorem evT : Try.prog.underlying 42 = some (.slice (Try.prog.elem 42)) := by kernel_rfl
theorem evSize (w : World) : (sizeOf (Try.prog.elem 42)).run Try.prog w = .ok 6 w := by
  have : Try.prog.elem 42 = 33 := by kernel_rfl
  rw [this]
  simp [sizeOf, go_sem]
  rfl
theorem run_cut_lh (ad : Option Addr) (n c l h : Nat) (h1 : l ≤ h) (h2 : h ≤ c) (w : World) : (Instr.sliceAt 42 (.slice ad n c) (some (.int .i64 l)) (some (.int .i64 h)) none).run Try.prog w = .ok (.slice (cutA ad c l) (h - l) (c - l)) w := by
  rw [run_sliceAt_slice w _ _ _ _ _ evT, run_slice_lh w _ _ _ _ evT _ _ _ _ (by omega) (by omega) (by omega), evSize]
  simp [sliced, cutA]
theorem run_cut_l (ad : Option Addr) (n c l : Nat) (h1 : l ≤ n) (w : World) : (Instr.sliceAt 42 (.slice ad n c) (some (.int .i64 l)) none none).run Try.prog w = .ok (.slice (cutA ad c l) (n - l) (c - l)) w := by
  rw [run_sliceAt_slice w _ _ _ _ _ evT, run_slice_l w _ _ _ _ evT _ _ (by omega) (by omega), evSize]
  simp [sliced, cutA]
theorem run_cut_hm (ad : Option Addr) (n c h : Nat) (h1 : h ≤ c) (w : World) : (Instr.sliceAt 42 (.slice ad n c) none (some (.int .i64 h)) (some (.int .i64 h))).run Try.prog w = .ok (.slice (cutA ad h 0) h h) w := by
  rw [run_sliceAt_slice w _ _ _ _ _ evT, run_slice_hm w _ _ _ _ evT _ _ _ _ (by omega) (by omega) (by omega), evSize]
  simp [sliced, cutA]
theorem evFlat_drop : ∀ (es : List Ev) (l : Nat), evFlat (es.drop l) = (evFlat es).drop (6 * l)
  | es, 0 => by simp
  | [], l + 1 => by simp [evFlat]
  | v :: es, l + 1 => by
    rw [List.drop_succ_cons, evFlat_drop es l]
    show (evFlat es).drop (6 * l) = (evCells v ++ evFlat es).drop (6 * (l + 1))
    have e1 : List.drop ((evCells v).length + 6 * l) (evCells v) = [] := List.drop_eq_nil_of_le (by omega)
    rw [show 6 * (l + 1) = (evCells v).length + 6 * l by simp [evCells]; omega, List.drop_append, e1, Nat.add_sub_cancel_left, List.nil_append]
theorem RowK.within {k : IntKind} {w : World} {b off len : Nat} {L : List Int} (h : RowK k w (some ⟨b, off, none⟩) len L) (d m : Nat) (hd : d + m ≤ len) : RowK k w (some ⟨b, off + d, none⟩) m ((L.drop d).take m) := by
  have hl := h.len_eq
  refine ⟨by rw [List.length_take, List.length_drop]; omega, fun u hu => h.wf u (List.mem_of_mem_drop (List.mem_of_mem_take hu)), fun i hi => ⟨b, off + d, rfl, h.lt (by omega), ?_⟩⟩
  have hc := h.at (d + i) (by omega)
  rw [Nat.add_assoc, hc]
  congr 2
  simp only [List.getD_eq_getElem?_getD]
  rw [List.getElem?_take, if_pos hi, List.getElem?_drop]
/-- the events of a cut. -/
theorem cut_row {w : World} {ad : Option Addr} {n c : Nat} {es : List Ev} (hr : RowK .i64 w ad (6 * n) (evFlat es)) (nil : ad = none → c = 0) (l h : Nat) (h1 : l ≤ h) (h2 : h ≤ n) (hc : n ≤ c) :
    RowK .i64 w (cutA ad c l) (6 * (h - l)) (evFlat ((es.drop l).take (h - l))) ∧ (cutA ad c l = none → c - l = 0) := by
  have hfl : evFlat ((es.drop l).take (h - l)) = ((evFlat es).drop (6 * l)).take (6 * (h - l)) := by rw [← evFlat_take, evFlat_drop]
  unfold cutA
  by_cases hcl : c = l
  · rw [if_pos hcl]
    have : h - l = 0 := by omega
    rw [this]
    simp only [List.take_zero]
    exact ⟨RowK.nil _ _ _, fun _ => by omega⟩
  · rw [if_neg hcl]
    cases ad with
    | none => have := nil rfl; omega
    | some x =>
      refine ⟨?_, fun h => by simp at h⟩
      rcases Nat.eq_zero_or_pos (h - l) with h0 | h0
      · rw [h0]
        simp only [List.take_zero]
        exact RowK.nil _ _ _
      · obtain ⟨b, off, hx⟩ := hr.form (by omega)
        cases hx
        rw [hfl]
        have := hr.within (6 * l) (6 * (h - l)) (by omega)
        have e : (⟨b, off, none⟩ : Addr).add (l * 6) = ⟨b, off + 6 * l, none⟩ := by rw [Nat.mul_comm]; unfold Addr.add; split <;> simp_all
        simp only [Option.map_some]
        rw [e]
        exact this
section
variable {ops : Array Oper} {rest : List Oper} {o : Oper} {a : Act} {Q : Exit → Act → World → Prop} {w : World} {S : World → Prop} {ad : Option Addr} {n c l h : Nat}
theorem yields_cut_lh (x lo hi : Operand) (ho : o.op = .slice 42 x (some lo) (some hi) none) (hw : Region.wanted o (yielded ops a.tmps) = true) (hx : a.eval x = .slice ad n c) (hlo : a.eval lo = .int .i64 l) (hhi : a.eval hi = .int .i64 h) (h1 : l ≤ h) (h2 : h ≤ c) :
    YieldsIf Try.prog ops S o (.slice (cutA ad c l) (h - l) (c - l)) a :=
  .inl ⟨hw, fun w _ => by
    unfold execOp
    simp only [ho, Option.map_some, Option.map_none, hx, hlo, hhi]
    simp [run_cut_lh ad n c l h h1 h2 w, Result.andThen]⟩
theorem cut_l (x lo : Operand) (ho : o.op = .slice 42 x (some lo) none none) (hw : Region.wanted o (yielded ops a.tmps) = true) (hx : a.eval x = .slice ad n c) (hlo : a.eval lo = .int .i64 l) (h1 : l ≤ n)
    (h : wpList Try.prog ops Q rest (a.put o.dst (.slice (cutA ad c l) (n - l) (c - l))) w) : wpList Try.prog ops Q (o :: rest) a w :=
  wpList_step fun K hK => by
    rw [if_pos hw]
    have := hK _ _ h
    unfold Oper.wp
    simp only [execOp, ho, Option.map_some, Option.map_none, hx, hlo]
    simp [run_cut_l ad n c l h1 w, Result.andThen]
    exact this
theorem cut_hm (x hi hi' : Operand) (ho : o.op = .slice 42 x none (some hi) (some hi')) (hw : Region.wanted o (yielded ops a.tmps) = true) (hx : a.eval x = .slice ad n c) (hhi : a.eval hi = .int .i64 h) (hhi' : a.eval hi' = .int .i64 h) (h1 : h ≤ c)
    (hh : wpList Try.prog ops Q rest (a.put o.dst (.slice (cutA ad h 0) h h)) w) : wpList Try.prog ops Q (o :: rest) a w :=
  wpList_step fun K hK => by
    rw [if_pos hw]
    have := hK _ _ hh
    unfold Oper.wp
    simp only [execOp, ho, Option.map_some, Option.map_none, hx, hhi, hhi']
    simp [run_cut_hm ad n c h h1 w, Result.andThen]
    exact this
end
end Go.Proofs.Ytbhlpiomoookcaa

namespace Go.Proofs.Ytbhlpiomoookcaa
open Go.RowKit

theorem int_beq (m n : Nat) : ((m : Int) == (n : Int)) = decide (m = n) := by
  by_cases h : m = n
  · subst h; simp
  · rw [decide_eq_false h]; simp; omega
/-- what Part answers. -/
structure PartOut (w w' : World) (l : List Ev) (a : Option Addr) (c : Nat) : Prop where
  row : RowK .i64 w' a (6 * l.length) (evFlat l)
  cap : l.length ≤ c
  nil : a = none → c = 0
  up : ∀ x, a = some x → w.heap.size ≤ x.block
theorem ret_Part {W : World} {x : Value} {lt : Bool} {er : Int} {tmps : Array Value} (t4 : tmps[4]? = some x) (t5 : tmps[5]? = some (.bool lt)) (t6 : tmps[6]? = some (.int .i64 er)) :
    (results Try.f30 tmps).run Try.prog W = .ok (.tuple #[x, .bool lt, .int .i64 er]) W := by
  simp [results, Try.results30, t4, t5, t6]
set_option maxRecDepth 20000 in
set_option maxHeartbeats 4000000 in
theorem bpart_any (B : Bt) (a : Option Addr) (c : Nat) (hv : Int) (w : World) (hb : BIn w B a c) :
    Calls Try.prog 30 #[bVal B.r B.e B.f B.t B.o a B.es.length c, .int .i64 hv] w fun x w' => ∃ a' c' n' l lt er, x = .returned (.tuple #[.slice a' n' c', .bool lt, .int .i64 er]) ∧ n' = l.length ∧ partOf B hv = (l, lt, er) ∧ PartOut w w' l a' c' ∧ Below w.heap.size w w' := by
  obtain ⟨g, hg⟩ : ∃ g, tellOf B hv = g := ⟨_, rfl⟩
  have HG := veil hg
  go_enter Try.func30, Try.ntmps30
  go_upto_region 1 with fail
  obtain ⟨W1, hW1, k1, b1⟩ := one_b w B a c
  rw [← hW1]
  clear hW1
  have HT := mayTell_any B a c hv W1 (hb.next b1)
  rw [hg] at HT
  clear hg
  obtain ⟨x0, x1, x2, x3, x4, x5⟩ := k1.cells
  have HK := veil k1
  clear k1
  go_upto_region 2 with (first | (go_at_call 59; refine HT.mono ?_; rintro x W2 ⟨rfl, b2⟩; clear HT x0 x1 x2 x3 x4 x5; have HK2 := veil ((unveil HK).next b2); have HB2 := veil (Below.next b1 b2); clear HK b1 b2))
  by_cases h0 : g = 0
  case neg =>
    go_wp2
    exact bodyPost_ret (ret_Part rfl rfl rfl) rfl ⟨none, 0, 0, [], false, g, rfl, rfl, by unfold partOf; rw [unveil HG, if_pos h0], ⟨RowK.nil _ _ _, Nat.le_refl _, fun _ => rfl, fun x hx => by cases hx⟩, unveil HB2⟩
  case pos =>
  subst h0
  obtain ⟨ok, h1, h2, h3⟩ := tell_zero (unveil HG)
  obtain ⟨k, hk⟩ : ∃ k : Nat, hv = k := ⟨hv.toNat, by omega⟩
  subst hk
  have hkn : k ≤ B.es.length := by omega
  have hn2 := ok.len
  obtain ⟨m, hm⟩ : ∃ m : Nat, m = min (k + 3) B.es.length := ⟨_, rfl⟩
  have hm1 : k ≤ m ∧ m ≤ B.es.length := by omega
  have hw1 : IntKind.i64.wrap ((k : Int) + 3) = (k : Int) + 3 := by rw [IntKind.wrap_i64]; omega
  have hmin : min ((k : Int) + 3) (B.es.length : Int) = (m : Int) := by omega
  have hpart : ∀ lt, lt = decide (B.r = 3 ∧ B.es.length ≤ k + 3) → partOf B k = ((B.es.drop k).take (m - k), lt, 0) := fun lt hlt => by
    unfold partOf
    rw [unveil HG, if_neg (fun h => h rfl), hlt]
    simp only [Int.toNat_natCast]
    have e3 : (B.es.drop k).take 3 = (B.es.drop k).take (m - k) := by
      rcases Nat.lt_or_ge B.es.length (k + 3) with h | h
      · rw [show m - k = (B.es.drop k).length by rw [List.length_drop]; omega, List.take_length, List.take_of_length_le (by rw [List.length_drop]; omega)]
      · rw [show m - k = 3 by omega]
    rw [e3]
  have hll : ((B.es.drop k).take (m - k)).length = m - k := by rw [List.length_take, List.length_drop]; omega
  have hlast : (decide (B.r = 3 ∧ B.es.length ≤ k + 3)) = (decide (B.r = 3) && decide (m = B.es.length)) := by
    rw [← Bool.decide_and]
    congr 1
    simp only [eq_iff_iff]
    omega
  have HP := veil hpart
  have HL := veil (And.intro hll hlast)
  clear hpart hll hlast h2 h3 hm
  have hcap := hb.cap
  have HBe : Hid (∀ W, Below w.heap.size w W → Calls Try.prog 60 #[.slice none 0 0, .slice (cutA a c k) (m - k) (c - k)] W fun e w' => ∃ a' c', e = .returned (.slice a' (m - k : Nat) c') ∧ RowK .i64 w' a' (6 * (m - k)) (evFlat ((B.es.drop k).take (m - k))) ∧ m - k ≤ c' ∧ (a' = none → c' = 0) ∧ (∀ x, a' = some x → W.heap.size ≤ x.block) ∧ Below W.heap.size W w') := veil fun W bb => by
    obtain ⟨r1, n1⟩ := cut_row (hb.row.below bb) hb.nil k m hm1.1 hm1.2 hb.cap
    have := behind_any none (cutA a c k) 0 0 (m - k) (c - k) [] (evFlat ((B.es.drop k).take (m - k))) W (RowK.nil _ _ _) r1 (fun _ => rfl) n1 (by omega)
    simp only [Nat.zero_add, List.nil_append] at this
    exact this
  have hmc : m ≤ c := by omega
  obtain ⟨x0, x1, x2, x3, x4, x5⟩ := (unveil HK2).cells
  go_upto_region 5 with fail
  clear x0 x1 x2 x3 x4 x5
  have hx1 : B.r = 2 ∨ B.r = 3 := h1
  clear h1
  rcases hx1 with hx1 | hx1
  · refine wp_region_held_drew (S := fun u => bBlock u w.heap.size B.r B.e B.f B.t B.o a B.es.length c) (by kernel_rfl) ((unveil HK2).next (below_drew W2)) (fun hHeld => ?_)
    refine wpAnyH_take (i := 0) (v := .pointer (some ⟨w.heap.size, 5, none⟩)) rfl (by kernel_rfl) (by kernel_rfl) (by kernel_rfl) (fun _ _ _ h => h) (Or.inl ⟨by rfl, fun _ _ => by go_simp⟩) hHeld ?_
    simp only [List.getElem_toArray, List.getElem_cons_zero, Act.put, List.setIfInBounds_toArray, List.set_cons_zero, List.set_cons_succ]
    refine wpAnyH_take (i := 1) (v := .slice a B.es.length c) rfl (by kernel_rfl) (by kernel_rfl) (by kernel_rfl) (fun _ _ _ h => h) (Or.inl ⟨by rfl, fun u h => by obtain ⟨x0, x1, x2, x3, x4, x5⟩ := bBlock.cells h; go_simp⟩) hHeld ?_
    simp only [List.getElem_toArray, List.getElem_cons_zero, List.getElem_cons_succ, Act.put, List.setIfInBounds_toArray, List.set_cons_zero, List.set_cons_succ]
    refine wpAnyH_take (i := 2) (v := .int .i64 (k : Int)) rfl (by kernel_rfl) (by kernel_rfl) (by kernel_rfl) (fun _ _ _ h => h) (Or.inl ⟨by rfl, fun _ _ => by go_simp⟩) hHeld ?_
    simp only [List.getElem_toArray, List.getElem_cons_zero, List.getElem_cons_succ, Act.put, List.setIfInBounds_toArray, List.set_cons_zero, List.set_cons_succ]
    refine wpAnyH_take (i := 3) (v := .int .i64 (m : Int)) rfl (by kernel_rfl) (by kernel_rfl) (by kernel_rfl) (fun _ _ _ h => h) (Or.inl ⟨by rfl, fun _ _ => by go_simp⟩) hHeld ?_
    simp only [List.getElem_toArray, List.getElem_cons_zero, List.getElem_cons_succ, Act.put, List.setIfInBounds_toArray, List.set_cons_zero, List.set_cons_succ]
    refine wpAnyH_take (i := 4) (v := .slice (cutA a c k) (m - k) (c - k)) rfl (by kernel_rfl) (by kernel_rfl) (by kernel_rfl) (fun _ _ _ h => h) (yields_cut_lh _ _ _ rfl rfl rfl rfl rfl hm1.1 hmc) hHeld ?_
    simp only [List.getElem_toArray, List.getElem_cons_zero, List.getElem_cons_succ, Act.put, List.setIfInBounds_toArray, List.set_cons_zero, List.set_cons_succ]
    refine wpAnyH_take (i := 6) (v := .pointer (some ⟨w.heap.size, 0, none⟩)) rfl (by kernel_rfl) (by kernel_rfl) (by kernel_rfl) (fun _ _ _ h => h) (Or.inl ⟨by rfl, fun _ _ => by go_simp⟩) hHeld ?_
    simp only [List.getElem_toArray, List.getElem_cons_zero, List.getElem_cons_succ, Act.put, List.setIfInBounds_toArray, List.set_cons_zero, List.set_cons_succ]
    refine wpAnyH_take (i := 7) (v := .int .i64 B.r) rfl (by kernel_rfl) (by kernel_rfl) (by kernel_rfl) (fun _ _ _ h => h) (Or.inl ⟨by rfl, fun u h => by obtain ⟨x0, x1, x2, x3, x4, x5⟩ := bBlock.cells h; go_simp⟩) hHeld ?_
    simp only [List.getElem_toArray, List.getElem_cons_zero, List.getElem_cons_succ, Act.put, List.setIfInBounds_toArray, List.set_cons_zero, List.set_cons_succ]
    refine wpAnyH_take (i := 8) (v := .bool false) rfl (by kernel_rfl) (by kernel_rfl) (by kernel_rfl) (fun _ _ _ h => h) (Or.inl ⟨by rfl, fun u h => by go_simp⟩) hHeld ?_
    simp only [List.getElem_toArray, List.getElem_cons_zero, List.getElem_cons_succ, Act.put, List.setIfInBounds_toArray, List.set_cons_zero, List.set_cons_succ]
    have B0 := Below.next (unveil HB2) (below_drew W2)
    have k0 := (unveil HK2).next (below_drew W2)
    have hC := unveil HBe W2.drew B0
    obtain ⟨W0, hW0⟩ : ∃ W0, W0 = W2.drew := ⟨_, rfl⟩
    rw [← hW0] at B0 k0 hC hHeld ⊢
    clear hW0
    refine wpAnyH_ready (rs := [5]) (by kernel_rfl) (by simp) ?_
    refine AllReadyH.cons rfl (fun K hK => ?_) AllReadyH.nil
    simp only [List.getElem_toArray, List.getElem_cons_zero, List.getElem_cons_succ]
    go_simp
    refine hC.mono ?_
    rintro x W5 ⟨a', c', rfl, r5, hc5, n5, u5, b5⟩
    refine hK.out _ _ (k0.next b5) (fun hHeld => ?_)
    clear hK K hC
    refine wpAnyH_take (i := 9) (v := .bool false) rfl (by kernel_rfl) (by kernel_rfl) (by kernel_rfl) (fun _ _ _ h => h) (Or.inl ⟨by rfl, fun _ _ => by go_simp⟩) hHeld ?_
    simp only [List.getElem_toArray, List.getElem_cons_zero, List.getElem_cons_succ, Act.put, List.setIfInBounds_toArray, List.set_cons_zero, List.set_cons_succ]
    refine wpAnyH_take (i := 10) (v := undef) rfl (by kernel_rfl) (by kernel_rfl) (by kernel_rfl) (fun _ _ _ h => h) (Or.inr ⟨by rfl, rfl⟩) hHeld ?_
    simp only [List.getElem_toArray, List.getElem_cons_zero, List.getElem_cons_succ, Act.put, List.setIfInBounds_toArray, List.set_cons_zero, List.set_cons_succ]
    refine wpAnyH_take (i := 11) (v := undef) rfl (by kernel_rfl) (by kernel_rfl) (by kernel_rfl) (fun _ _ _ h => h) (Or.inr ⟨by rfl, rfl⟩) hHeld ?_
    simp only [List.getElem_toArray, List.getElem_cons_zero, List.getElem_cons_succ, Act.put, List.setIfInBounds_toArray, List.set_cons_zero, List.set_cons_succ]
    refine wpAnyH_take (i := 12) (v := undef) rfl (by kernel_rfl) (by kernel_rfl) (by kernel_rfl) (fun _ _ _ h => h) (Or.inr ⟨by rfl, rfl⟩) hHeld ?_
    simp only [List.getElem_toArray, List.getElem_cons_zero, List.getElem_cons_succ, Act.put, List.setIfInBounds_toArray, List.set_cons_zero, List.set_cons_succ]
    refine wpAnyH_take (i := 13) (v := undef) rfl (by kernel_rfl) (by kernel_rfl) (by kernel_rfl) (fun _ _ _ h => h) (Or.inr ⟨by rfl, rfl⟩) hHeld ?_
    simp only [List.getElem_toArray, List.getElem_cons_zero, List.getElem_cons_succ, Act.put, List.setIfInBounds_toArray, List.set_cons_zero, List.set_cons_succ]
    refine wpAnyH_take (i := 14) (v := undef) rfl (by kernel_rfl) (by kernel_rfl) (by kernel_rfl) (fun _ _ _ h => h) (Or.inr ⟨by rfl, rfl⟩) hHeld ?_
    simp only [List.getElem_toArray, List.getElem_cons_zero, List.getElem_cons_succ, Act.put, List.setIfInBounds_toArray, List.set_cons_zero, List.set_cons_succ]
    refine wpAnyH_take (i := 15) (v := .bool false) rfl (by kernel_rfl) (by kernel_rfl) (by kernel_rfl) (fun _ _ _ h => h) (Or.inl ⟨by rfl, fun _ _ => by go_simp⟩) hHeld ?_
    simp only [List.getElem_toArray, List.getElem_cons_zero, List.getElem_cons_succ, Act.put, List.setIfInBounds_toArray, List.set_cons_zero, List.set_cons_succ]
    refine wpAnyH_take (i := 16) (v := .slice a' (m - k : Nat) c') rfl (by kernel_rfl) (by kernel_rfl) (by kernel_rfl) (fun _ _ _ h => h) (Or.inl ⟨by rfl, fun _ _ => by go_simp⟩) hHeld ?_
    simp only [List.getElem_toArray, List.getElem_cons_zero, List.getElem_cons_succ, Act.put, List.setIfInBounds_toArray, List.set_cons_zero, List.set_cons_succ]
    refine wpAnyH_take (i := 17) (v := .bool false) rfl (by kernel_rfl) (by kernel_rfl) (by kernel_rfl) (fun _ _ _ h => h) (Or.inl ⟨by rfl, fun _ _ => by go_simp⟩) hHeld ?_
    simp only [List.getElem_toArray, List.getElem_cons_zero, List.getElem_cons_succ, Act.put, List.setIfInBounds_toArray, List.set_cons_zero, List.set_cons_succ]
    refine wpAnyH_take (i := 18) (v := .int .i64 0) rfl (by kernel_rfl) (by kernel_rfl) (by kernel_rfl) (fun _ _ _ h => h) (Or.inl ⟨by rfl, fun _ _ => by go_simp⟩) hHeld ?_
    simp only [List.getElem_toArray, List.getElem_cons_zero, List.getElem_cons_succ, Act.put, List.setIfInBounds_toArray, List.set_cons_zero, List.set_cons_succ]
    refine wpAnyH_done (by kernel_rfl) ?_ _
    have HR5 := veil r5
    have HU5 := veil u5
    have HB5 := veil (Below.next B0 b5)
    have hs0 := B0.size
    clear r5 u5 b5 hHeld k0 B0
    go_wp2
    have hl := (unveil HL).1
    exact bodyPost_ret (ret_Part rfl rfl rfl) rfl ⟨a', c', m - k, (B.es.drop k).take (m - k), false, 0, rfl, hl.symm, unveil HP _ (by rw [(unveil HL).2]; simp [hx1] <;> exact int_beq _ _), ⟨by rw [hl]; exact unveil HR5, by rw [hl]; exact hc5, n5, fun x hx => Nat.le_trans hs0 (unveil HU5 x hx)⟩, unveil HB5⟩
  · refine wp_region_held_drew (S := fun u => bBlock u w.heap.size B.r B.e B.f B.t B.o a B.es.length c) (by kernel_rfl) ((unveil HK2).next (below_drew W2)) (fun hHeld => ?_)
    refine wpAnyH_take (i := 0) (v := .pointer (some ⟨w.heap.size, 5, none⟩)) rfl (by kernel_rfl) (by kernel_rfl) (by kernel_rfl) (fun _ _ _ h => h) (Or.inl ⟨by rfl, fun _ _ => by go_simp⟩) hHeld ?_
    simp only [List.getElem_toArray, List.getElem_cons_zero, Act.put, List.setIfInBounds_toArray, List.set_cons_zero, List.set_cons_succ]
    refine wpAnyH_take (i := 1) (v := .slice a B.es.length c) rfl (by kernel_rfl) (by kernel_rfl) (by kernel_rfl) (fun _ _ _ h => h) (Or.inl ⟨by rfl, fun u h => by obtain ⟨x0, x1, x2, x3, x4, x5⟩ := bBlock.cells h; go_simp⟩) hHeld ?_
    simp only [List.getElem_toArray, List.getElem_cons_zero, List.getElem_cons_succ, Act.put, List.setIfInBounds_toArray, List.set_cons_zero, List.set_cons_succ]
    refine wpAnyH_take (i := 2) (v := .int .i64 (k : Int)) rfl (by kernel_rfl) (by kernel_rfl) (by kernel_rfl) (fun _ _ _ h => h) (Or.inl ⟨by rfl, fun _ _ => by go_simp⟩) hHeld ?_
    simp only [List.getElem_toArray, List.getElem_cons_zero, List.getElem_cons_succ, Act.put, List.setIfInBounds_toArray, List.set_cons_zero, List.set_cons_succ]
    refine wpAnyH_take (i := 3) (v := .int .i64 (m : Int)) rfl (by kernel_rfl) (by kernel_rfl) (by kernel_rfl) (fun _ _ _ h => h) (Or.inl ⟨by rfl, fun _ _ => by go_simp⟩) hHeld ?_
    simp only [List.getElem_toArray, List.getElem_cons_zero, List.getElem_cons_succ, Act.put, List.setIfInBounds_toArray, List.set_cons_zero, List.set_cons_succ]
    refine wpAnyH_take (i := 4) (v := .slice (cutA a c k) (m - k) (c - k)) rfl (by kernel_rfl) (by kernel_rfl) (by kernel_rfl) (fun _ _ _ h => h) (yields_cut_lh _ _ _ rfl rfl rfl rfl rfl hm1.1 hmc) hHeld ?_
    simp only [List.getElem_toArray, List.getElem_cons_zero, List.getElem_cons_succ, Act.put, List.setIfInBounds_toArray, List.set_cons_zero, List.set_cons_succ]
    refine wpAnyH_take (i := 6) (v := .pointer (some ⟨w.heap.size, 0, none⟩)) rfl (by kernel_rfl) (by kernel_rfl) (by kernel_rfl) (fun _ _ _ h => h) (Or.inl ⟨by rfl, fun _ _ => by go_simp⟩) hHeld ?_
    simp only [List.getElem_toArray, List.getElem_cons_zero, List.getElem_cons_succ, Act.put, List.setIfInBounds_toArray, List.set_cons_zero, List.set_cons_succ]
    refine wpAnyH_take (i := 7) (v := .int .i64 B.r) rfl (by kernel_rfl) (by kernel_rfl) (by kernel_rfl) (fun _ _ _ h => h) (Or.inl ⟨by rfl, fun u h => by obtain ⟨x0, x1, x2, x3, x4, x5⟩ := bBlock.cells h; go_simp⟩) hHeld ?_
    simp only [List.getElem_toArray, List.getElem_cons_zero, List.getElem_cons_succ, Act.put, List.setIfInBounds_toArray, List.set_cons_zero, List.set_cons_succ]
    refine wpAnyH_take (i := 8) (v := .bool true) rfl (by kernel_rfl) (by kernel_rfl) (by kernel_rfl) (fun _ _ _ h => h) (Or.inl ⟨by rfl, fun u h => by go_simp⟩) hHeld ?_
    simp only [List.getElem_toArray, List.getElem_cons_zero, List.getElem_cons_succ, Act.put, List.setIfInBounds_toArray, List.set_cons_zero, List.set_cons_succ]
    have B0 := Below.next (unveil HB2) (below_drew W2)
    have k0 := (unveil HK2).next (below_drew W2)
    have hC := unveil HBe W2.drew B0
    obtain ⟨W0, hW0⟩ : ∃ W0, W0 = W2.drew := ⟨_, rfl⟩
    rw [← hW0] at B0 k0 hC hHeld ⊢
    clear hW0
    refine wpAnyH_ready (rs := [5]) (by kernel_rfl) (by simp) ?_
    refine AllReadyH.cons rfl (fun K hK => ?_) AllReadyH.nil
    simp only [List.getElem_toArray, List.getElem_cons_zero, List.getElem_cons_succ]
    go_simp
    refine hC.mono ?_
    rintro x W5 ⟨a', c', rfl, r5, hc5, n5, u5, b5⟩
    refine hK.out _ _ (k0.next b5) (fun hHeld => ?_)
    clear hK K hC
    refine wpAnyH_take (i := 9) (v := .bool true) rfl (by kernel_rfl) (by kernel_rfl) (by kernel_rfl) (fun _ _ _ h => h) (Or.inl ⟨by rfl, fun _ _ => by go_simp⟩) hHeld ?_
    simp only [List.getElem_toArray, List.getElem_cons_zero, List.getElem_cons_succ, Act.put, List.setIfInBounds_toArray, List.set_cons_zero, List.set_cons_succ]
    refine wpAnyH_take (i := 10) (v := .int .i64 (m : Int)) rfl (by kernel_rfl) (by kernel_rfl) (by kernel_rfl) (fun _ _ _ h => h) (Or.inl ⟨by rfl, fun _ _ => by go_simp⟩) hHeld ?_
    simp only [List.getElem_toArray, List.getElem_cons_zero, List.getElem_cons_succ, Act.put, List.setIfInBounds_toArray, List.set_cons_zero, List.set_cons_succ]
    refine wpAnyH_take (i := 11) (v := .pointer (some ⟨w.heap.size, 5, none⟩)) rfl (by kernel_rfl) (by kernel_rfl) (by kernel_rfl) (fun _ _ _ h => h) (Or.inl ⟨by rfl, fun _ _ => by go_simp⟩) hHeld ?_
    simp only [List.getElem_toArray, List.getElem_cons_zero, List.getElem_cons_succ, Act.put, List.setIfInBounds_toArray, List.set_cons_zero, List.set_cons_succ]
    refine wpAnyH_take (i := 12) (v := .slice a B.es.length c) rfl (by kernel_rfl) (by kernel_rfl) (by kernel_rfl) (fun _ _ _ h => h) (Or.inl ⟨by rfl, fun u h => by obtain ⟨x0, x1, x2, x3, x4, x5⟩ := bBlock.cells h; go_simp⟩) hHeld ?_
    simp only [List.getElem_toArray, List.getElem_cons_zero, List.getElem_cons_succ, Act.put, List.setIfInBounds_toArray, List.set_cons_zero, List.set_cons_succ]
    refine wpAnyH_take (i := 13) (v := .int .i64 (B.es.length : Int)) rfl (by kernel_rfl) (by kernel_rfl) (by kernel_rfl) (fun _ _ _ h => h) (Or.inl ⟨by rfl, fun _ _ => by go_simp⟩) hHeld ?_
    simp only [List.getElem_toArray, List.getElem_cons_zero, List.getElem_cons_succ, Act.put, List.setIfInBounds_toArray, List.set_cons_zero, List.set_cons_succ]
    refine wpAnyH_take (i := 14) (v := .bool ((m : Int) == (B.es.length : Int))) rfl (by kernel_rfl) (by kernel_rfl) (by kernel_rfl) (fun _ _ _ h => h) (Or.inl ⟨by rfl, fun u h => by go_simp⟩) hHeld ?_
    simp only [List.getElem_toArray, List.getElem_cons_zero, List.getElem_cons_succ, Act.put, List.setIfInBounds_toArray, List.set_cons_zero, List.set_cons_succ]
    refine wpAnyH_take (i := 15) (v := .bool ((m : Int) == (B.es.length : Int))) rfl (by kernel_rfl) (by kernel_rfl) (by kernel_rfl) (fun _ _ _ h => h) (Or.inl ⟨by rfl, fun _ _ => by go_simp⟩) hHeld ?_
    simp only [List.getElem_toArray, List.getElem_cons_zero, List.getElem_cons_succ, Act.put, List.setIfInBounds_toArray, List.set_cons_zero, List.set_cons_succ]
    refine wpAnyH_take (i := 16) (v := .slice a' (m - k : Nat) c') rfl (by kernel_rfl) (by kernel_rfl) (by kernel_rfl) (fun _ _ _ h => h) (Or.inl ⟨by rfl, fun _ _ => by go_simp⟩) hHeld ?_
    simp only [List.getElem_toArray, List.getElem_cons_zero, List.getElem_cons_succ, Act.put, List.setIfInBounds_toArray, List.set_cons_zero, List.set_cons_succ]
    refine wpAnyH_take (i := 17) (v := .bool ((m : Int) == (B.es.length : Int))) rfl (by kernel_rfl) (by kernel_rfl) (by kernel_rfl) (fun _ _ _ h => h) (Or.inl ⟨by rfl, fun _ _ => by go_simp⟩) hHeld ?_
    simp only [List.getElem_toArray, List.getElem_cons_zero, List.getElem_cons_succ, Act.put, List.setIfInBounds_toArray, List.set_cons_zero, List.set_cons_succ]
    refine wpAnyH_take (i := 18) (v := .int .i64 0) rfl (by kernel_rfl) (by kernel_rfl) (by kernel_rfl) (fun _ _ _ h => h) (Or.inl ⟨by rfl, fun _ _ => by go_simp⟩) hHeld ?_
    simp only [List.getElem_toArray, List.getElem_cons_zero, List.getElem_cons_succ, Act.put, List.setIfInBounds_toArray, List.set_cons_zero, List.set_cons_succ]
    refine wpAnyH_done (by kernel_rfl) ?_ _
    have HR5 := veil r5
    have HU5 := veil u5
    have HB5 := veil (Below.next B0 b5)
    have hs0 := B0.size
    clear r5 u5 b5 hHeld k0 B0
    go_wp2
    have hl := (unveil HL).1
    exact bodyPost_ret (ret_Part rfl rfl rfl) rfl ⟨a', c', m - k, (B.es.drop k).take (m - k), ((m : Int) == (B.es.length : Int)), 0, rfl, hl.symm, unveil HP _ (by rw [(unveil HL).2]; simp [hx1] <;> exact int_beq _ _), ⟨by rw [hl]; exact unveil HR5, by rw [hl]; exact hc5, n5, fun x hx => Nat.le_trans hs0 (unveil HU5 x hx)⟩, unveil HB5⟩
end Go.Proofs.Ytbhlpiomoookcaa
