/- Texts put together: QaG, BeJ, BeK. -/
import Derived.Test.YtbhlpiomoookcaaGreatHsAll
import Derived.Test.YtbhlpiomoookcaaGreatBeAll
namespace Go.Proofs.YtbhlpiomoookcaaGreat
open Go.RowKit

theorem evFlat_take (es : List Ev) (k : Nat) : (evFlat es).take (6 * k) = evFlat (es.take k) := by
  induction k generalizing es with
  | zero => simp [evFlat]
  | succ k ih =>
    cases es with
    | nil => simp [evFlat]
    | cons v es =>
      show (evCells v ++ evFlat es).take (6 * (k + 1)) = evCells v ++ evFlat (es.take k)
      rw [show 6 * (k + 1) = (evCells v).length + 6 * k by show _ = 6 + _; omega, List.take_append]
      rw [List.take_of_length_le (by omega), Nat.add_sub_cancel_left, ih]
theorem RowK.firsts {k : IntKind} {w : World} {a : Option Addr} {len : Nat} {l : List Int} (h : RowK k w a len l) (n : Nat) (hn : n ≤ len) : RowK k w a n (l.take n) := by
  have hl := h.len_eq
  refine ⟨by simp; omega, fun u hu => h.wf u (List.mem_of_mem_take hu), fun i hi => ?_⟩
  obtain ⟨b, off, ha, hlt, hc⟩ := h.cell i (by omega)
  refine ⟨b, off, ha, hlt, ?_⟩
  rw [hc]
  simp [hi]
theorem SameAt.symm {A B : List Int} {k : Nat} (h : SameAt A B k) : SameAt B A k := fun j hj => (h j hj).symm
theorem IsCommon.symm {A B : List Int} {la lb n : Nat} (h : IsCommon A B la lb n) : IsCommon B A lb la n :=
  ⟨h.leb, h.lea, fun k hk => (h.same k hk).symm, by
    rcases h.stop with h1 | h1 | h1
    · exact .inr (.inl h1)
    · exact .inl h1
    · exact .inr (.inr fun h2 => h1 h2.symm)⟩
theorem IsCommon.self {A : List Int} {la n : Nat} (h : IsCommon A A la la n) : n = la := by
  rcases h.stop with h1 | h1 | h1
  · exact h1
  · exact h1
  · exact absurd (fun j _ => rfl) h1
theorem IsCommon.least {A B : List Int} {la lb n k : Nat} (h : IsCommon A B la lb n) (hs : ∀ j, j < k → SameAt A B j) (ha : k ≤ la) (hb : k ≤ lb) : k ≤ n := by
  rcases Nat.lt_or_ge n k with h1 | h1
  · rcases h.stop with h2 | h2 | h2
    · omega
    · omega
    · exact absurd (hs n h1) h2
  · exact h1
theorem sameAt_take {es os : List Ev} {k : Nat} (h : es.take k = os.take k) (he : k ≤ es.length) (ho : k ≤ os.length) : ∀ j, j < k → SameAt (evFlat es) (evFlat os) j := by
  intro j hj i hi
  rw [evFlat_at es j (by omega) i hi, evFlat_at os j (by omega) i hi]
  have : es[j]'(by omega) = os[j]'(by omega) := by
    have h1 : (es.take k)[j]? = (os.take k)[j]? := by rw [h]
    rw [List.getElem?_take, List.getElem?_take, if_pos hj, if_pos hj, List.getElem?_eq_getElem (by omega), List.getElem?_eq_getElem (by omega)] at h1
    exact Option.some.inj h1
  rw [this]
/-- the other history, on its way. -/
structure Al (W3 wr : World) (base k m : Nat) (es os : List Ev) (v : Value) : Prop where
  own : wr.ownsRow base 50 6 v os.length ((evFlat os).map (Value.int .i64))
  len : os.length = k + m
  pre : es.take k = os.take k
  ok : ∀ v ∈ os, v.Ok
  bel : Below base W3 wr
end Go.Proofs.YtbhlpiomoookcaaGreat

namespace Go.Proofs.YtbhlpiomoookcaaGreat
open Go.RowKit

/-- where a cut begins. -/
def cutA (ad : Option Addr) (c l : Nat) : Option Addr := if c = l then ad else ad.map (·.add (l * 6))
theorem evT : Tryz.prog.underlying 22 = some (.slice (Tryz.prog.elem 22)) := by kernel_rfl
theorem evSize (w : World) : (sizeOf (Tryz.prog.elem 22)).run Tryz.prog w = .ok 6 w := by
  have : Tryz.prog.elem 22 = 50 := by kernel_rfl
  rw [this]
  simp [sizeOf, go_sem]
  rfl
theorem run_cut_lh (ad : Option Addr) (n c l h : Nat) (h1 : l ≤ h) (h2 : h ≤ c) (w : World) : (Instr.sliceAt 22 (.slice ad n c) (some (.int .i64 l)) (some (.int .i64 h)) none).run Tryz.prog w = .ok (.slice (cutA ad c l) (h - l) (c - l)) w := by
  rw [run_sliceAt_slice w _ _ _ _ _ evT, run_slice_lh w _ _ _ _ evT _ _ _ _ (by omega) (by omega) (by omega), evSize]
  simp [sliced, cutA]
theorem run_cut_l (ad : Option Addr) (n c l : Nat) (h1 : l ≤ n) (w : World) : (Instr.sliceAt 22 (.slice ad n c) (some (.int .i64 l)) none none).run Tryz.prog w = .ok (.slice (cutA ad c l) (n - l) (c - l)) w := by
  rw [run_sliceAt_slice w _ _ _ _ _ evT, run_slice_l w _ _ _ _ evT _ _ (by omega) (by omega), evSize]
  simp [sliced, cutA]
theorem run_cut_hm (ad : Option Addr) (n c h : Nat) (h1 : h ≤ c) (w : World) : (Instr.sliceAt 22 (.slice ad n c) none (some (.int .i64 h)) (some (.int .i64 h))).run Tryz.prog w = .ok (.slice (cutA ad h 0) h h) w := by
  rw [run_sliceAt_slice w _ _ _ _ _ evT, run_slice_hm w _ _ _ _ evT _ _ _ _ (by omega) (by omega) (by omega), evSize]
  simp [sliced, cutA]
theorem evFlat_drop : ∀ (es : List Ev) (l : Nat), evFlat (es.drop l) = (evFlat es).drop (6 * l)
  | es, 0 => by simp
  | [], l + 1 => by simp [evFlat]
  | v :: es, l + 1 => by
    rw [List.drop_succ_cons, evFlat_drop es l]
    show (evFlat es).drop (6 * l) = (evCells v ++ evFlat es).drop (6 * (l + 1))
    have e1 : List.drop ((evCells v).length + 6 * l) (evCells v) = [] := List.drop_eq_nil_of_le (by omega)
    rw [show 6 * (l + 1) = (evCells v).length + 6 * l by simp [evCells]; omega, List.drop_append, e1, Nat.add_sub_cancel_left, List.nil_append]
theorem RowK.within {k : IntKind} {w : World} {b off len : Nat} {L : List Int} (h : RowK k w (some ⟨b, off, none⟩) len L) (d m : Nat) (hd : d + m ≤ len) : RowK k w (some ⟨b, off + d, none⟩) m ((L.drop d).take m) := by
  have hl := h.len_eq
  refine ⟨by rw [List.length_take, List.length_drop]; omega, fun u hu => h.wf u (List.mem_of_mem_drop (List.mem_of_mem_take hu)), fun i hi => ⟨b, off + d, rfl, h.lt (by omega), ?_⟩⟩
  have hc := h.at (d + i) (by omega)
  rw [Nat.add_assoc, hc]
  congr 2
  simp only [List.getD_eq_getElem?_getD]
  rw [List.getElem?_take, if_pos hi, List.getElem?_drop]
/-- the events of a cut. -/
theorem cut_row {w : World} {ad : Option Addr} {n c : Nat} {es : List Ev} (hr : RowK .i64 w ad (6 * n) (evFlat es)) (nil : ad = none → c = 0) (l h : Nat) (h1 : l ≤ h) (h2 : h ≤ n) (hc : n ≤ c) :
    RowK .i64 w (cutA ad c l) (6 * (h - l)) (evFlat ((es.drop l).take (h - l))) ∧ (cutA ad c l = none → c - l = 0) := by
  have hfl : evFlat ((es.drop l).take (h - l)) = ((evFlat es).drop (6 * l)).take (6 * (h - l)) := by rw [← evFlat_take, evFlat_drop]
  unfold cutA
  by_cases hcl : c = l
  · rw [if_pos hcl]
    have : h - l = 0 := by omega
    rw [this]
    simp only [List.take_zero]
    exact ⟨RowK.nil _ _ _, fun _ => by omega⟩
  · rw [if_neg hcl]
    cases ad with
    | none => have := nil rfl; omega
    | some x =>
      refine ⟨?_, fun h => by simp at h⟩
      rcases Nat.eq_zero_or_pos (h - l) with h0 | h0
      · rw [h0]
        simp only [List.take_zero]
        exact RowK.nil _ _ _
      · obtain ⟨b, off, hx⟩ := hr.form (by omega)
        cases hx
        rw [hfl]
        have := hr.within (6 * l) (6 * (h - l)) (by omega)
        have e : (⟨b, off, none⟩ : Addr).add (l * 6) = ⟨b, off + 6 * l, none⟩ := by rw [Nat.mul_comm]; unfold Addr.add; split <;> simp_all
        simp only [Option.map_some]
        rw [e]
        exact this
section
variable {ops : Array Oper} {rest : List Oper} {o : Oper} {a : Act} {Q : Exit → Act → World → Prop} {w : World} {S : World → Prop} {ad : Option Addr} {n c l h : Nat}
theorem yields_cut_lh (x lo hi : Operand) (ho : o.op = .slice 22 x (some lo) (some hi) none) (hw : Region.wanted o (yielded ops a.tmps) = true) (hx : a.eval x = .slice ad n c) (hlo : a.eval lo = .int .i64 l) (hhi : a.eval hi = .int .i64 h) (h1 : l ≤ h) (h2 : h ≤ c) :
    YieldsIf Tryz.prog ops S o (.slice (cutA ad c l) (h - l) (c - l)) a :=
  .inl ⟨hw, fun w _ => by
    unfold execOp
    simp only [ho, Option.map_some, Option.map_none, hx, hlo, hhi]
    simp [run_cut_lh ad n c l h h1 h2 w, Result.andThen]⟩
theorem cut_l (x lo : Operand) (ho : o.op = .slice 22 x (some lo) none none) (hw : Region.wanted o (yielded ops a.tmps) = true) (hx : a.eval x = .slice ad n c) (hlo : a.eval lo = .int .i64 l) (h1 : l ≤ n)
    (h : wpList Tryz.prog ops Q rest (a.put o.dst (.slice (cutA ad c l) (n - l) (c - l))) w) : wpList Tryz.prog ops Q (o :: rest) a w :=
  wpList_step fun K hK => by
    rw [if_pos hw]
    have := hK _ _ h
    unfold Oper.wp
    simp only [execOp, ho, Option.map_some, Option.map_none, hx, hlo]
    simp [run_cut_l ad n c l h1 w, Result.andThen]
    exact this
theorem cut_hm (x hi hi' : Operand) (ho : o.op = .slice 22 x none (some hi) (some hi')) (hw : Region.wanted o (yielded ops a.tmps) = true) (hx : a.eval x = .slice ad n c) (hhi : a.eval hi = .int .i64 h) (hhi' : a.eval hi' = .int .i64 h) (h1 : h ≤ c)
    (hh : wpList Tryz.prog ops Q rest (a.put o.dst (.slice (cutA ad h 0) h h)) w) : wpList Tryz.prog ops Q (o :: rest) a w :=
  wpList_step fun K hK => by
    rw [if_pos hw]
    have := hK _ _ hh
    unfold Oper.wp
    simp only [execOp, ho, Option.map_some, Option.map_none, hx, hhi, hhi']
    simp [run_cut_hm ad n c h h1 w, Result.andThen]
    exact this
end
end Go.Proofs.YtbhlpiomoookcaaGreat

namespace Go.Proofs.YtbhlpiomoookcaaGreat
open Go.RowKit

theorem int_beq (m n : Nat) : ((m : Int) == (n : Int)) = decide (m = n) := by
  by_cases h : m = n
  · subst h; simp
  · rw [decide_eq_false h]; simp; omega
/-- what Part answers. -/
structure PartOut (w w' : World) (l : List Ev) (a : Option Addr) (c : Nat) : Prop where
  row : RowK .i64 w' a (6 * l.length) (evFlat l)
  cap : l.length ≤ c
  nil : a = none → c = 0
  up : ∀ x, a = some x → w.heap.size ≤ x.block
end Go.Proofs.YtbhlpiomoookcaaGreat
