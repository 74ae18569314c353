/- Texts put together: QaG, BeJ, BeK, BeL, BeM. -/
import Derived.Test.YtbhlpiomoookcaaGreatHsAll
import Derived.Test.YtbhlpiomoookcaaGreatBeAll
namespace Go.Proofs.YtbhlpiomoookcaaGreat
open Go.RowKit

theorem evFlat_take (es : List Ev) (k : Nat) : (evFlat es).take (6 * k) = evFlat (es.take k) := by
  induction k generalizing es with
  | zero => simp [evFlat]
  | succ k ih =>
    cases es with
    | nil => simp [evFlat]
    | cons v es =>
      show (evCells v ++ evFlat es).take (6 * (k + 1)) = evCells v ++ evFlat (es.take k)
      rw [show 6 * (k + 1) = (evCells v).length + 6 * k by show _ = 6 + _; omega, List.take_append]
      rw [List.take_of_length_le (by omega), Nat.add_sub_cancel_left, ih]
theorem RowK.firsts {k : IntKind} {w : World} {a : Option Addr} {len : Nat} {l : List Int} (h : RowK k w a len l) (n : Nat) (hn : n ≤ len) : RowK k w a n (l.take n) := by
  have hl := h.len_eq
  refine ⟨by simp; omega, fun u hu => h.wf u (List.mem_of_mem_take hu), fun i hi => ?_⟩
  obtain ⟨b, off, ha, hlt, hc⟩ := h.cell i (by omega)
  refine ⟨b, off, ha, hlt, ?_⟩
  rw [hc]
  simp [hi]
theorem SameAt.symm {A B : List Int} {k : Nat} (h : SameAt A B k) : SameAt B A k := fun j hj => (h j hj).symm
theorem IsCommon.symm {A B : List Int} {la lb n : Nat} (h : IsCommon A B la lb n) : IsCommon B A lb la n :=
  ⟨h.leb, h.lea, fun k hk => (h.same k hk).symm, by
    rcases h.stop with h1 | h1 | h1
    · exact .inr (.inl h1)
    · exact .inl h1
    · exact .inr (.inr fun h2 => h1 h2.symm)⟩
theorem IsCommon.self {A : List Int} {la n : Nat} (h : IsCommon A A la la n) : n = la := by
  rcases h.stop with h1 | h1 | h1
  · exact h1
  · exact h1
  · exact absurd (fun j _ => rfl) h1
theorem IsCommon.least {A B : List Int} {la lb n k : Nat} (h : IsCommon A B la lb n) (hs : ∀ j, j < k → SameAt A B j) (ha : k ≤ la) (hb : k ≤ lb) : k ≤ n := by
  rcases Nat.lt_or_ge n k with h1 | h1
  · rcases h.stop with h2 | h2 | h2
    · omega
    · omega
    · exact absurd (hs n h1) h2
  · exact h1
theorem sameAt_take {es os : List Ev} {k : Nat} (h : es.take k = os.take k) (he : k ≤ es.length) (ho : k ≤ os.length) : ∀ j, j < k → SameAt (evFlat es) (evFlat os) j := by
  intro j hj i hi
  rw [evFlat_at es j (by omega) i hi, evFlat_at os j (by omega) i hi]
  have : es[j]'(by omega) = os[j]'(by omega) := by
    have h1 : (es.take k)[j]? = (os.take k)[j]? := by rw [h]
    rw [List.getElem?_take, List.getElem?_take, if_pos hj, if_pos hj, List.getElem?_eq_getElem (by omega), List.getElem?_eq_getElem (by omega)] at h1
    exact Option.some.inj h1
  rw [this]
/-- the other history, on its way. -/
structure Al (W3 wr : World) (base k m : Nat) (es os : List Ev) (v : Value) : Prop where
  own : wr.ownsRow base 50 6 v os.length ((evFlat os).map (Value.int .i64))
  len : os.length = k + m
  pre : es.take k = os.take k
  ok : ∀ v ∈ os, v.Ok
  bel : Below base W3 wr
end Go.Proofs.YtbhlpiomoookcaaGreat

namespace Go.Proofs.YtbhlpiomoookcaaGreat
open Go.RowKit

/-- where a cut begins. -/
def cutA (ad : Option Addr) (c l : Nat) : Option Addr := if c = l then ad else ad.map (·.add (l * 6))
theorem evT : Tryz.prog.underlying 22 = some (.slice (Tryz.prog.elem 22)) := by kernel_rfl
theorem evSize (w : World) : (sizeOf (Tryz.prog.elem 22)).run Tryz.prog w = .ok 6 w := by
  have : Tryz.prog.elem 22 = 50 := by kernel_rfl
  rw [this]
  simp [sizeOf, go_sem]
  rfl
theorem run_cut_lh (ad : Option Addr) (n c l h : Nat) (h1 : l ≤ h) (h2 : h ≤ c) (w : World) : (Instr.sliceAt 22 (.slice ad n c) (some (.int .i64 l)) (some (.int .i64 h)) none).run Tryz.prog w = .ok (.slice (cutA ad c l) (h - l) (c - l)) w := by
  rw [run_sliceAt_slice w _ _ _ _ _ evT, run_slice_lh w _ _ _ _ evT _ _ _ _ (by omega) (by omega) (by omega), evSize]
  simp [sliced, cutA]
theorem run_cut_l (ad : Option Addr) (n c l : Nat) (h1 : l ≤ n) (w : World) : (Instr.sliceAt 22 (.slice ad n c) (some (.int .i64 l)) none none).run Tryz.prog w = .ok (.slice (cutA ad c l) (n - l) (c - l)) w := by
  rw [run_sliceAt_slice w _ _ _ _ _ evT, run_slice_l w _ _ _ _ evT _ _ (by omega) (by omega), evSize]
  simp [sliced, cutA]
theorem run_cut_hm (ad : Option Addr) (n c h : Nat) (h1 : h ≤ c) (w : World) : (Instr.sliceAt 22 (.slice ad n c) none (some (.int .i64 h)) (some (.int .i64 h))).run Tryz.prog w = .ok (.slice (cutA ad h 0) h h) w := by
  rw [run_sliceAt_slice w _ _ _ _ _ evT, run_slice_hm w _ _ _ _ evT _ _ _ _ (by omega) (by omega) (by omega), evSize]
  simp [sliced, cutA]
theorem evFlat_drop : ∀ (es : List Ev) (l : Nat), evFlat (es.drop l) = (evFlat es).drop (6 * l)
  | es, 0 => by simp
  | [], l + 1 => by simp [evFlat]
  | v :: es, l + 1 => by
    rw [List.drop_succ_cons, evFlat_drop es l]
    show (evFlat es).drop (6 * l) = (evCells v ++ evFlat es).drop (6 * (l + 1))
    have e1 : List.drop ((evCells v).length + 6 * l) (evCells v) = [] := List.drop_eq_nil_of_le (by omega)
    rw [show 6 * (l + 1) = (evCells v).length + 6 * l by simp [evCells]; omega, List.drop_append, e1, Nat.add_sub_cancel_left, List.nil_append]
theorem RowK.within {k : IntKind} {w : World} {b off len : Nat} {L : List Int} (h : RowK k w (some ⟨b, off, none⟩) len L) (d m : Nat) (hd : d + m ≤ len) : RowK k w (some ⟨b, off + d, none⟩) m ((L.drop d).take m) := by
  have hl := h.len_eq
  refine ⟨by rw [List.length_take, List.length_drop]; omega, fun u hu => h.wf u (List.mem_of_mem_drop (List.mem_of_mem_take hu)), fun i hi => ⟨b, off + d, rfl, h.lt (by omega), ?_⟩⟩
  have hc := h.at (d + i) (by omega)
  rw [Nat.add_assoc, hc]
  congr 2
  simp only [List.getD_eq_getElem?_getD]
  rw [List.getElem?_take, if_pos hi, List.getElem?_drop]
/-- the events of a cut. -/
theorem cut_row {w : World} {ad : Option Addr} {n c : Nat} {es : List Ev} (hr : RowK .i64 w ad (6 * n) (evFlat es)) (nil : ad = none → c = 0) (l h : Nat) (h1 : l ≤ h) (h2 : h ≤ n) (hc : n ≤ c) :
    RowK .i64 w (cutA ad c l) (6 * (h - l)) (evFlat ((es.drop l).take (h - l))) ∧ (cutA ad c l = none → c - l = 0) := by
  have hfl : evFlat ((es.drop l).take (h - l)) = ((evFlat es).drop (6 * l)).take (6 * (h - l)) := by rw [← evFlat_take, evFlat_drop]
  unfold cutA
  by_cases hcl : c = l
  · rw [if_pos hcl]
    have : h - l = 0 := by omega
    rw [this]
    simp only [List.take_zero]
    exact ⟨RowK.nil _ _ _, fun _ => by omega⟩
  · rw [if_neg hcl]
    cases ad with
    | none => have := nil rfl; omega
    | some x =>
      refine ⟨?_, fun h => by simp at h⟩
      rcases Nat.eq_zero_or_pos (h - l) with h0 | h0
      · rw [h0]
        simp only [List.take_zero]
        exact RowK.nil _ _ _
      · obtain ⟨b, off, hx⟩ := hr.form (by omega)
        cases hx
        rw [hfl]
        have := hr.within (6 * l) (6 * (h - l)) (by omega)
        have e : (⟨b, off, none⟩ : Addr).add (l * 6) = ⟨b, off + 6 * l, none⟩ := by rw [Nat.mul_comm]; unfold Addr.add; split <;> simp_all
        simp only [Option.map_some]
        rw [e]
        exact this
section
variable {ops : Array Oper} {rest : List Oper} {o : Oper} {a : Act} {Q : Exit → Act → World → Prop} {w : World} {S : World → Prop} {ad : Option Addr} {n c l h : Nat}
theorem yields_cut_lh (x lo hi : Operand) (ho : o.op = .slice 22 x (some lo) (some hi) none) (hw : Region.wanted o (yielded ops a.tmps) = true) (hx : a.eval x = .slice ad n c) (hlo : a.eval lo = .int .i64 l) (hhi : a.eval hi = .int .i64 h) (h1 : l ≤ h) (h2 : h ≤ c) :
    YieldsIf Tryz.prog ops S o (.slice (cutA ad c l) (h - l) (c - l)) a :=
  .inl ⟨hw, fun w _ => by
    unfold execOp
    simp only [ho, Option.map_some, Option.map_none, hx, hlo, hhi]
    simp [run_cut_lh ad n c l h h1 h2 w, Result.andThen]⟩
theorem cut_l (x lo : Operand) (ho : o.op = .slice 22 x (some lo) none none) (hw : Region.wanted o (yielded ops a.tmps) = true) (hx : a.eval x = .slice ad n c) (hlo : a.eval lo = .int .i64 l) (h1 : l ≤ n)
    (h : wpList Tryz.prog ops Q rest (a.put o.dst (.slice (cutA ad c l) (n - l) (c - l))) w) : wpList Tryz.prog ops Q (o :: rest) a w :=
  wpList_step fun K hK => by
    rw [if_pos hw]
    have := hK _ _ h
    unfold Oper.wp
    simp only [execOp, ho, Option.map_some, Option.map_none, hx, hlo]
    simp [run_cut_l ad n c l h1 w, Result.andThen]
    exact this
theorem cut_hm (x hi hi' : Operand) (ho : o.op = .slice 22 x none (some hi) (some hi')) (hw : Region.wanted o (yielded ops a.tmps) = true) (hx : a.eval x = .slice ad n c) (hhi : a.eval hi = .int .i64 h) (hhi' : a.eval hi' = .int .i64 h) (h1 : h ≤ c)
    (hh : wpList Tryz.prog ops Q rest (a.put o.dst (.slice (cutA ad h 0) h h)) w) : wpList Tryz.prog ops Q (o :: rest) a w :=
  wpList_step fun K hK => by
    rw [if_pos hw]
    have := hK _ _ hh
    unfold Oper.wp
    simp only [execOp, ho, Option.map_some, Option.map_none, hx, hhi, hhi']
    simp [run_cut_hm ad n c h h1 w, Result.andThen]
    exact this
end
end Go.Proofs.YtbhlpiomoookcaaGreat

namespace Go.Proofs.YtbhlpiomoookcaaGreat
open Go.RowKit

theorem int_beq (m n : Nat) : ((m : Int) == (n : Int)) = decide (m = n) := by
  by_cases h : m = n
  · subst h; simp
  · rw [decide_eq_false h]; simp; omega
/-- what Part answers. -/
structure PartOut (w w' : World) (l : List Ev) (a : Option Addr) (c : Nat) : Prop where
  row : RowK .i64 w' a (6 * l.length) (evFlat l)
  cap : l.length ≤ c
  nil : a = none → c = 0
  up : ∀ x, a = some x → w.heap.size ≤ x.block
end Go.Proofs.YtbhlpiomoookcaaGreat

namespace Go.Proofs.YtbhlpiomoookcaaGreat
open Go.RowKit

theorem Ev.ext6 {u v : Ev} (h : ∀ j, j < 6 → (evCells u).getD j 0 = (evCells v).getD j 0) : u = v := by
  have h0 := h 0 (by omega)
  have h1 := h 1 (by omega)
  have h2 := h 2 (by omega)
  have h3 := h 3 (by omega)
  have h4 := h 4 (by omega)
  have h5 := h 5 (by omega)
  cases u
  cases v
  simp [evCells] at h0 h1 h2 h3 h4 h5
  simp [h0, h1, h2, h3, h4, h5]
theorem sameAt_get {A B : List Ev} {k : Nat} (ha : k < A.length) (hb : k < B.length) (h : SameAt (evFlat A) (evFlat B) k) : A[k] = B[k] :=
  Ev.ext6 fun j hj => by rw [← evFlat_at A k ha j hj, ← evFlat_at B k hb j hj]; exact h j hj
/-- two lists go together just where they begin alike as far as both go. -/
theorem fits_common {H C : List Ev} {n : Nat} (h : IsCommon (evFlat H) (evFlat C) H.length C.length n) : C.take H.length = H.take C.length ↔ min H.length C.length ≤ n := by
  constructor
  · intro e
    refine h.least (k := min H.length C.length) ?_ (Nat.min_le_left _ _) (Nat.min_le_right _ _)
    have e2 : H.take (min H.length C.length) = C.take (min H.length C.length) := by
      rcases Nat.le_total H.length C.length with hle | hle
      · rw [Nat.min_eq_left hle, List.take_length]
        rw [List.take_of_length_le (l := H) (i := C.length) hle] at e
        exact e.symm
      · rw [Nat.min_eq_right hle, List.take_length]
        rw [List.take_of_length_le (l := C) (i := H.length) hle] at e
        exact e.symm
    exact sameAt_take e2 (Nat.min_le_left _ _) (Nat.min_le_right _ _)
  · intro hn
    apply List.ext_getElem (by simp [List.length_take, Nat.min_comm])
    intro i h1 h2
    have hi : i < H.length ∧ i < C.length := by simp only [List.length_take] at h1 h2; omega
    rw [List.getElem_take, List.getElem_take]
    exact (sameAt_get hi.1 hi.2 (h.same i (by omega))).symm
theorem ret_news {W : World} {x : Value} {k : Bool} {tmps : Array Value} (t6 : tmps[6]? = some x) (t7 : tmps[7]? = some (.bool k)) :
    (results Tryz.f29 tmps).run Tryz.prog W = .ok (.tuple #[x, .bool k]) W := by
  simp [results, Tryz.results29, t6, t7]
/-- what news answers. -/
structure NewsR (H C : List Ev) (last : Bool) (w' : World) (a' : Option Addr) (n' c' : Nat) (k : Bool) : Prop where
  yes : k = true → C.length ≤ 2000 ∧ Fits H C last ∧ n' = (C.drop H.length).length ∧ RowK .i64 w' a' (6 * n') (evFlat (C.drop H.length)) ∧ (a' = none → c' = 0)
  no : k = false → ¬ (C.length ≤ 2000 ∧ Fits H C last)
/-- all that news answers. -/
def NewsOut (H C : List Ev) (last : Bool) (w : World) (x : Ending) (w' : World) : Prop := ∃ a' n' c' k, x = .returned (.tuple #[.slice a' n' c', .bool k]) ∧ NewsR H C last w' a' n' c' k ∧ Below w.heap.size w w'
set_option maxRecDepth 20000 in
set_option maxHeartbeats 4000000 in
theorem news_any (H C : List Ev) (last : Bool) (a1 a2 : Option Addr) (n1 c1 n2 c2 : Nat) (w : World) (h1 : RowK .i64 w a1 (6 * n1) (evFlat H)) (e1 : n1 = H.length) (h2 : RowK .i64 w a2 (6 * n2) (evFlat C)) (e2 : n2 = C.length) (hn1 : n1 ≤ 2000) (hc2 : n2 ≤ c2) (nil2 : a2 = none → c2 = 0) :
    Calls Tryz.prog 29 #[.slice a1 n1 c1, .slice a2 n2 c2, .bool last] w (NewsOut H C last w) := by
  by_cases hbig : n2 ≤ 2000
  case neg =>
    have hb' : (2000 : Int) < (n2 : Int) := by omega
    go_enter Tryz.func29, Tryz.ntmps29
    go_wp2
    exact bodyPost_ret (ret_news rfl rfl) rfl ⟨none, 0, 0, false, rfl, ⟨fun h => (by cases h), fun _ h => by omega⟩, Below.refl _ _⟩
  case pos =>
  have HC := common_any a1 a2 n1 c1 n2 c2 (evFlat H) (evFlat C) w h1 h2 (by omega) (by omega)
  have H2 : Hid (∀ W, Below w.heap.size w W → RowK .i64 W a2 (6 * n2) (evFlat C)) := veil fun W b => h2.below b
  have HE := veil (And.intro e1 e2)
  clear h1 h2 e1 e2
  obtain ⟨M, hM⟩ : ∃ M, M = min n1 n2 := ⟨_, rfl⟩
  have hmin : min (n1 : Int) (n2 : Int) = (M : Int) := by omega
  have hMM : M ≤ n1 ∧ M ≤ n2 := by omega
  have HM := veil hM
  clear hM
  go_enter Tryz.func29, Tryz.ntmps29
  go_upto_region 4 with (go_at_call 35; refine HC.mono ?_; rintro x W1 ⟨k, rfl, hcm, b1⟩; have HCM := veil hcm; clear HC hcm)
  have hfit : C.take H.length = H.take C.length ↔ M ≤ k := by
    have hcm := unveil HCM
    obtain ⟨g1, g2⟩ := unveil HE
    rw [g1, g2] at hcm
    have := fits_common hcm
    rw [unveil HM, g1, g2]; exact this
  have hkm : k ≤ M := by
    have hcm := unveil HCM
    have := hcm.lea
    have := hcm.leb
    have := unveil HM
    omega
  have HF := veil hfit
  clear hfit HCM
  by_cases hk : k < M
  case pos =>
    have hk' : (k : Int) < (M : Int) := by omega
    go_wp2
    exact bodyPost_ret (ret_news rfl rfl) rfl ⟨none, 0, 0, false, rfl, ⟨fun h => (by cases h), fun _ h => by have := (unveil HF).1 h.2.1; omega⟩, b1⟩
  case neg =>
  have hk' : ¬ (k : Int) < (M : Int) := by omega
  have hkM : k = M := by omega
  have HKM := veil hkM
  clear hkM
  have hyes : ∀ (hl : last = true → n1 ≤ n2), NewsR H C last W1 (cutA a2 c2 k) (n2 - k) (c2 - k) true := fun hl => by
    have hkM := unveil HKM
    obtain ⟨g1, g2⟩ := unveil HE
    have gM := unveil HM
    obtain ⟨r1, nn⟩ := cut_row (unveil H2 W1 b1) nil2 k n2 (by omega) (Nat.le_refl _) hc2
    have hd : (C.drop k).take (n2 - k) = C.drop H.length := by
      rw [List.take_of_length_le (by rw [List.length_drop]; omega)]
      rcases Nat.le_total H.length C.length with hle | hle
      · rw [show k = H.length by omega]
      · rw [List.drop_of_length_le (by omega), List.drop_of_length_le (by omega)]
    rw [hd] at r1
    refine ⟨fun _ => ⟨by omega, ⟨(unveil HF).2 (by omega), fun h => by have := hl h; omega⟩, ?_, r1, nn⟩, fun h => by cases h⟩
    rw [List.length_drop]; omega
  have HY := veil hyes
  clear hyes
  have hk2 : k ≤ n2 := by omega
  cases last with
  | false =>
    go_wp2_with (refine cut_l _ _ rfl rfl rfl rfl hk2 ?_)
    exact bodyPost_ret (ret_news rfl rfl) rfl ⟨_, _, _, true, rfl, unveil HY (fun h => by cases h), b1⟩
  | true =>
    by_cases hl : k < n1
    · have hl' : (k : Int) < (n1 : Int) := by omega
      go_wp2
      exact bodyPost_ret (ret_news rfl rfl) rfl ⟨none, 0, 0, false, rfl, ⟨fun h => (by cases h), fun _ h => by
        have g := h.2.2 rfl
        obtain ⟨g1, g2⟩ := unveil HE
        have gM := unveil HM
        have := unveil HKM
        omega⟩, b1⟩
    · have hl' : ¬ (k : Int) < (n1 : Int) := by omega
      go_wp2_with (refine cut_l _ _ rfl rfl rfl rfl hk2 ?_)
      exact bodyPost_ret (ret_news rfl rfl) rfl ⟨_, _, _, true, rfl, unveil HY (fun _ => by have := unveil HKM; have := unveil HM; omega), b1⟩
end Go.Proofs.YtbhlpiomoookcaaGreat

namespace Go.Proofs.YtbhlpiomoookcaaGreat
open Go.RowKit

theorem ret_bImport {W : World} {R : Nat} {r e f t o : Int} {a : Option Addr} {n c : Nat} {er : Int} {tmps : Array Value} (d : bBlock W R r e f t o a n c) (t1 : tmps[10]? = some (.pointer (some ⟨R, 0, none⟩))) (t2 : tmps[11]? = some (.int .i64 er)) :
    (results Tryz.f13 tmps).run Tryz.prog W = .ok (.tuple #[bVal r e f t o a n c, .int .i64 er]) W := by
  simp [results, Tryz.results13, t1, t2, asAddr, load_berth d]
set_option maxRecDepth 20000 in
set_option maxHeartbeats 4000000 in
theorem bimport_any (B : Bt) (a : Option Addr) (c : Nat) (ep at' : Int) (l : List Ev) (al : Option Addr) (nl cl : Nat) (last : Bool) (w : World) (hb : BIn w B a c) (hl : RowK .i64 w al (6 * nl) (evFlat l)) (enl : nl = l.length) (hcl : nl ≤ cl) (nill : al = none → cl = 0) : Calls Tryz.prog 13 #[bVal B.r B.e B.f B.t B.o a B.es.length c, .int .i64 ep, .int .i64 at', .slice al nl cl, .bool last] w fun x w' => ∃ y B' er, x = .returned (.tuple #[y, .int .i64 er]) ∧ importOf B ep at' l last = (B', er) ∧ BOut w w' B' y ∧ Below w.heap.size w w' := by
  have HEN := veil enl
  clear enl
  by_cases ok : B.Ok
  case neg =>
    clear hl
    go_enter Tryz.func13, Tryz.ntmps13
    go_upto_region 1 with fail
    obtain ⟨W1, hW1, M1⟩ := Mb.made w B a c
    rw [← hW1]
    clear hW1
    have HC := bcheck_no B a c W1 (hb.next M1.bel) ok
    obtain ⟨x0, x1, x2, x3, x4, x5⟩ := M1.b.cells
    have HM := veil M1
    clear M1
    go_wp2_with (first | (go_at_call 21; refine HC.mono ?_; rintro x W2 ⟨rfl, b2⟩; clear HC x0 x1 x2 x3 x4 x5; have M2 := (unveil HM).next b2; obtain ⟨x0, x1, x2, x3, x4, x5⟩ := M2.b.cells; have HM2 := veil M2; clear M2 b2 HM) | (go_at_call 18; refine (refuse_any _ _).mono ?_; rintro x W9 ⟨rfl, b9⟩; have M9 := (unveil HM2).next b9; clear x0 x1 x2 x3 x4 x5; obtain ⟨z0, z1, z2, z3, z4, z5⟩ := M9.z.cells; have zf := M9.z.free; have HM9 := veil M9; clear M9 b9 HM2))
    obtain ⟨W4, hW4, d4, b4, _⟩ := b_stored (unveil HM9).z (unveil HM9).bel (show w.heap.size ≤ w.heap.size + 1 by omega) 0 0 0 0 0 none 0 0
    rw [← hW4]
    exact bodyPost_ret (ret_bImport d4 rfl rfl) rfl ⟨_, _, _, rfl, by unfold importOf; rw [if_pos ok], BOut.zero _ _, b4⟩
  case pos =>
  by_cases h1 : B.r = 4
  case neg =>
    clear hl
    go_enter Tryz.func13, Tryz.ntmps13
    go_upto_region 1 with fail
    obtain ⟨W1, hW1, M1⟩ := Mb.made w B a c
    rw [← hW1]
    clear hW1
    have HC := bcheck_yes B a c W1 (hb.next M1.bel) ok
    obtain ⟨x0, x1, x2, x3, x4, x5⟩ := M1.b.cells
    have HM := veil M1
    clear M1
    go_wp2_with (first | (go_at_call 21; refine HC.mono ?_; rintro x W2 ⟨rfl, b2⟩; clear HC x0 x1 x2 x3 x4 x5; have M2 := (unveil HM).next b2; obtain ⟨x0, x1, x2, x3, x4, x5⟩ := M2.b.cells; have HM2 := veil M2; clear M2 b2 HM) | (go_at_call 18; refine (refuse_any _ _).mono ?_; rintro x W9 ⟨rfl, b9⟩; have M9 := (unveil HM2).next b9; clear x0 x1 x2 x3 x4 x5; obtain ⟨z0, z1, z2, z3, z4, z5⟩ := M9.z.cells; have zf := M9.z.free; have HM9 := veil M9; clear M9 b9 HM2))
    obtain ⟨W4, hW4, d4, b4, _⟩ := b_stored (unveil HM9).z (unveil HM9).bel (show w.heap.size ≤ w.heap.size + 1 by omega) 0 0 0 0 0 none 0 0
    rw [← hW4]
    exact bodyPost_ret (ret_bImport d4 rfl rfl) rfl ⟨_, _, _, rfl, by unfold importOf; rw [if_neg (fun h => h ok), if_pos h1], BOut.zero _ _, b4⟩
  case pos =>
  have H1 := veil h1
  clear h1
  by_cases h2 : B.e = ep
  case neg =>
    clear hl
    go_enter Tryz.func13, Tryz.ntmps13
    go_upto_region 1 with fail
    obtain ⟨W1, hW1, M1⟩ := Mb.made w B a c
    rw [← hW1]
    clear hW1
    have HC := bcheck_yes B a c W1 (hb.next M1.bel) ok
    obtain ⟨x0, x1, x2, x3, x4, x5⟩ := M1.b.cells
    have HM := veil M1
    clear M1
    go_upto_region 3 with (first | (go_at_call 21; refine HC.mono ?_; rintro x W2 ⟨rfl, b2⟩; clear HC x0 x1 x2 x3 x4 x5; have M2 := (unveil HM).next b2; obtain ⟨x0, x1, x2, x3, x4, x5⟩ := M2.b.cells; have HM2 := veil M2; clear M2 b2 HM))
    have h1 := unveil H1
    go_upto_region 5 with fail
    clear h1
    go_wp2_with (first | (go_at_call 18; refine (refuse_any _ _).mono ?_; rintro x W9 ⟨rfl, b9⟩; have M9 := (unveil HM2).next b9; clear x0 x1 x2 x3 x4 x5; obtain ⟨z0, z1, z2, z3, z4, z5⟩ := M9.z.cells; have zf := M9.z.free; have HM9 := veil M9; clear M9 b9 HM2))
    obtain ⟨W4, hW4, d4, b4, _⟩ := b_stored (unveil HM9).z (unveil HM9).bel (show w.heap.size ≤ w.heap.size + 1 by omega) 0 0 0 0 0 none 0 0
    rw [← hW4]
    exact bodyPost_ret (ret_bImport d4 rfl rfl) rfl ⟨_, _, _, rfl, by unfold importOf; rw [if_neg (fun h => h ok), if_neg (fun h => h (unveil H1)), if_pos h2], BOut.zero _ _, b4⟩
  case pos =>
  have H2 := veil h2
  clear h2
  have HWi := fun w => within_any at' B.es.length w
  by_cases h3 : 0 ≤ at' ∧ at' ≤ B.es.length
  case neg =>
    rw [decide_eq_false h3] at HWi
    have H3 := veil h3
    clear hl h3
    go_enter Tryz.func13, Tryz.ntmps13
    go_upto_region 1 with fail
    obtain ⟨W1, hW1, M1⟩ := Mb.made w B a c
    rw [← hW1]
    clear hW1
    have HC := bcheck_yes B a c W1 (hb.next M1.bel) ok
    obtain ⟨x0, x1, x2, x3, x4, x5⟩ := M1.b.cells
    have HM := veil M1
    clear M1
    go_upto_region 3 with (first | (go_at_call 21; refine HC.mono ?_; rintro x W2 ⟨rfl, b2⟩; clear HC x0 x1 x2 x3 x4 x5; have M2 := (unveil HM).next b2; obtain ⟨x0, x1, x2, x3, x4, x5⟩ := M2.b.cells; have HM2 := veil M2; clear M2 b2 HM))
    have h1 := unveil H1
    go_upto_region 5 with fail
    clear h1
    have h2 := unveil H2
    go_upto_region 7 with fail
    clear h2
    go_wp2_with (first | (go_at_call 28; refine (HWi _).mono ?_; rintro x w3 ⟨rfl, hw3⟩; subst w3) | (go_at_call 18; refine (refuse_any _ _).mono ?_; rintro x W9 ⟨rfl, b9⟩; have M9 := (unveil HM2).next b9; clear x0 x1 x2 x3 x4 x5; obtain ⟨z0, z1, z2, z3, z4, z5⟩ := M9.z.cells; have zf := M9.z.free; have HM9 := veil M9; clear M9 b9 HM2))
    obtain ⟨W4, hW4, d4, b4, _⟩ := b_stored (unveil HM9).z (unveil HM9).bel (show w.heap.size ≤ w.heap.size + 1 by omega) 0 0 0 0 0 none 0 0
    rw [← hW4]
    exact bodyPost_ret (ret_bImport d4 rfl rfl) rfl ⟨_, _, _, rfl, by unfold importOf; rw [if_neg (fun h => h ok), if_neg (fun h => h (unveil H1)), if_neg (fun h => h (unveil H2)), if_pos (unveil H3)], BOut.zero _ _, b4⟩
  case pos =>
  rw [decide_eq_true h3] at HWi
  obtain ⟨k, hk⟩ : ∃ k : Nat, at' = k := ⟨at'.toNat, by omega⟩
  subst hk
  have hkn : k ≤ B.es.length := by omega
  have H3 := veil h3
  clear h3
  have hn2 := ok.len
  have HNw : Hid (∀ W, Below w.heap.size w W → Calls Tryz.prog 29 #[.slice (cutA a c k) (B.es.length - k) (c - k), .slice al nl cl, .bool last] W (NewsOut (B.es.drop k) l last W)) := veil fun W bb => by
    obtain ⟨r1, n1⟩ := cut_row (hb.row.below bb) hb.nil k B.es.length hkn (Nat.le_refl _) hb.cap
    rw [List.take_of_length_le (by rw [List.length_drop]; omega)] at r1
    exact news_any (B.es.drop k) l last (cutA a c k) al (B.es.length - k) (c - k) nl cl W r1 (by rw [List.length_drop]) (hl.below bb) (unveil HEN) (by omega) hcl nill
  go_enter Tryz.func13, Tryz.ntmps13
  go_upto_region 1 with fail
  obtain ⟨W1, hW1, M1⟩ := Mb.made w B a c
  rw [← hW1]
  clear hW1
  have HC := bcheck_yes B a c W1 (hb.next M1.bel) ok
  obtain ⟨x0, x1, x2, x3, x4, x5⟩ := M1.b.cells
  have HM := veil M1
  clear M1
  go_upto_region 3 with (first | (go_at_call 21; refine HC.mono ?_; rintro x W2 ⟨rfl, b2⟩; clear HC x0 x1 x2 x3 x4 x5; have M2 := (unveil HM).next b2; obtain ⟨x0, x1, x2, x3, x4, x5⟩ := M2.b.cells; have HM2 := veil M2; clear M2 b2 HM))
  have h1 := unveil H1
  go_upto_region 5 with fail
  clear h1
  have h2 := unveil H2
  go_upto_region 7 with fail
  clear h2
  go_upto_region 9 with (first | (go_at_call 28; refine (HWi _).mono ?_; rintro x w3 ⟨rfl, hw3⟩; subst w3))
  clear HWi
  have hNw := unveil HNw W2 (unveil HM2).bel
  clear HNw
  go_upto_region 10 with (first
    | (refine cut_l _ _ rfl rfl rfl rfl hkn ?_)
    | (go_at_call 29; refine hNw.mono ?_; rintro x W3 ⟨a3, n3, c3, kk, rfl, nr, b3⟩; have HNR := veil nr; have M3 := (unveil HM2).next b3; clear hNw nr HM2 x0 x1 x2 x3 x4 x5; obtain ⟨x0, x1, x2, x3, x4, x5⟩ := M3.b.cells; have HM2 := veil M3; clear M3 b3))
  obtain ⟨ls, hls⟩ : ∃ ls, ls = l.drop (B.es.length - k) := ⟨_, rfl⟩
  have hlH : (B.es.drop k).length = B.es.length - k := by rw [List.length_drop]
  have HLS := veil hls
  have HLH := veil hlH
  clear hls hlH
  cases kk with
  | false =>
    go_wp2_with (first | (go_at_call 18; refine (refuse_any _ _).mono ?_; rintro x W9 ⟨rfl, b9⟩; have M9 := (unveil HM2).next b9; clear x0 x1 x2 x3 x4 x5; obtain ⟨z0, z1, z2, z3, z4, z5⟩ := M9.z.cells; have zf := M9.z.free; have HM9 := veil M9; clear M9 b9 HM2))
    obtain ⟨W4, hW4, d4, b4, _⟩ := b_stored (unveil HM9).z (unveil HM9).bel (show w.heap.size ≤ w.heap.size + 1 by omega) 0 0 0 0 0 none 0 0
    rw [← hW4]
    exact bodyPost_ret (ret_bImport d4 rfl rfl) rfl ⟨_, _, _, rfl, by unfold importOf; rw [if_neg (fun h => h ok), if_neg (fun h => h (unveil H1)), if_neg (fun h => h (unveil H2)), if_neg (fun h => h (unveil H3)), if_pos (by rw [Int.toNat_natCast]; exact (unveil HNR).no rfl)], BOut.zero _ _, b4⟩
  | true =>
  have hyes := (unveil HNR).yes rfl
  rw [unveil HLH, ← unveil HLS] at hyes
  obtain ⟨y1, y2, y3, y4, y5⟩ := hyes
  have himp : ∀ X : Bt, (if last then (B.more ls).broken else B.more ls) = X → ((¬ X.Ok → importOf B ep k l last = (Bt.zero, 3)) ∧ (X.Ok → importOf B ep k l last = (X, 0))) := fun X hX => by
    constructor
    · intro hn
      unfold importOf
      rw [if_neg (fun h => h ok), if_neg (fun h => h (unveil H1)), if_neg (fun h => h (unveil H2)), if_neg (fun h => h (unveil H3)), if_neg (fun h => h (by rw [Int.toNat_natCast]; exact ⟨y1, y2⟩)), Int.toNat_natCast, ← unveil HLS, hX, if_pos hn]
    · intro hn
      unfold importOf
      rw [if_neg (fun h => h ok), if_neg (fun h => h (unveil H1)), if_neg (fun h => h (unveil H2)), if_neg (fun h => h (unveil H3)), if_neg (fun h => h (by rw [Int.toNat_natCast]; exact ⟨y1, y2⟩)), Int.toNat_natCast, ← unveil HLS, hX, if_neg (fun h => h hn)]
  have HI := veil himp
  have hn3 : n3 ≤ 2000 := by rw [y3, unveil HLS, List.length_drop]; omega
  have HWt := bwith_any B a c ls a3 n3 c3 W3 (hb.next (unveil HM2).bel) y3.symm y4 y5 (by omega)
  have hen3 := veil y3
  clear himp y1 y2 y3 y4 HNR hl
  obtain ⟨B2, hB2⟩ : ∃ B2, B2 = B.more ls := ⟨_, rfl⟩
  rw [← hB2] at HWt HI
  have hl2 : B2.es.length ≤ 4000 := by
    rw [hB2]
    show (B.es ++ ls).length ≤ 4000
    rw [List.length_append, ← unveil hen3]; omega
  clear hB2
  go_upto_region 12 with fail
  have hlt := (unveil HM2).b.lt
  have hlz := (unveil HM2).z.lt
  go_upto_region 13 with (first | (go_at_call 19; refine HWt.mono ?_; rintro x W4 ⟨y, rfl, ⟨⟨a4, c4, rfl, i4, u4⟩⟩, b4⟩; have M4 := (unveil HM2).next b4; clear x0 x1 x2 x3 x4 x5 HWt; obtain ⟨x0, x1, x2, x3, x4, x5⟩ := M4.b.cells; have xf := M4.b.free; have HM4 := veil M4; have HI4 := veil i4; have HU4 := veil u4; clear M4 i4 u4 b4))
  obtain ⟨W5, hW5, k5, b5, t5⟩ := b_stored (unveil HM4).b (unveil HM4).bel (Nat.le_refl _) B2.r B2.e B2.f B2.t B2.o a4 B2.es.length c4
  rw [← hW5]
  have M5 : Mb w W5 B2 a4 c4 := ⟨k5, (unveil HM4).z.turned t5 (by omega), b5⟩
  have i5 : BIn W5 B2 a4 c4 := (unveil HI4).turned t5 (fun x hx _ => by have := unveil HU4 x hx; omega)
  have u5 : ∀ x, a4 = some x → w.heap.size + 1 < x.block := fun x hx => by have := unveil HU4 x hx; omega
  clear hW5 k5 b5 t5 x0 x1 x2 x3 x4 x5 xf HM2 HM4 HI4 HU4
  cases last with
  | false =>
    go_upto_region 15 with fail
    obtain ⟨x0, x1, x2, x3, x4, x5⟩ := M5.b.cells
    by_cases ok2 : B2.Ok
    case neg =>
      have HC := bcheck_no B2 a4 c4 W5 i5 ok2
      have HM := veil M5
      clear M5 i5
      go_wp2_with (first | (go_at_call 21; refine HC.mono ?_; rintro x W2 ⟨rfl, b2⟩; clear HC x0 x1 x2 x3 x4 x5; have M2 := (unveil HM).next b2; obtain ⟨x0, x1, x2, x3, x4, x5⟩ := M2.b.cells; have HM2 := veil M2; clear M2 b2 HM) | (go_at_call 18; refine (refuse_any _ _).mono ?_; rintro x W9 ⟨rfl, b9⟩; have M9 := (unveil HM2).next b9; clear x0 x1 x2 x3 x4 x5; obtain ⟨z0, z1, z2, z3, z4, z5⟩ := M9.z.cells; have zf := M9.z.free; have HM9 := veil M9; clear M9 b9 HM2))
      obtain ⟨W4, hW4, d4, b4, _⟩ := b_stored (unveil HM9).z (unveil HM9).bel (show w.heap.size ≤ w.heap.size + 1 by omega) 0 0 0 0 0 none 0 0
      rw [← hW4]
      exact bodyPost_ret (ret_bImport d4 rfl rfl) rfl ⟨_, _, _, rfl, ((unveil HI B2 (by simp)).1 ok2), BOut.zero _ _, b4⟩
    case pos =>
    have HC := bcheck_yes B2 a4 c4 W5 i5 ok2
    have HM := veil M5
    have HI5 := veil i5
    clear M5 i5
    go_upto_region 17 with (first | (go_at_call 21; refine HC.mono ?_; rintro x W7 ⟨rfl, b7⟩; clear HC x0 x1 x2 x3 x4 x5; have M7 := (unveil HM).next b7; obtain ⟨x0, x1, x2, x3, x4, x5⟩ := M7.b.cells; have HM7 := veil M7; have HI7 := veil ((unveil HI5).next b7); clear M7 b7 HM HI5))
    obtain ⟨z0, z1, z2, z3, z4, z5⟩ := (unveil HM7).z.cells
    have zf := (unveil HM7).z.free
    go_wp2
    obtain ⟨W8, hW8, d8, b8, t8⟩ := b_stored (unveil HM7).z (unveil HM7).bel (show w.heap.size ≤ w.heap.size + 1 by omega) B2.r B2.e B2.f B2.t B2.o a4 B2.es.length c4
    rw [← hW8]
    exact bodyPost_ret (ret_bImport d8 rfl rfl) rfl ⟨_, B2, 0, rfl, ((unveil HI B2 (by simp)).2 ok2), ⟨a4, c4, rfl, (unveil HI7).turned t8 (fun x hx _ => by have := u5 x hx; omega), fun x hx => by have := u5 x hx; omega⟩, b8⟩
  | true =>
    go_upto_region 14 with fail
    obtain ⟨x0, x1, x2, x3, x4, x5⟩ := M5.b.cells
    have HBK := broken_any B2 a4 c4 W5 i5 (by omega)
    obtain ⟨B3, hB3⟩ : ∃ B3, B3 = B2.broken := ⟨_, rfl⟩
    rw [← hB3] at HBK HI
    clear hB3
    have HM5 := veil M5
    have hl5 := M5.b.lt
    have hz5 := M5.z.lt
    clear M5 i5 u5
    go_upto_region 15 with (first | (go_at_call 30; refine HBK.mono ?_; rintro x W6 ⟨y, rfl, ⟨⟨a6, c6, rfl, i6, u6⟩⟩, b6⟩; have M6 := (unveil HM5).next b6; clear x0 x1 x2 x3 x4 x5 HBK; obtain ⟨x0, x1, x2, x3, x4, x5⟩ := M6.b.cells; have xf := M6.b.free; have HM6 := veil M6; have HI6 := veil i6; have HU6 := veil u6; clear M6 i6 u6 b6))
    obtain ⟨W9, hW9, k9, b9, t9⟩ := b_stored (unveil HM6).b (unveil HM6).bel (Nat.le_refl _) B3.r B3.e B3.f B3.t B3.o a6 B3.es.length c6
    rw [← hW9]
    have M5 : Mb w W9 B3 a6 c6 := ⟨k9, (unveil HM6).z.turned t9 (by omega), b9⟩
    have i5 : BIn W9 B3 a6 c6 := (unveil HI6).turned t9 (fun x hx _ => by have := unveil HU6 x hx; omega)
    have u5 : ∀ x, a6 = some x → w.heap.size + 1 < x.block := fun x hx => by have := unveil HU6 x hx; omega
    clear hW9 k9 b9 t9 x0 x1 x2 x3 x4 x5 xf HM5 HM6 HI6 HU6
    obtain ⟨x0, x1, x2, x3, x4, x5⟩ := M5.b.cells
    by_cases ok2 : B3.Ok
    case neg =>
      have HC := bcheck_no B3 a6 c6 W9 i5 ok2
      have HM := veil M5
      clear M5 i5
      go_wp2_with (first | (go_at_call 21; refine HC.mono ?_; rintro x W2 ⟨rfl, b2⟩; clear HC x0 x1 x2 x3 x4 x5; have M2 := (unveil HM).next b2; obtain ⟨x0, x1, x2, x3, x4, x5⟩ := M2.b.cells; have HM2 := veil M2; clear M2 b2 HM) | (go_at_call 18; refine (refuse_any _ _).mono ?_; rintro x W9 ⟨rfl, b9⟩; have M9 := (unveil HM2).next b9; clear x0 x1 x2 x3 x4 x5; obtain ⟨z0, z1, z2, z3, z4, z5⟩ := M9.z.cells; have zf := M9.z.free; have HM9 := veil M9; clear M9 b9 HM2))
      obtain ⟨W4, hW4, d4, b4, _⟩ := b_stored (unveil HM9).z (unveil HM9).bel (show w.heap.size ≤ w.heap.size + 1 by omega) 0 0 0 0 0 none 0 0
      rw [← hW4]
      exact bodyPost_ret (ret_bImport d4 rfl rfl) rfl ⟨_, _, _, rfl, ((unveil HI B3 (by simp)).1 ok2), BOut.zero _ _, b4⟩
    case pos =>
    have HC := bcheck_yes B3 a6 c6 W9 i5 ok2
    have HM := veil M5
    have HI5 := veil i5
    clear M5 i5
    go_upto_region 17 with (first | (go_at_call 21; refine HC.mono ?_; rintro x W7 ⟨rfl, b7⟩; clear HC x0 x1 x2 x3 x4 x5; have M7 := (unveil HM).next b7; obtain ⟨x0, x1, x2, x3, x4, x5⟩ := M7.b.cells; have HM7 := veil M7; have HI7 := veil ((unveil HI5).next b7); clear M7 b7 HM HI5))
    obtain ⟨z0, z1, z2, z3, z4, z5⟩ := (unveil HM7).z.cells
    have zf := (unveil HM7).z.free
    go_wp2
    obtain ⟨W8, hW8, d8, b8, t8⟩ := b_stored (unveil HM7).z (unveil HM7).bel (show w.heap.size ≤ w.heap.size + 1 by omega) B3.r B3.e B3.f B3.t B3.o a6 B3.es.length c6
    rw [← hW8]
    exact bodyPost_ret (ret_bImport d8 rfl rfl) rfl ⟨_, B3, 0, rfl, ((unveil HI B3 (by simp)).2 ok2), ⟨a6, c6, rfl, (unveil HI7).turned t8 (fun x hx _ => by have := u5 x hx; omega), fun x hx => by have := u5 x hx; omega⟩, b8⟩
end Go.Proofs.YtbhlpiomoookcaaGreat
