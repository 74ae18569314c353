/- Texts put together: KpP, QkA, HsA, QkB, WdL, QkC, QkG, QkD, PkO, QkO, QkE, QkF, HsB, QvE, HsC, QaD, HsD, HsE, QkH, BeA, BeB, BeC, BeD, BeE, BeF, BeG. -/
import Derived.Test.YtcdopnkabbfooaaGreatBase
import Derived.Test.YtcdopnkabbfooaaGreatProg
import Derived.Test.YtcdopnkabbfooaaGreatQvD
import Derived.Deep.RegionHeld3
import Derived.Test.YtcdopnkabbfooaaGreatQuH
import Derived.Deep.QuietTactic
import Derived.Test.YtcdopnkabbfooaaGreatQvC
import Derived.Test.YtcdopnkabbfooaaGreatWdE
import Derived.Deep.Slices
import Derived.Deep.CutRange
import Derived.OwnWalk
import Derived.Deep.DeepCutAuto
namespace Go.Proofs.YtcdopnkabbfooaaGreat
open Go.RowKit

def pickedOf (n m : Int) : Int := (if n < 0 then -(n + 1) else n) % m
theorem pickedOf_range (n m : Int) (h : 0 < m) : 0 ≤ pickedOf n m ∧ pickedOf n m < m := by
  unfold pickedOf
  exact ⟨Int.emod_nonneg _ (by omega), Int.emod_lt_of_pos _ h⟩

theorem picked_any (n m : Int) (w : World) (hn : (Lit.int .i64 n).wf = true) (hm : 0 < m) (hm2 : m ≤ 4294967296) :
    Calls Tryz.prog 22 #[.int .i64 n, .int .i64 m] w fun e w' => e = .returned (.int .i64 (pickedOf n m)) ∧ w = w' := by
  have hb := bounds_i64 hn
  clear hn
  obtain ⟨hb1, hb2⟩ := hb
  by_cases h : n < 0
  · have e1 : pickedOf n m = (-(n + 1)) % m := by unfold pickedOf; rw [if_pos h]
    rw [e1]
    clear e1
    have hm0 : ¬ m = 0 := by omega
    go_enter Tryz.func22, Tryz.ntmps22
    go_wp2
    go_ret
    refine ⟨congrArg (fun z => Ending.returned (.int .i64 z)) ?_, rfl⟩
    rw [← Int.neg_tmod, Int.tmod_eq_emod_of_nonneg (by omega)]
  · have e1 : pickedOf n m = n % m := by unfold pickedOf; rw [if_neg h]
    rw [e1]
    clear e1
    have hm0 : ¬ m = 0 := by omega
    go_enter Tryz.func22, Tryz.ntmps22
    go_wp2
    go_ret
    exact ⟨rfl, rfl⟩
end Go.Proofs.YtcdopnkabbfooaaGreat

namespace Go.Proofs.YtcdopnkabbfooaaGreat
open Go.RowKit

/-- the event of raw numbers. -/
def evNums (k a b c : Int) : List Int :=
  if pickedOf k 8 < 3 then [1, pickedOf a 2, pickedOf b 24, pickedOf c 1000, 0, 0]
  else if pickedOf k 8 < 5 then [2, 0, 0, 0, 0, 0]
  else if pickedOf k 8 < 7 then [3, 0, 0, 0, pickedOf a 3, pickedOf b 6]
  else [4, 0, 0, 0, 0, 0]

set_option maxRecDepth 20000 in
set_option maxHeartbeats 1000000 in
theorem event_any (k a b c : Int) (w : World) (wk : (Lit.int .i64 k).wf = true) (wa : (Lit.int .i64 a).wf = true) (wb : (Lit.int .i64 b).wf = true) (wc : (Lit.int .i64 c).wf = true) :
    Calls Tryz.prog 40 #[.agg #[.int .i64 k, .int .i64 a, .int .i64 b, .int .i64 c]] w fun e w' => e = .returned (.agg ((evNums k a b c).map (Value.int .i64)).toArray) ∧ Below w.heap.size w w' := by
  obtain ⟨ev, hev⟩ : ∃ ev, evNums k a b c = ev := ⟨_, rfl⟩
  rw [hev]
  unfold evNums at hev
  obtain ⟨p0, p1⟩ := pickedOf_range k 8 (by omega)
  go_enter Tryz.func40, Tryz.ntmps40
  go_wp2_with fail
  refine (picked_any k 8 _ wk (by omega) (by omega)).mono ?_
  rintro e w0 ⟨rfl, rfl⟩
  generalize pickedOf k 8 = p at p0 p1 hev
  have HV := veil hev
  clear hev
  have P : p = 0 ∨ p = 1 ∨ p = 2 ∨ p = 3 ∨ p = 4 ∨ p = 5 ∨ p = 6 ∨ p = 7 := by omega
  clear p0 p1
  rcases P with rfl | rfl | rfl | rfl | rfl | rfl | rfl | rfl
  · have hv : [1, pickedOf a 2, pickedOf b 24, pickedOf c 1000, 0, 0] = ev := by simpa using unveil HV
    subst hv
    clear HV
    go_wp2_with fail
    go_region_held3 (fun w' => w'.cell? ⟨w.heap.size, 1, none⟩ = some (.int .i64 a) ∧ w'.cell? ⟨w.heap.size, 2, none⟩ = some (.int .i64 b) ∧ w'.cell? ⟨w.heap.size, 3, none⟩ = some (.int .i64 c)) (go_keep) ((go_at_call 22; refine (picked_any _ _ _ (by assumption) (by omega) (by omega)).mono ?_; rintro e w' ⟨rfl, rfl⟩))
    all_goals
      go_wp2
      exact bodyPost_ret (v := .agg #[.int .i64 1, .int .i64 (pickedOf a 2), .int .i64 (pickedOf b 24), .int .i64 (pickedOf c 1000), .int .i64 0, .int .i64 0]) (by simp [results, Tryz.results40, go_sem]) rfl ⟨rfl, (below2 _ _ _).drew⟩
  · have hv : [1, pickedOf a 2, pickedOf b 24, pickedOf c 1000, 0, 0] = ev := by simpa using unveil HV
    subst hv
    clear HV
    go_wp2_with fail
    go_region_held3 (fun w' => w'.cell? ⟨w.heap.size, 1, none⟩ = some (.int .i64 a) ∧ w'.cell? ⟨w.heap.size, 2, none⟩ = some (.int .i64 b) ∧ w'.cell? ⟨w.heap.size, 3, none⟩ = some (.int .i64 c)) (go_keep) ((go_at_call 22; refine (picked_any _ _ _ (by assumption) (by omega) (by omega)).mono ?_; rintro e w' ⟨rfl, rfl⟩))
    all_goals
      go_wp2
      exact bodyPost_ret (v := .agg #[.int .i64 1, .int .i64 (pickedOf a 2), .int .i64 (pickedOf b 24), .int .i64 (pickedOf c 1000), .int .i64 0, .int .i64 0]) (by simp [results, Tryz.results40, go_sem]) rfl ⟨rfl, (below2 _ _ _).drew⟩
  · have hv : [1, pickedOf a 2, pickedOf b 24, pickedOf c 1000, 0, 0] = ev := by simpa using unveil HV
    subst hv
    clear HV
    go_wp2_with fail
    go_region_held3 (fun w' => w'.cell? ⟨w.heap.size, 1, none⟩ = some (.int .i64 a) ∧ w'.cell? ⟨w.heap.size, 2, none⟩ = some (.int .i64 b) ∧ w'.cell? ⟨w.heap.size, 3, none⟩ = some (.int .i64 c)) (go_keep) ((go_at_call 22; refine (picked_any _ _ _ (by assumption) (by omega) (by omega)).mono ?_; rintro e w' ⟨rfl, rfl⟩))
    all_goals
      go_wp2
      exact bodyPost_ret (v := .agg #[.int .i64 1, .int .i64 (pickedOf a 2), .int .i64 (pickedOf b 24), .int .i64 (pickedOf c 1000), .int .i64 0, .int .i64 0]) (by simp [results, Tryz.results40, go_sem]) rfl ⟨rfl, (below2 _ _ _).drew⟩
  · have hv : [2, 0, 0, 0, 0, 0] = ev := by simpa using unveil HV
    subst hv
    clear HV
    go_wp2
    exact bodyPost_ret (v := .agg #[.int .i64 2, .int .i64 0, .int .i64 0, .int .i64 0, .int .i64 0, .int .i64 0]) (by simp [results, Tryz.results40, go_sem]) rfl ⟨rfl, below2 _ _ _⟩
  · have hv : [2, 0, 0, 0, 0, 0] = ev := by simpa using unveil HV
    subst hv
    clear HV
    go_wp2
    exact bodyPost_ret (v := .agg #[.int .i64 2, .int .i64 0, .int .i64 0, .int .i64 0, .int .i64 0, .int .i64 0]) (by simp [results, Tryz.results40, go_sem]) rfl ⟨rfl, below2 _ _ _⟩
  · have hv : [3, 0, 0, 0, pickedOf a 3, pickedOf b 6] = ev := by simpa using unveil HV
    subst hv
    clear HV
    go_wp2_with fail
    go_region_held3 (fun w' => w'.cell? ⟨w.heap.size, 1, none⟩ = some (.int .i64 a) ∧ w'.cell? ⟨w.heap.size, 2, none⟩ = some (.int .i64 b)) (go_keep) ((go_at_call 22; refine (picked_any _ _ _ (by assumption) (by omega) (by omega)).mono ?_; rintro e w' ⟨rfl, rfl⟩))
    all_goals
      go_wp2
      exact bodyPost_ret (v := .agg #[.int .i64 3, .int .i64 0, .int .i64 0, .int .i64 0, .int .i64 (pickedOf a 3), .int .i64 (pickedOf b 6)]) (by simp [results, Tryz.results40, go_sem]) rfl ⟨rfl, (below2 _ _ _).drew⟩
  · have hv : [3, 0, 0, 0, pickedOf a 3, pickedOf b 6] = ev := by simpa using unveil HV
    subst hv
    clear HV
    go_wp2_with fail
    go_region_held3 (fun w' => w'.cell? ⟨w.heap.size, 1, none⟩ = some (.int .i64 a) ∧ w'.cell? ⟨w.heap.size, 2, none⟩ = some (.int .i64 b)) (go_keep) ((go_at_call 22; refine (picked_any _ _ _ (by assumption) (by omega) (by omega)).mono ?_; rintro e w' ⟨rfl, rfl⟩))
    all_goals
      go_wp2
      exact bodyPost_ret (v := .agg #[.int .i64 3, .int .i64 0, .int .i64 0, .int .i64 0, .int .i64 (pickedOf a 3), .int .i64 (pickedOf b 6)]) (by simp [results, Tryz.results40, go_sem]) rfl ⟨rfl, (below2 _ _ _).drew⟩
  · have hv : [4, 0, 0, 0, 0, 0] = ev := by simpa using unveil HV
    subst hv
    clear HV
    go_wp2
    exact bodyPost_ret (v := .agg #[.int .i64 4, .int .i64 0, .int .i64 0, .int .i64 0, .int .i64 0, .int .i64 0]) (by simp [results, Tryz.results40, go_sem]) rfl ⟨rfl, below2 _ _ _⟩
/-- the event of a deed. -/
def deedEv (k a b c : Int) : Ev :=
  if pickedOf k 8 < 3 then ⟨1, pickedOf a 2, pickedOf b 24, pickedOf c 1000, 0, 0⟩
  else if pickedOf k 8 < 5 then ⟨2, 0, 0, 0, 0, 0⟩
  else if pickedOf k 8 < 7 then ⟨3, 0, 0, 0, pickedOf a 3, pickedOf b 6⟩
  else ⟨4, 0, 0, 0, 0, 0⟩
theorem evNums_eq (k a b c : Int) : Value.agg ((evNums k a b c).map (Value.int .i64)).toArray = evIn (deedEv k a b c) := by
  unfold evNums deedEv
  repeat' split
  all_goals rfl
theorem event_ev (k a b c : Int) (w : World) (wk : (Lit.int .i64 k).wf = true) (wa : (Lit.int .i64 a).wf = true) (wb : (Lit.int .i64 b).wf = true) (wc : (Lit.int .i64 c).wf = true) :
    Calls Tryz.prog 40 #[.agg #[.int .i64 k, .int .i64 a, .int .i64 b, .int .i64 c]] w fun e w' => e = .returned (evIn (deedEv k a b c)) ∧ Below w.heap.size w w' := by
  rw [← evNums_eq]
  exact event_any k a b c w wk wa wb wc
/-- an event as deeds make them. -/
structure DeedLike (v : Ev) : Prop where
  ok : v.Ok
  p : 0 ≤ v.p ∧ v.p < 2
  i : 0 ≤ v.i ∧ v.i < 24
theorem deedEv_like (k a b c : Int) : DeedLike (deedEv k a b c) := by
  have h1 := pickedOf_range a 2 (by omega)
  have h2 := pickedOf_range b 24 (by omega)
  have h3 := pickedOf_range c 1000 (by omega)
  have h4 := pickedOf_range a 3 (by omega)
  have h5 := pickedOf_range b 6 (by omega)
  unfold deedEv
  repeat' split
  all_goals (refine ⟨?_, ?_, ?_⟩ <;> simp only [Ev.Ok, eventFault] <;> first | omega | (split <;> omega) | simp)
  all_goals (repeat' split)
  all_goals first | omega | rfl | simp_all
end Go.Proofs.YtcdopnkabbfooaaGreat

namespace Go.Proofs.YtcdopnkabbfooaaGreat
open Go.RowKit

theorem Tryz.infoEvent : (Tryz.prog.info? 28).map (fun i => (i.zero, i.size, i.bytes)) = some (some (.agg #[.int .i64 0, .int .i64 0, .int .i64 0, .int .i64 0, .int .i64 0, .int .i64 0]), 6, 48) := by kernel_rfl
/-- the k-th events are the same. -/
def SameAt (A B : List Int) (k : Nat) : Prop := ∀ j, j < 6 → A.getD (6 * k + j) 0 = B.getD (6 * k + j) 0
/-- two lists begin alike with just n events. -/
structure IsCommon (A B : List Int) (la lb n : Nat) : Prop where
  lea : n ≤ la
  leb : n ≤ lb
  same : ∀ k, k < n → SameAt A B k
  stop : n = la ∨ n = lb ∨ ¬ SameAt A B n
theorem IsCommon.le {A B : List Int} {la lb n m : Nat} (h : IsCommon A B la lb n) (g : IsCommon A B la lb m) : n ≤ m := by
  rcases Nat.lt_or_ge m n with hlt | hge
  · rcases g.stop with h1 | h1 | h1
    · have := h.lea; omega
    · have := h.leb; omega
    · exact absurd (h.same m hlt) h1
  · exact hge
theorem IsCommon.unique {A B : List Int} {la lb n m : Nat} (h : IsCommon A B la lb n) (g : IsCommon A B la lb m) : n = m := Nat.le_antisymm (h.le g) (g.le h)
theorem six_ne {p0 p1 p2 p3 p4 p5 q0 q1 q2 q3 q4 q5 : Int} (hs : ¬ (p0 = q0 ∧ p1 = q1 ∧ p2 = q2 ∧ p3 = q3 ∧ p4 = q4 ∧ p5 = q5)) :
    (¬ p0 = q0) ∨ (p0 = q0 ∧ ¬ p1 = q1) ∨ (p0 = q0 ∧ p1 = q1 ∧ ¬ p2 = q2) ∨ (p0 = q0 ∧ p1 = q1 ∧ p2 = q2 ∧ ¬ p3 = q3) ∨ (p0 = q0 ∧ p1 = q1 ∧ p2 = q2 ∧ p3 = q3 ∧ ¬ p4 = q4) ∨ (p0 = q0 ∧ p1 = q1 ∧ p2 = q2 ∧ p3 = q3 ∧ p4 = q4 ∧ ¬ p5 = q5) := by
  by_cases e0 : p0 = q0
  · by_cases e1 : p1 = q1
    · by_cases e2 : p2 = q2
      · by_cases e3 : p3 = q3
        · by_cases e4 : p4 = q4
          · exact .inr (.inr (.inr (.inr (.inr ⟨e0, e1, e2, e3, e4, fun e5 => hs ⟨e0, e1, e2, e3, e4, e5⟩⟩))))
          · exact .inr (.inr (.inr (.inr (.inl ⟨e0, e1, e2, e3, e4⟩))))
        · exact .inr (.inr (.inr (.inl ⟨e0, e1, e2, e3⟩)))
      · exact .inr (.inr (.inl ⟨e0, e1, e2⟩))
    · exact .inr (.inl ⟨e0, e1⟩)
  · exact .inl e0
/-- six cells of a row. -/
theorem RowK.six {w : World} {b off n : Nat} {D : List Int} (h : RowK .i64 w (some ⟨b, off, none⟩) (6 * n) D) (k : Nat) (hk : k < n) :
    w.cell? ⟨b, off + k * 6, none⟩ = some (.int .i64 (D.getD (6 * k) 0)) ∧ w.cell? ⟨b, off + k * 6 + 1, none⟩ = some (.int .i64 (D.getD (6 * k + 1) 0)) ∧ w.cell? ⟨b, off + k * 6 + 2, none⟩ = some (.int .i64 (D.getD (6 * k + 2) 0)) ∧
    w.cell? ⟨b, off + k * 6 + 3, none⟩ = some (.int .i64 (D.getD (6 * k + 3) 0)) ∧ w.cell? ⟨b, off + k * 6 + 4, none⟩ = some (.int .i64 (D.getD (6 * k + 4) 0)) ∧ w.cell? ⟨b, off + k * 6 + 5, none⟩ = some (.int .i64 (D.getD (6 * k + 5) 0)) := by
  rw [Nat.mul_comm k 6]
  exact ⟨h.at (6 * k) (by omega), h.at (6 * k + 1) (by omega), h.at (6 * k + 2) (by omega), h.at (6 * k + 3) (by omega), h.at (6 * k + 4) (by omega), h.at (6 * k + 5) (by omega)⟩

set_option maxHeartbeats 2000000 in
theorem common_any (a b : Option Addr) (la ca lb cb : Nat) (A B : List Int) (w : World) (hA : RowK .i64 w a (6 * la) A) (hB : RowK .i64 w b (6 * lb) B) (h1 : la ≤ 9223372036854775806) (h2 : lb ≤ 9223372036854775806) :
    Calls Tryz.prog 81 #[.slice a la ca, .slice b lb cb] w fun e w' => ∃ n : Nat, e = .returned (.int .i64 n) ∧ IsCommon A B la lb n ∧ Below w.heap.size w w' := by
  go_enter Tryz.func81, Tryz.ntmps81
  go_wp2
  go_loopw [5] (fun t wr => ∃ k m : Nat, k ≤ la ∧ k ≤ lb ∧ t = .int .i64 k ∧ wr = w.drewN m ∧ Hid (∀ j, j < k → SameAt A B j)) (fun t _ => la - (intOf t).toNat)
  case atStart => exact ⟨0, 0, Nat.zero_le _, Nat.zero_le _, rfl, rfl, veil (fun j hj => absurd hj (Nat.not_lt_zero _))⟩
  case round =>
    obtain ⟨k, m, hka, hkb, rfl, rfl, HS⟩ := hrel
    by_cases h3 : k < la
    case neg =>
      obtain rfl : k = la := by omega
      clear hA hB
      go_wp2_with fail
      go_quiet (fail)
      go_wp2
      go_ret
      exact ⟨k, rfl, ⟨Nat.le_refl _, hkb, unveil HS, .inl rfl⟩, ⟨rfl, rfl, rfl, Nat.le_refl _, fun _ _ => rfl⟩⟩
    case pos =>
    by_cases h4 : k < lb
    case neg =>
      obtain rfl : k = lb := by omega
      clear hA hB
      go_wp2_with fail
      go_quiet (fail)
      go_wp2
      go_ret
      exact ⟨k, rfl, ⟨hka, Nat.le_refl _, unveil HS, .inr (.inl rfl)⟩, ⟨rfl, rfl, rfl, Nat.le_refl _, fun _ _ => rfl⟩⟩
    case pos =>
    obtain ⟨b1, o1, rfl⟩ := hA.form (by omega)
    obtain ⟨b2, o2, rfl⟩ := hB.form (by omega)
    obtain ⟨x0, x1, x2, x3, x4, x5⟩ := hA.six k h3
    obtain ⟨y0, y1, y2, y3, y4, y5⟩ := hB.six k h4
    have HE : Hid (SameAt A B k ↔ (A.getD (6 * k) 0 = B.getD (6 * k) 0 ∧ A.getD (6 * k + 1) 0 = B.getD (6 * k + 1) 0 ∧ A.getD (6 * k + 2) 0 = B.getD (6 * k + 2) 0 ∧ A.getD (6 * k + 3) 0 = B.getD (6 * k + 3) 0 ∧ A.getD (6 * k + 4) 0 = B.getD (6 * k + 4) 0 ∧ A.getD (6 * k + 5) 0 = B.getD (6 * k + 5) 0)) := veil (by
      constructor
      · intro h; exact ⟨h 0 (by omega), h 1 (by omega), h 2 (by omega), h 3 (by omega), h 4 (by omega), h 5 (by omega)⟩
      · rintro ⟨e0, e1, e2, e3, e4, e5⟩ j hj
        match j, hj with
        | 0, _ => exact e0
        | 1, _ => exact e1
        | 2, _ => exact e2
        | 3, _ => exact e3
        | 4, _ => exact e4
        | 5, _ => exact e5)
    clear hA hB
    generalize A.getD (6 * k) 0 = p0 at x0 HE
    generalize A.getD (6 * k + 1) 0 = p1 at x1 HE
    generalize A.getD (6 * k + 2) 0 = p2 at x2 HE
    generalize A.getD (6 * k + 3) 0 = p3 at x3 HE
    generalize A.getD (6 * k + 4) 0 = p4 at x4 HE
    generalize A.getD (6 * k + 5) 0 = p5 at x5 HE
    generalize B.getD (6 * k) 0 = q0 at y0 HE
    generalize B.getD (6 * k + 1) 0 = q1 at y1 HE
    generalize B.getD (6 * k + 2) 0 = q2 at y2 HE
    generalize B.getD (6 * k + 3) 0 = q3 at y3 HE
    generalize B.getD (6 * k + 4) 0 = q4 at y4 HE
    generalize B.getD (6 * k + 5) 0 = q5 at y5 HE
    by_cases hs : p0 = q0 ∧ p1 = q1 ∧ p2 = q2 ∧ p3 = q3 ∧ p4 = q4 ∧ p5 = q5
    · have HS1 : Hid (∀ j, j < k + 1 → SameAt A B j) := veil fun j hj => by
        rcases Nat.lt_or_ge j k with h | h
        · exact unveil HS j h
        · obtain rfl : j = k := by omega
          exact (unveil HE).2 hs
      clear HE HS
      obtain ⟨rfl, rfl, rfl, rfl, rfl, rfl⟩ := hs
      go_wp2_with fail
      go_quiet (fail)
      clear x0 x1 x2 x3 x4 x5 y0 y1 y2 y3 y4 y5
      go_wp2
      go_roundw
      case rel => exact ⟨k + 1, m + nq, by omega, by omega, by go_num, by first | exact (World.drewN_add _ _ _).symm | exact World.drewN_add _ _ _ | exact World.drewN_drewN _ _ _ | rfl | simp, HS1⟩
      case measure => simp [intOf]; omega
    · have HN : Hid (¬ SameAt A B k) := veil fun h => hs ((unveil HE).1 h)
      have hd := six_ne hs
      clear HE hs
      rcases hd with hd | ⟨rfl, hd⟩ | ⟨rfl, rfl, hd⟩ | ⟨rfl, rfl, rfl, hd⟩ | ⟨rfl, rfl, rfl, rfl, hd⟩ | ⟨rfl, rfl, rfl, rfl, rfl, hd⟩
      all_goals
        go_wp2_with fail
        go_quiet (fail)
        go_wp2
        go_ret
        exact ⟨k, rfl, ⟨hka, hkb, unveil HS, .inr (.inr (unveil HN))⟩, ⟨rfl, rfl, rfl, Nat.le_refl _, fun _ _ => rfl⟩⟩

theorem news6 (w : World) (x0 x1 x2 x3 x4 x5 : Int) (t : TypeId) : ∀ j u, ([x0, x1, x2, x3, x4, x5].map (Value.int .i64))[j]? = some u → (w.alloc (.cells #[.int .i64 x0, .int .i64 x1, .int .i64 x2, .int .i64 x3, .int .i64 x4, .int .i64 x5] t)).drew.cell? ((⟨w.heap.size, 0, none⟩ : Addr).add j) = some u := by
  intro j u hj
  rw [Addr.add_mid]
  match j, hj with
  | 0, hj => simp at hj; subst hj; simp
  | 1, hj => simp at hj; subst hj; simp
  | 2, hj => simp at hj; subst hj; simp
  | 3, hj => simp at hj; subst hj; simp
  | 4, hj => simp at hj; subst hj; simp
  | 5, hj => simp at hj; subst hj; simp
  | n + 6, hj => simp at hj
theorem getD_at6 (R : List Int) (k : Nat) (h : k < R.length) : R.getD k 0 = R[k] := by simp [List.getElem?_eq_getElem h]
theorem take_six (L : List Int) (k : Nat) (h : 6 * k + 6 ≤ L.length) : L.take (6 * (k + 1)) = L.take (6 * k) ++ [L.getD (6 * k) 0, L.getD (6 * k + 1) 0, L.getD (6 * k + 2) 0, L.getD (6 * k + 3) 0, L.getD (6 * k + 4) 0, L.getD (6 * k + 5) 0] := by
  rw [show 6 * (k + 1) = (6 * k + 5) + 1 by omega, List.take_succ_eq_append_getElem (show 6 * k + 5 < L.length by omega), List.take_succ_eq_append_getElem (show 6 * k + 4 < L.length by omega), List.take_succ_eq_append_getElem (show 6 * k + 3 < L.length by omega), List.take_succ_eq_append_getElem (show 6 * k + 2 < L.length by omega), List.take_succ_eq_append_getElem (show 6 * k + 1 < L.length by omega), List.take_succ_eq_append_getElem (show 6 * k < L.length by omega), getD_at6 L (6 * k) (by omega), getD_at6 L (6 * k + 1) (by omega), getD_at6 L (6 * k + 2) (by omega), getD_at6 L (6 * k + 3) (by omega), getD_at6 L (6 * k + 4) (by omega), getD_at6 L (6 * k + 5) (by omega), List.append_assoc, List.append_assoc, List.append_assoc, List.append_assoc, List.append_assoc]
  rfl
set_option maxRecDepth 20000 in
set_option maxHeartbeats 2000000 in
theorem eventsCopy_any (a : Option Addr) (la ca : Nat) (A : List Int) (w : World) (hA : RowK .i64 w a (6 * la) A) (hs : la * 48 ≤ 140737488351232) :
    Calls Tryz.prog 50 #[.slice a la ca] w fun e w' => ∃ v, e = .returned v ∧ w'.ownsRow w.heap.size 28 6 v la (A.map (Value.int .i64)) ∧ Below w.heap.size w w' := by
  obtain ⟨i2, hi2, hz20, hz21, hz22⟩ := info_of Tryz.infoEvent
  go_enter Tryz.func50, Tryz.ntmps50
  go_wp2
  go_loopw [3, 4] (fun v t wr => ∃ k : Nat, k ≤ la ∧ t = .int .i64 k ∧ wr.ownsRow w.heap.size 28 6 v k ((A.take (6 * k)).map (Value.int .i64)) ∧ Below w.heap.size w wr) (fun _ t _ => la - (intOf t).toNat)
  case atStart => exact ⟨0, Nat.zero_le _, rfl, World.ownsRow_nil _ _ _ _, Below.refl _ _⟩
  case round =>
    obtain ⟨k, hk, rfl, ow, bel⟩ := hrel
    obtain ⟨a1, c1, rfl⟩ := own_form ow
    by_cases hlt : k < la
    · have rA := hA.below bel
      obtain ⟨b, off, rfl⟩ := hA.form (by omega)
      obtain ⟨x0, x1, x2, x3, x4, x5⟩ := rA.six k hlt
      have hT : Hid (A.take (6 * (k + 1)) = A.take (6 * k) ++ [A.getD (6 * k) 0, A.getD (6 * k + 1) 0, A.getD (6 * k + 2) 0, A.getD (6 * k + 3) 0, A.getD (6 * k + 4) 0, A.getD (6 * k + 5) 0]) := veil (take_six A k (by have := hA.len_eq; omega))
      have hbl : b < wr.heap.size := rA.lt (by omega)
      have hbn : b ≠ wr.heap.size := by omega
      clear rA
      generalize A.getD (6 * k) 0 = p0 at x0 hT
      generalize A.getD (6 * k + 1) 0 = p1 at x1 hT
      generalize A.getD (6 * k + 2) 0 = p2 at x2 hT
      generalize A.getD (6 * k + 3) 0 = p3 at x3 hT
      generalize A.getD (6 * k + 4) 0 = p4 at x4 hT
      generalize A.getD (6 * k + 5) 0 = p5 at x5 hT
      have b5 : Below wr.heap.size wr (wr.alloc (.cells #[.int .i64 p0, .int .i64 p1, .int .i64 p2, .int .i64 p3, .int .i64 p4, .int .i64 p5] 28)) := below1 _ _
      have HO5 : Hid ((wr.alloc (.cells #[.int .i64 p0, .int .i64 p1, .int .i64 p2, .int .i64 p3, .int .i64 p4, .int .i64 p5] 28)).ownsRow w.heap.size 28 6 (.slice a1 k c1) k ((A.take (6 * k)).map (Value.int .i64))) := veil (own_still ow (fun g _ hg => b5.block g hg))
      have hws : w.heap.size ≤ wr.heap.size := bel.size
      have HG : Hid (∀ w4, (wr.alloc (.cells #[.int .i64 p0, .int .i64 p1, .int .i64 p2, .int .i64 p3, .int .i64 p4, .int .i64 p5] 28)).grownBy w4 (Value.slice a1 k c1).ownBlock → Below w.heap.size w w4) := veil fun w4 g => (bel.trans (b5.mono bel.size)).grown g (by have := b5.size; omega) (fun q hq => (ow.lt q hq).1)
      have HA := veil hA
      clear ow bel b5 hA
      go_wp2_with (at_builtin; refine wpList_append_own _ rfl _ _ 22 rfl w.heap.size 28 i2 _ 6 48 Tryz.underlying22 hi2 hz20 hz21 hz22 rfl (by decide) (.slice a1 k c1) k ((A.take (6 * k)).map (Value.int .i64)) rfl (unveil HO5) ⟨wr.heap.size, 0, none⟩ 1 1 ([p0, p1, p2, p3, p4, p5].map (Value.int .i64)) rfl rfl (news6 _ _ _ _ _ _ _ _) (ints_oneCell _ _) (by unfold maxLen; omega) (by omega) (by simp; omega) ?_; intro v' w4 own4 grow4 _; obtain ⟨a', cap', rfl⟩ := own_form own4; rw [← List.map_append, ← unveil hT] at own4; have HO4 := veil own4; have HB4 := veil (unveil HG w4 grow4); clear own4 grow4)
      all_goals (go_roundw <;> first | exact ⟨k + 1, by omega, by go_num, unveil HO4, unveil HB4⟩ | (simp [intOf]; omega))
    · obtain rfl : k = la := by omega
      have htk : A.take (6 * k) = A := List.take_of_length_le (by have := hA.len_eq; omega)
      rw [htk] at ow
      have HO := veil ow
      have HB := veil bel
      clear ow bel htk hA
      go_wp2
      go_ret
      exact ⟨_, rfl, unveil HO, unveil HB⟩
end Go.Proofs.YtcdopnkabbfooaaGreat

namespace Go.Proofs.YtcdopnkabbfooaaGreat
open Go.RowKit

theorem Tryz.infoAns : (Tryz.prog.info? 75).map (fun i => (i.zero, i.size, i.bytes)) = some (some (.agg #[.int .i64 0, .int .i64 0, .int .i64 0, .int .i64 0]), 4, 32) := by kernel_rfl
/-- a queue in which nothing is. -/
def St.zero : St := ⟨0, 0, 0, 0, [], 0, [], fun _ => 0, fun _ _ => false⟩
theorem St.zero_wf : St.zero.Wf := by
  refine ⟨⟨⟨by decide, by decide, by decide, by decide, by decide, by decide, by decide⟩, fun p _ => WinOk.none, ⟨fun i hi => absurd hi (Nat.not_lt_zero _), fun i hi => absurd hi (Nat.not_lt_zero _), rfl⟩, fun i hi => absurd hi (Nat.not_lt_zero _)⟩, rfl, rfl⟩
/-- a history: events that changed something, the queue behind them, their answers. -/
inductive Hist : List Ev → St → List An → Prop
  | nil : Hist [] St.zero []
  | snoc {es : List Ev} {s s' : St} {ans : List An} {v : Ev} {an : An} (h : Hist es s ans) (hv : DeedLike v) (st : Step s v s' an true) : Hist (es ++ [v]) s' (ans ++ [an])
theorem Step.same {s s' : St} {v : Ev} {an : An} (st : Step s v s' an false) : s' = s := by cases st <;> rfl
theorem Hist.wf {es : List Ev} {s : St} {ans : List An} (h : Hist es s ans) : s.Wf := by
  induction h with
  | nil => exact St.zero_wf
  | snoc h hv st ih => exact st.wf ih hv.ok
theorem Hist.len {es : List Ev} {s : St} {ans : List An} (h : Hist es s ans) : ans.length = es.length := by
  induction h with
  | nil => rfl
  | snoc h hv st ih => simp [ih]
theorem Step.nx_up {s s' : St} {v : Ev} {an : An} (st : Step s v s' an true) : s.nx ≤ s'.nx ∧ (v.k = 1 → s'.nx = s.nx + 1) := by
  cases st with
  | pub => exact ⟨by show s.nx ≤ s.nx + 1; omega, fun _ => rfl⟩
  | recv hk => exact ⟨Int.le_refl _, fun h => by omega⟩
  | ack hk => exact ⟨Int.le_refl _, fun h => by omega⟩
  | stop hk => exact ⟨Int.le_refl _, fun h => by omega⟩
def evCells (v : Ev) : List Int := [v.k, v.p, v.i, v.b, v.he, v.hn]
def anCells (a : An) : List Int := [a.c, a.he, a.no, a.bd]
def evFlat (es : List Ev) : List Int := es.flatMap evCells
def anFlat (ans : List An) : List Int := ans.flatMap anCells
theorem evFlat_snoc (es : List Ev) (v : Ev) : evFlat (es ++ [v]) = evFlat es ++ evCells v := by simp [evFlat]
theorem anFlat_snoc (ans : List An) (a : An) : anFlat (ans ++ [a]) = anFlat ans ++ anCells a := by simp [anFlat]
/-- a queue in memory, in a box. -/
structure Qb (w wr : World) (B : Nat) (s : St) (a1 : Option Addr) (c1 : Nat) (a2 : Option Addr) (c2 : Nat) (ws : Nat → Value) : Prop where
  q : qBlock wr B s.ep s.nx s.gv (.slice a1 s.rn c1) (.slice a2 s.ln c2) ws
  r1 : RowK .i64 wr a1 (2 * s.rn) s.R
  r2 : RowK .i64 wr a2 (4 * s.ln) s.L
  l1 : s.rn ≤ c1
  l2 : s.ln ≤ c2
  n1 : a1 = none → c1 = 0
  n2 : a2 = none → c2 = 0
  wins : Wins ws s.wt s.wz
  f1 : ∀ x, a1 = some x → w.heap.size < x.block
  f2 : ∀ x, a2 = some x → w.heap.size < x.block
theorem Qb.next {w wr wx : World} {B : Nat} {s : St} {a1 : Option Addr} {c1 : Nat} {a2 : Option Addr} {c2 : Nat} {ws : Nat → Value} (h : Qb w wr B s a1 c1 a2 c2 ws) (b : Below wr.heap.size wr wx) : Qb w wx B s a1 c1 a2 c2 ws :=
  ⟨h.q.next b, h.r1.below b, h.r2.below b, h.l1, h.l2, h.n1, h.n2, h.wins, h.f1, h.f2⟩
/-- played on its way. -/
structure Pl (w wr : World) (Z B : Nat) (s : St) (a1 : Option Addr) (c1 : Nat) (a2 : Option Addr) (c2 : Nat) (ws : Nat → Value) (ve va : Value) (es : List Ev) (ans : List An) : Prop where
  z : qBlock wr Z 0 0 0 (.slice none 0 0) (.slice none 0 0) zeroW
  q : Qb w wr B s a1 c1 a2 c2 ws
  oe : wr.ownsRow (B + 1) 28 6 ve es.length ((evFlat es).map (Value.int .i64))
  oa : wr.ownsRow (B + 1) 75 4 va ans.length ((anFlat ans).map (Value.int .i64))
  bel : Below w.heap.size w wr
  upZ : w.heap.size ≤ Z
  upB : Z < B
section
variable {w wr wx : World} {Z B : Nat} {s : St} {a1 a2 : Option Addr} {c1 c2 : Nat} {ws : Nat → Value} {ve va : Value} {es : List Ev} {ans : List An}
theorem Pl.next (h : Pl w wr Z B s a1 c1 a2 c2 ws ve va es ans) (b : Below wr.heap.size wr wx) : Pl w wx Z B s a1 c1 a2 c2 ws ve va es ans :=
  ⟨h.z.next b, h.q.next b, own_still h.oe (fun g _ hg => b.block g hg), own_still h.oa (fun g _ hg => b.block g hg), Below.next h.bel b, h.upZ, h.upB⟩
end
/-- all but a block is as it was, as far as n. -/
structure Off (B n : Nat) (wa wb : World) : Prop where
  os : wb.os = wa.os
  tape : wb.tape = wa.tape
  output : wb.output = wa.output
  size : wa.heap.size ≤ wb.heap.size
  block : ∀ X, X < n → X ≠ B → wb.heap[X]? = wa.heap[X]?
theorem Off.below {B n : Nat} {wa wb : World} (b : Below n wa wb) : Off B n wa wb := ⟨b.os, b.tape, b.output, b.size, fun X hX _ => b.block X hX⟩
theorem Off.turn {B n Y : Nat} {wa wb wc : World} (h : Off B n wa wb) (t : Turned Y wb wc) (hY : n ≤ Y) : Off B n wa wc :=
  ⟨t.os.trans h.os, t.tape.trans h.tape, t.output.trans h.output, by rw [t.size]; exact h.size, fun X hX hB => (t.block X (by omega)).trans (h.block X hX hB)⟩
theorem Off.self {B n : Nat} {wa wb wc : World} (h : Off B n wa wb) (t : Turned B wb wc) : Off B n wa wc :=
  ⟨t.os.trans h.os, t.tape.trans h.tape, t.output.trans h.output, by rw [t.size]; exact h.size, fun X hX hB => (t.block X hB).trans (h.block X hX hB)⟩
theorem Off.row {B n : Nat} {wa wb : World} {k : IntKind} {a : Option Addr} {len : Nat} {l : List Int} (h : Off B n wa wb) (hr : RowK k wa a len l) (hn : n = wa.heap.size) (hB : ∀ x, a = some x → x.block ≠ B) : RowK k wb a len l :=
  ⟨hr.len_eq, hr.wf, fun i hi => by
    obtain ⟨b, off, ha, hlt, hc⟩ := hr.cell i hi
    exact ⟨b, off, ha, Nat.lt_of_lt_of_le hlt h.size, (World.cell?_of_block (h.block b (by omega) (hB _ ha))).trans hc⟩⟩
theorem Off.own {B n base e size m : Nat} {wa wb : World} {v : Value} {xs : List Value} (h : Off B n wa wb) (o : wa.ownsRow base e size v m xs) (hn : n = wa.heap.size) (hB : B < base) : wb.ownsRow base e size v m xs :=
  own_still o (fun g hg hl => h.block g (by omega) (by have := (o.lt g hg).1; omega))
theorem Pl.stored {w wa wb : World} {Z B : Nat} {s s' : St} {a1 a2 a1' a2' : Option Addr} {c1 c2 c1' c2' : Nat} {ws ws' : Nat → Value} {ve va : Value} {es : List Ev} {ans : List An}
    (h : Pl w wa Z B s a1 c1 a2 c2 ws ve va es ans) (o : Off B wa.heap.size wa wb) (q : qBlock wb B s'.ep s'.nx s'.gv (.slice a1' s'.rn c1') (.slice a2' s'.ln c2') ws') (r1 : RowK .i64 wa a1' (2 * s'.rn) s'.R) (r2 : RowK .i64 wa a2' (4 * s'.ln) s'.L)
    (l1 : s'.rn ≤ c1') (l2 : s'.ln ≤ c2') (n1 : a1' = none → c1' = 0) (n2 : a2' = none → c2' = 0) (hW : Wins ws' s'.wt s'.wz) (f1 : ∀ x, a1' = some x → B < x.block) (f2 : ∀ x, a2' = some x → B < x.block) : Pl w wb Z B s' a1' c1' a2' c2' ws' ve va es ans := by
  have hz := h.z.lt
  have hu := h.upZ
  have hb := h.upB
  refine ⟨?_, ⟨q, o.row r1 rfl (fun x hx => by have := f1 x hx; omega), o.row r2 rfl (fun x hx => by have := f2 x hx; omega), l1, l2, n1, n2, hW, fun x hx => by have := f1 x hx; omega, fun x hx => by have := f2 x hx; omega⟩, o.own h.oe rfl (by omega), o.own h.oa rfl (by omega), ?_, hu, hb⟩
  · have := h.z
    unfold qBlock at this ⊢
    rw [o.block Z hz (by omega)]
    exact this
  · exact ⟨o.os.trans h.bel.os, o.tape.trans h.bel.tape, o.output.trans h.bel.output, Nat.le_trans h.bel.size o.size, fun X hX => (o.block X (by have := h.bel.size; omega) (by omega)).trans (h.bel.block X hX)⟩
section
variable {w wa W wb : World} {Z B : Nat} {s : St} {a1 a2 a3 : Option Addr} {c1 c2 c3 : Nat} {ws : Nat → Value} {ve va : Value} {es : List Ev} {ans : List An}
theorem Pl.base (h : Pl w wa Z B s a1 c1 a2 c2 ws ve va es ans) (b : Below wa.heap.size wa W) {row : Option Nat} (gr : W.grownBy wb row) (hZ : row ≠ some Z) (hB : row ≠ some B) (h1 : ∀ x, a1 = some x → row ≠ some x.block) (h2 : ∀ x, a2 = some x → row ≠ some x.block) (hl : ∀ t, row = some t → B + 1 ≤ t) :
    qBlock wb Z 0 0 0 (.slice none 0 0) (.slice none 0 0) zeroW ∧ Qb w wb B s a1 c1 a2 c2 ws ∧ Below w.heap.size w wb := by
  have keep : ∀ X, X < wa.heap.size → row ≠ some X → wb.heap[X]? = wa.heap[X]? := fun X hX hne => by
    rw [gr.block X (by have := b.size; omega) (fun e => hne e.symm), b.block X hX]
  have row' : ∀ {a : Option Addr} {len : Nat} {l : List Int}, RowK .i64 wa a len l → (∀ x, a = some x → row ≠ some x.block) → RowK .i64 wb a len l := fun hr ha =>
    ⟨hr.len_eq, hr.wf, fun i hi => by
      obtain ⟨g, off, he, hlt, hc⟩ := hr.cell i hi
      exact ⟨g, off, he, by have := b.size; have := gr.size; omega, (World.cell?_of_block (keep g hlt (ha _ he))).trans hc⟩⟩
  have hu := h.upZ
  have hv := h.upB
  refine ⟨?_, ⟨?_, row' h.q.r1 h1, row' h.q.r2 h2, h.q.l1, h.q.l2, h.q.n1, h.q.n2, h.q.wins, h.q.f1, h.q.f2⟩, ?_⟩
  · have := h.z
    unfold qBlock at this ⊢
    rw [keep Z h.z.lt hZ]; exact this
  · have := h.q.q
    unfold qBlock at this ⊢
    rw [keep B h.q.q.lt hB]; exact this
  · exact (h.bel.trans (b.mono h.bel.size)).grown gr (by have := b.size; have := h.bel.size; omega) (fun q hq => by have := hl q hq; omega)
theorem Pl.event (h : Pl w wa Z B s a1 c1 a2 c2 ws ve va es ans) (b : Below wa.heap.size wa W) (gr : W.grownBy wb ve.ownBlock) (h1 : ∀ x, a1 = some x → ve.ownBlock ≠ some x.block) (h2 : ∀ x, a2 = some x → ve.ownBlock ≠ some x.block) (v : Ev)
    (own : wb.ownsRow (B + 1) 28 6 (.slice a3 (es.length + 1) c3) (es.length + 1) ((evFlat es).map (Value.int .i64) ++ (evCells v).map (Value.int .i64))) : Pl w wb Z B s a1 c1 a2 c2 ws (.slice a3 (es.length + 1) c3) va (es ++ [v]) ans := by
  have oZ := own_off h.oe h.z (by decide)
  have oB := own_off h.oe h.q.q (by decide)
  obtain ⟨z, q, bel⟩ := h.base b gr (fun e => oZ Z e rfl) (fun e => oB B e rfl) h1 h2 (fun t ht => (h.oe.lt t ht).1)
  refine ⟨z, q, ?_, own_grown (own_still h.oa (fun g _ hg => b.block g hg)) gr (fun g h1 h2 => own_apart h.oa h.oe (by decide) g h1 h2), bel, h.upZ, h.upB⟩
  rw [evFlat_snoc, List.map_append, List.length_append]
  exact own
theorem Pl.answer (h : Pl w wa Z B s a1 c1 a2 c2 ws ve va es ans) (b : Below wa.heap.size wa W) (gr : W.grownBy wb va.ownBlock) (h1 : ∀ x, a1 = some x → va.ownBlock ≠ some x.block) (h2 : ∀ x, a2 = some x → va.ownBlock ≠ some x.block) (v : An)
    (own : wb.ownsRow (B + 1) 75 4 (.slice a3 (ans.length + 1) c3) (ans.length + 1) ((anFlat ans).map (Value.int .i64) ++ (anCells v).map (Value.int .i64))) : Pl w wb Z B s a1 c1 a2 c2 ws ve (.slice a3 (ans.length + 1) c3) es (ans ++ [v]) := by
  have oZ := own_off h.oa h.z (by decide)
  have oB := own_off h.oa h.q.q (by decide)
  obtain ⟨z, q, bel⟩ := h.base b gr (fun e => oZ Z e rfl) (fun e => oB B e rfl) h1 h2 (fun t ht => (h.oa.lt t ht).1)
  refine ⟨z, q, own_grown (own_still h.oe (fun g _ hg => b.block g hg)) gr (fun g h1 h2 => own_apart h.oe h.oa (by decide) g h1 h2), ?_, bel, h.upZ, h.upB⟩
  rw [anFlat_snoc, List.map_append, List.length_append]
  exact own
end
/-- the first event that is published changes something. -/
theorem zero_pub {v : Ev} {s' : St} {an : An} (hv : v.Ok) (hk : v.k = 1) (st : Step St.zero v s' an false) : False := by
  have hb : 0 ≤ v.i := by rcases Ev.cases hv with h | h | h | h <;> omega
  cases st with
  | pubLow _ h => simp [St.zero] at h; omega
  | pubOld _ h => rw [show inWin (St.zero.wt v.p.toNat) (St.zero.wz v.p.toNat) v.i = inWin 0 noneS v.i from rfl, inWin_none] at h; cases h
  | pubFull _ _ _ h => simp [St.zero] at h
  | recEmpty h => omega
  | recFull h => omega
  | ackStale h => omega
  | ackNone h => omega
  | endFull h => omega
theorem hist_nil {es : List Ev} {s : St} {ans : List An} (h : Hist es s ans) (he : es = []) : s = St.zero := by
  cases h with
  | nil => rfl
  | snoc _ _ _ => simp at he
theorem deedEv_pub (k a b c : Int) (h : pickedOf k 8 ≤ 2) : (deedEv k a b c).k = 1 := by
  unfold deedEv
  rw [if_pos (by omega)]
end Go.Proofs.YtcdopnkabbfooaaGreat

namespace Go.Proofs.YtcdopnkabbfooaaGreat
open Go.RowKit

/-- the window (t, s) remembers the ids A, as far as it goes. -/
structure WinInv (A : List Int) (t : Int) (s : Nat → Bool) : Prop where
  ok : WinOk t s
  mem : ∀ x, t - 8 ≤ x → (inWin t s x = true ↔ x ∈ A)
  zero : A = [] → t = 0
  last : A ≠ [] → t - 1 ∈ A
  less : ∀ x ∈ A, x < t

theorem WinInv.none : WinInv [] 0 noneS := ⟨WinOk.none, fun x _ => by rw [inWin_none]; simp, fun _ => rfl, fun h => absurd rfl h, by simp⟩
theorem WinInv.keep {A : List Int} {t id : Int} {s : Nat → Bool} (h : WinInv A t s) (hi : inWin t s id = true) : WinInv (A ++ [id]) t s := by
  have hr : t - 8 ≤ id := by obtain ⟨i, _, _, rfl⟩ := inWin_iff.1 hi; omega
  have hA : id ∈ A := (h.mem id hr).1 hi
  have hm : ∀ x, x ∈ A ++ [id] ↔ x ∈ A := by
    intro x
    simp only [List.mem_append, List.mem_singleton]
    exact ⟨fun h => h.elim (fun h => h) (fun h => by rw [h]; exact hA), .inl⟩
  refine ⟨h.ok, fun x hx => by rw [hm]; exact h.mem x hx, by simp, fun _ => ?_, fun x hx => h.less x ((hm x).1 hx)⟩
  rw [hm]
  exact h.last (by intro h0; rw [h0] at hA; cases hA)
theorem WinInv.take {A : List Int} {t id : Int} {s : Nat → Bool} (h : WinInv A t s) (h0 : 0 ≤ id) (h1 : id ≤ 1073741824) (hn : inWin t s id = false) : WinInv (A ++ [id]) (takeT t id) (takeS t s id) := by
  have hg := takeT_gt t id
  refine ⟨h.ok.take h0 h1, ?_, by simp, fun _ => ?_, ?_⟩
  · intro x hx
    rw [inWin_take hx]
    simp only [Bool.or_eq_true, decide_eq_true_eq, List.mem_append, List.mem_singleton]
    rw [h.mem x (by omega)]
    exact Or.comm
  · simp only [List.mem_append, List.mem_singleton]
    by_cases hc : t ≤ id
    · right
      unfold takeT
      rw [if_pos hc]
      omega
    · left
      have e : takeT t id = t := by unfold takeT; rw [if_neg hc]
      rw [e]
      refine h.last (fun hA => ?_)
      have := h.zero hA
      omega
  · intro x hx
    simp only [List.mem_append, List.mem_singleton] at hx
    rcases hx with hx | rfl
    · have := h.less x hx; omega
    · exact hg.2
/-- two windows that remember the same ids are one. -/
theorem WinInv.same {A B : List Int} {t t' : Int} {s s' : Nat → Bool} (h : WinInv A t s) (h' : WinInv B t' s') (hAB : ∀ x, x ∈ A ↔ x ∈ B) : t = t' ∧ ∀ i, i < 8 → s i = s' i := by
  have ht : t = t' := by
    by_cases hA : A = []
    · have hB : B = [] := List.eq_nil_iff_forall_not_mem.2 fun x hx => by rw [← hAB, hA] at hx; cases hx
      rw [h.zero hA, h'.zero hB]
    · have hB : B ≠ [] := fun hB => hA (List.eq_nil_iff_forall_not_mem.2 fun x hx => by rw [hAB, hB] at hx; cases hx)
      have h1 := h'.less _ ((hAB _).1 (h.last hA))
      have h2 := h.less _ ((hAB _).2 (h'.last hB))
      omega
  subst ht
  refine ⟨rfl, fun i hi => ?_⟩
  rw [← inWin_at (t := t) (s := s) i hi, ← inWin_at (t := t) (s := s') i hi, Bool.eq_iff_iff, h.mem _ (by omega), h'.mem _ (by omega)]
  exact hAB _

/-- Take at an id that is not below the window. -/
theorem take_step {A : List Int} {t id : Int} {s : Nat → Bool} (h : WinInv A t s) (h0 : 0 ≤ id) (h1 : id ≤ 1073741824) (h2 : t - 8 ≤ id) :
    ∃ T S b, WinInv (A ++ [id]) T S ∧ t ≤ T ∧ id < T ∧ T ≤ takeT t id ∧ (b = false → T = t ∧ S = s ∧ id ∈ A) ∧ (b = true → id ∉ A) ∧
      ∀ w, Calls Tryz.prog 109 #[winVal t s, .int .i64 id] w fun e w' => e = .returned (.tuple #[winVal T S, .bool b, .int .i64 0]) ∧ Below w.heap.size w w' := by
  have hg := takeT_gt t id
  cases hi : inWin t s id
  · refine ⟨takeT t id, takeS t s id, true, h.take h0 h1 hi, hg.1, hg.2, Int.le_refl _, fun h => (by cases h), fun _ hA => ?_, fun w => take_new t id s w h.ok h0 h1 h2 hi⟩
    rw [← h.mem id h2, hi] at hA
    cases hA
  · have hA := (h.mem id h2).1 hi
    exact ⟨t, s, false, h.keep hi, Int.le_refl _, h.less id hA, hg.1, fun _ => ⟨rfl, rfl, hA⟩, fun h => (by cases h), fun w => take_old t id s w h.ok h0 h1 hi⟩
end Go.Proofs.YtcdopnkabbfooaaGreat

namespace Go.Proofs.YtcdopnkabbfooaaGreat

/-- how many events of a kind there are. -/
def cnt (es : List Ev) (k : Int) : Nat := es.countP (fun v => decide (v.k = k))
theorem cnt_nil (k : Int) : cnt [] k = 0 := rfl
theorem cnt_snoc (es : List Ev) (v : Ev) (k : Int) : cnt (es ++ [v]) k = cnt es k + if v.k = k then 1 else 0 := by
  unfold cnt
  rw [List.countP_append]
  by_cases h : v.k = k <;> simp [h]
theorem cnt_le (es : List Ev) (k : Int) : cnt es k ≤ es.length := List.countP_le_length
theorem Hist.counts {es : List Ev} {s : St} {ans : List An} (h : Hist es s ans) : s.nx = cnt es 1 ∧ s.ep = cnt es 4 ∧ s.rn + s.ln + cnt es 3 = cnt es 1 ∧ s.gv ≤ es.length := by
  induction h with
  | nil => exact ⟨rfl, rfl, rfl, by decide⟩
  | @snoc es s s' ans v an h hv st ih =>
    obtain ⟨i1, i2, i3, i4⟩ := ih
    have h1 := cnt_snoc es v 1
    have h3 := cnt_snoc es v 3
    have h4 := cnt_snoc es v 4
    have hl : (es ++ [v]).length = es.length + 1 := by simp
    cases st with
    | pub hk _ _ _ _ =>
      rw [hk] at h1 h3 h4
      simp at h1 h3 h4
      refine ⟨?_, ?_, ?_, ?_⟩
      · show s.nx + 1 = _; omega
      · show s.ep = _; omega
      · show s.rn + 1 + s.ln + _ = _; omega
      · show s.gv ≤ _; omega
    | recv hk _ _ =>
      rw [hk] at h1 h3 h4
      simp at h1 h3 h4
      refine ⟨?_, ?_, ?_, ?_⟩
      · show s.nx = _; omega
      · show s.ep = _; omega
      · show s.rn - 1 + (s.ln + 1) + _ = _; omega
      · show s.gv + 1 ≤ _; omega
    | ack hk _ m hm _ =>
      rw [hk] at h1 h3 h4
      simp at h1 h3 h4
      refine ⟨?_, ?_, ?_, ?_⟩
      · show s.nx = _; omega
      · show s.ep = _; omega
      · show s.rn + (s.ln - 1) + _ = _; omega
      · show s.gv ≤ _; omega
    | stop hk _ R' _ =>
      rw [hk] at h1 h3 h4
      simp at h1 h3 h4
      refine ⟨?_, ?_, ?_, ?_⟩
      · show s.nx = _; omega
      · show s.ep + 1 = _; omega
      · show s.rn + s.ln + 0 + _ = _; omega
      · show (0 : Int) ≤ _; omega
/-- ids that a producer published. -/
def pubIds (es : List Ev) (p : Nat) : List Int := (es.filter (fun v => decide (v.k = 1) && decide (v.p.toNat = p))).map Ev.i
theorem pubIds_snoc (es : List Ev) (v : Ev) (p : Nat) : pubIds (es ++ [v]) p = pubIds es p ++ if v.k = 1 ∧ v.p.toNat = p then [v.i] else [] := by
  unfold pubIds
  rw [List.filter_append, List.map_append]
  congr 1
  by_cases h1 : v.k = 1 <;> by_cases h2 : v.p.toNat = p <;> simp [h1, h2]
theorem Hist.win {es : List Ev} {s : St} {ans : List An} (h : Hist es s ans) (p : Nat) : WinInv (pubIds es p) (s.wt p) (s.wz p) := by
  induction h with
  | nil => exact WinInv.none
  | @snoc es s s' ans v an h hv st ih =>
    rw [pubIds_snoc]
    cases st with
    | pub hk hl hn _ _ =>
      show WinInv _ (tput s.wt v.p.toNat _ p) (tput s.wz v.p.toNat _ p)
      unfold tput
      by_cases e : p = v.p.toNat
      · rw [if_pos e, if_pos e, if_pos ⟨hk, e.symm⟩, ← e]
        rw [← e] at hl hn
        have := hv.i
        exact ih.take (by omega) (by omega) hn
      · rw [if_neg e, if_neg e, if_neg (fun h => e h.2.symm), List.append_nil]
        exact ih
    | recv hk _ _ =>
      rw [if_neg (fun h => by omega), List.append_nil]
      exact ih
    | ack hk _ m hm _ =>
      rw [if_neg (fun h => by omega), List.append_nil]
      exact ih
    | stop hk _ R' _ =>
      rw [if_neg (fun h => by omega), List.append_nil]
      exact ih
theorem Hist.like {es : List Ev} {s : St} {ans : List An} (h : Hist es s ans) : ∀ v ∈ es, DeedLike v := by
  induction h with
  | nil => intro v hv; cases hv
  | snoc h hv st ih =>
    intro u hu
    rcases List.mem_append.1 hu with hu | hu
    · exact ih u hu
    · obtain rfl := List.mem_singleton.1 hu
      exact hv
theorem pubIds_mem {es : List Ev} {v : Ev} (h : v ∈ es) (hk : v.k = 1) : v.i ∈ pubIds es v.p.toNat :=
  List.mem_map.2 ⟨v, List.mem_filter.2 ⟨h, by simp [hk]⟩, rfl⟩
theorem Hist.pubIds_none {es : List Ev} {s : St} {ans : List An} (h : Hist es s ans) (p : Nat) (hp : 2 ≤ p) : pubIds es p = [] := by
  unfold pubIds
  rw [List.map_eq_nil_iff, List.filter_eq_nil_iff]
  intro v hv
  have := (h.like v hv).p
  simp
  omega
/-- where a handle is: nowhere, or at a place. -/
theorem idx_spec {α : Type} [Inhabited α] (eq : α → α → Bool) (x : α) : ∀ (l : List α) (i : Nat), (Lib.idxByFrom eq x l i = -1 ∧ ∀ j, j < l.length → eq x l[j]! = false) ∨ ∃ k, k < l.length ∧ Lib.idxByFrom eq x l i = ((i + k : Nat) : Int) ∧ eq x l[k]! = true
  | [], _ => .inl ⟨rfl, fun j hj => absurd hj (Nat.not_lt_zero _)⟩
  | y :: r, i => by
    cases h : eq x y with
    | true => exact .inr ⟨0, by simp, by simp [Lib.idxByFrom, h], by simpa using h⟩
    | false =>
      rcases idx_spec eq x r (i + 1) with ⟨e, ha⟩ | ⟨k, hk, e, ht⟩
      · refine .inl ⟨by simp [Lib.idxByFrom, h, e], fun j hj => ?_⟩
        cases j with
        | zero => simpa using h
        | succ j => simpa using ha j (by simpa using hj)
      · refine .inr ⟨k + 1, by simpa using hk, ?_, by simpa using ht⟩
        have : Lib.idxByFrom eq x (y :: r) i = Lib.idxByFrom eq x r (i + 1) := by simp [Lib.idxByFrom, h]
        rw [this, e]
        congr 1
        omega
theorem ackAt_spec (he hn : Int) (L : List Int) (ln : Nat) : (ackAt he hn L ln = -1 ∧ ∀ j, j < ln → ¬ (L.getD (4 * j) 0 = he ∧ L.getD (4 * j + 1) 0 = hn)) ∨ ∃ m : Nat, m < ln ∧ ackAt he hn L ln = m ∧ L.getD (4 * m) 0 = he ∧ L.getD (4 * m + 1) 0 = hn := by
  have hl : ((quadsOf L ln).take ln) = quadsOf L ln := List.take_of_length_le (by rw [quadsOf_len]; exact Nat.le_refl _)
  unfold ackAt
  rw [hl]
  unfold Lib.idxBy
  rcases idx_spec (fun _ y => isHandle he hn y) default (quadsOf L ln) 0 with ⟨e, ha⟩ | ⟨m, hm, e, ht⟩
  · refine .inl ⟨e, fun j hj ⟨h1, h2⟩ => ?_⟩
    have := ha j (by rw [quadsOf_len]; exact hj)
    rw [quadsOf_at L ln j hj] at this
    simp [isHandle, quadAt] at this
    simp at h1 h2
    exact this h1 h2
  · rw [quadsOf_len] at hm
    rw [quadsOf_at L ln m hm] at ht
    simp [isHandle, quadAt] at ht
    refine .inr ⟨m, hm, by rw [e, Nat.zero_add], ?_, ?_⟩
    · simpa using ht.1
    · simpa using ht.2
theorem lease_lt {s : St} (h : s.Ok) : ∀ (j i : Nat), i < j → j < s.ln → s.L.getD (4 * i + 1) 0 < s.L.getD (4 * j + 1) 0
  | 0, _, h1, _ => absurd h1 (Nat.not_lt_zero _)
  | j + 1, i, h1, h2 => by
    have hr := lease_rise h h2
    rcases Nat.lt_or_ge i j with h3 | h3
    · have := lease_lt h j i h3 (by omega)
      omega
    · obtain rfl : i = j := by omega
      exact hr
/-- an ack of a lease's handle: it was there, and is gone. -/
theorem Step.acked {s s' : St} {v : Ev} {an : An} {ch : Bool} (h : s.Wf) (st : Step s v s' an ch) (hk : v.k = 3) (j : Nat) (hj : j < s.ln) (h1 : v.he = s.L.getD (4 * j) 0) (h2 : v.hn = s.L.getD (4 * j + 1) 0) :
    ch = true ∧ an = ⟨0, 0, 0, 0⟩ ∧ s'.ep = s.ep ∧ s'.rn = s.rn ∧ s'.ln = s.ln - 1 ∧ ackAt v.he v.hn s'.L s'.ln = -1 := by
  have hep := (lease_bounds h.ok hj).1
  cases st with
  | pubLow hk' | pubOld hk' | pubFull hk' | pub hk' | recEmpty hk' | recFull hk' | recv hk' | endFull hk' | stop hk' => omega
  | ackStale _ h' => exact absurd (h1.trans hep) h'
  | ackNone _ _ ha =>
    rcases ackAt_spec v.he v.hn s.L s.ln with ⟨_, h3⟩ | ⟨m, _, h3, _⟩
    · exact absurd ⟨h1.symm, h2.symm⟩ (h3 j hj)
    · omega
  | ack _ _ m hm ha =>
    refine ⟨rfl, rfl, rfl, rfl, rfl, ?_⟩
    rcases ackAt_spec v.he v.hn s.L s.ln with ⟨h3, _⟩ | ⟨m', hm', h3, h4, h5⟩
    · omega
    · obtain rfl : m' = m := by omega
      rcases ackAt_spec v.he v.hn (s.L.take (4 * m') ++ s.L.drop (4 * m' + 4)) (s.ln - 1) with ⟨h6, _⟩ | ⟨i, hi, h6, h7, h8⟩
      · exact h6
      · exfalso
        have e := cut_get s.L m' s.ln i 1 h.ll hm (by omega)
        rw [e] at h8
        rw [← h5] at h8
        split at h8
        · have := lease_lt h.ok m' i (by omega) hm; omega
        · have := lease_lt h.ok (i + 1) m' (by omega) (by omega); omega
theorem Step.gone {s s' : St} {v : Ev} {an : An} {ch : Bool} (st : Step s v s' an ch) (hk : v.k = 3) (h1 : v.he = s.ep) (ha : ackAt v.he v.hn s.L s.ln = -1) : ch = false ∧ an = ⟨7, 0, 0, 0⟩ := by
  cases st with
  | pubLow hk' | pubOld hk' | pubFull hk' | pub hk' | recEmpty hk' | recFull hk' | recv hk' | endFull hk' | stop hk' => omega
  | ackStale _ h' => exact absurd h1 h'
  | ackNone _ _ _ => exact ⟨rfl, rfl⟩
  | ack _ _ m hm hb => omega
theorem Step.stale {s s' : St} {v : Ev} {an : An} {ch : Bool} (st : Step s v s' an ch) (hk : v.k = 3) (h1 : ¬ v.he = s.ep) : ch = false ∧ an = ⟨11, 0, 0, 0⟩ ∧ s' = s := by
  cases st with
  | pubLow hk' | pubOld hk' | pubFull hk' | pub hk' | recEmpty hk' | recFull hk' | recv hk' | endFull hk' | stop hk' => omega
  | ackStale _ h' => exact ⟨rfl, rfl, rfl⟩
  | ackNone _ h' _ => exact absurd h' h1
  | ack _ h' m hm hb => exact absurd h' h1
theorem ackAt_none (he hn : Int) (L : List Int) : ackAt he hn L 0 = -1 := by
  rcases ackAt_spec he hn L 0 with ⟨h, _⟩ | ⟨m, hm, _⟩
  · exact h
  · omega
/-- a break: what it leaves. -/
theorem Step.stopped {s s' : St} {v : Ev} {an : An} {ch : Bool} (h : s.Wf) (st : Step s v s' an ch) (hk : v.k = 4) (h1 : s.ep < 1048576) :
    ch = true ∧ an = ⟨0, 0, 0, 0⟩ ∧ s'.ep = s.ep + 1 ∧ s'.nx = s.nx ∧ s'.rn = s.rn + s.ln ∧ s'.ln = 0 ∧ s'.wt = s.wt ∧ s'.wz = s.wz ∧ ∀ i, i + 1 < s'.rn → s'.R.getD (2 * i) 0 < s'.R.getD (2 * (i + 1)) 0 := by
  cases st with
  | pubLow hk' | pubOld hk' | pubFull hk' | pub hk' | recEmpty hk' | recFull hk' | recv hk' | ackStale hk' | ackNone hk' | ack hk' => omega
  | endFull _ h' => omega
  | stop _ _ R' ho => exact ⟨rfl, rfl, rfl, rfl, rfl, rfl, rfl, rfl, ordered_rise h ho⟩
/-- a receive where something is ready. -/
theorem Step.received {s s' : St} {v : Ev} {an : An} {ch : Bool} (st : Step s v s' an ch) (hk : v.k = 2) (h1 : 0 < s.rn) (h2 : s.gv < 1073741824) :
    ch = true ∧ an = ⟨0, s.ep, s.gv, s.R.getD 1 0⟩ ∧ s' = ⟨s.ep, s.nx, s.gv + 1, s.rn - 1, s.R.drop 2, s.ln + 1, s.L ++ [s.ep, s.gv, s.R.getD 0 0, s.R.getD 1 0], s.wt, s.wz⟩ := by
  cases st with
  | pubLow hk' | pubOld hk' | pubFull hk' | pub hk' | ackStale hk' | ackNone hk' | ack hk' | endFull hk' | stop hk' => omega
  | recEmpty _ h' => omega
  | recFull _ _ h' => omega
  | recv _ _ _ => exact ⟨rfl, rfl, rfl⟩
theorem Step.emptied {s s' : St} {v : Ev} {an : An} {ch : Bool} (st : Step s v s' an ch) (hk : v.k = 2) (h1 : s.rn = 0) : ch = false ∧ an = ⟨10, 0, 0, 0⟩ ∧ s' = s := by
  cases st with
  | pubLow hk' | pubOld hk' | pubFull hk' | pub hk' | ackStale hk' | ackNone hk' | ack hk' | endFull hk' | stop hk' => omega
  | recEmpty _ h' => exact ⟨rfl, rfl, rfl⟩
  | recFull _ h' _ => omega
  | recv _ h' _ => omega
/-- a publish of an id that is new, where there is room. -/
theorem Step.published {s s' : St} {v : Ev} {an : An} {ch : Bool} (st : Step s v s' an ch) (hk : v.k = 1) (h1 : s.wt v.p.toNat - 8 ≤ v.i) (hn : inWin (s.wt v.p.toNat) (s.wz v.p.toNat) v.i = false) (h2 : s.rn + s.ln < 500) (h3 : s.nx < 1073741824) :
    ch = true ∧ an = ⟨0, 0, 0, 0⟩ ∧ s' = ⟨s.ep, s.nx + 1, s.gv, s.rn + 1, s.R ++ [s.nx, v.b], s.ln, s.L, tput s.wt v.p.toNat (takeT (s.wt v.p.toNat) v.i), tput s.wz v.p.toNat (takeS (s.wt v.p.toNat) (s.wz v.p.toNat) v.i)⟩ := by
  cases st with
  | recEmpty hk' | recFull hk' | recv hk' | ackStale hk' | ackNone hk' | ack hk' | endFull hk' | stop hk' => omega
  | pubLow _ h' => omega
  | pubOld _ h' => rw [hn] at h'; cases h'
  | pubFull _ _ _ h' => omega
  | pub _ _ _ _ _ => exact ⟨rfl, rfl, rfl⟩
/-- an id that was published comes again: nothing is added. -/
theorem Step.twice {es : List Ev} {s s' : St} {ans : List An} {u v : Ev} {an : An} {ch : Bool} (h : Hist es s ans) (hu : u ∈ es) (hk : u.k = 1) (hv : v.k = 1) (hp : v.p = u.p) (hi : v.i = u.i) (st : Step s v s' an ch) : ch = false ∧ (an = ⟨0, 0, 0, 0⟩ ∨ an = ⟨9, 0, 0, 0⟩) ∧ s' = s := by
  have hm := pubIds_mem hu hk
  have hw := h.win u.p.toNat
  cases st with
  | recEmpty hk' | recFull hk' | recv hk' | ackStale hk' | ackNone hk' | ack hk' | endFull hk' | stop hk' => omega
  | pubLow _ h' => exact ⟨rfl, .inr rfl, rfl⟩
  | pubOld _ h' => exact ⟨rfl, .inl rfl, rfl⟩
  | pubFull _ h1 h2 _ =>
    rw [hp, hi] at h1 h2
    rw [(hw.mem _ h1).2 hm] at h2
    cases h2
  | pub _ h1 h2 _ _ =>
    rw [hp, hi] at h1 h2
    rw [(hw.mem _ h1).2 hm] at h2
    cases h2
end Go.Proofs.YtcdopnkabbfooaaGreat

namespace Go.Proofs.YtcdopnkabbfooaaGreat

theorem inWin_under {t x : Int} {s : Nat → Bool} (h : x < t - 8) : inWin t s x = false := by
  unfold inWin
  rw [decide_eq_false (by omega)]
  simp
theorem getD_ext {A B : List Int} {n : Nat} (ha : A.length = 2 * n) (hb : B.length = 2 * n) (h : ∀ i, i < n → A.getD (2 * i) 0 = B.getD (2 * i) 0 ∧ A.getD (2 * i + 1) 0 = B.getD (2 * i + 1) 0) : A = B := by
  apply List.ext_getElem (by omega)
  intro i h1 h2
  have e : ∀ (L : List Int) (hL : i < L.length), L[i] = L.getD i 0 := fun L hL => by simp [List.getElem?_eq_getElem hL]
  rw [e A h1, e B h2]
  have hi := h (i / 2) (by omega)
  rcases Nat.mod_two_eq_zero_or_one i with hm | hm
  · have : 2 * (i / 2) = i := by omega
    rw [this] at hi
    exact hi.1
  · have : 2 * (i / 2) + 1 = i := by omega
    rw [this] at hi
    exact hi.2
theorem ordered_one {s : St} {A B : List Int} (h : s.Wf) (ha : Ordered (s.R ++ msgsTo s.L s.ln) A (s.rn + s.ln)) (hb : Ordered (s.R ++ msgsTo s.L s.ln) B (s.rn + s.ln)) : A = B := by
  have ra := ordered_rise h ha
  have rb := ordered_rise h hb
  have sorted : ∀ (C : List Int) (n : Nat), (∀ i, i + 1 < n → C.getD (2 * i) 0 < C.getD (2 * (i + 1)) 0) → (pairsOf C n).Pairwise (fun x y => x.1 < y.1) := by
    intro C n hC
    have far : ∀ j i, i < j → j < n → C.getD (2 * i) 0 < C.getD (2 * j) 0 := by
      intro j
      induction j with
      | zero => intro i h1; omega
      | succ j ih =>
        intro i h1 h2
        have hs := hC j h2
        rcases Nat.lt_or_ge i j with h3 | h3
        · have := ih i h3 (by omega); omega
        · obtain rfl : i = j := by omega
          exact hs
    rw [List.pairwise_iff_getElem]
    intro i j hi hj hij
    have hi' : i < n := by simpa [pairsOf] using hi
    have hj' : j < n := by simpa [pairsOf] using hj
    simp only [pairsOf, List.getElem_map, List.getElem_range, pairAt]
    exact far j i hij hj'
  have hp : (pairsOf A (s.rn + s.ln)).Perm (pairsOf B (s.rn + s.ln)) := ha.perm.trans hb.perm.symm
  have he : pairsOf A (s.rn + s.ln) = pairsOf B (s.rn + s.ln) := by
    refine List.Perm.eq_of_pairwise (le := fun x y => x.1 < y.1) ?_ (sorted A _ ra) (sorted B _ rb) hp
    intro a b _ _ h1 h2
    omega
  refine getD_ext ha.len hb.len (fun i hi => ?_)
  have h1 : (pairsOf A (s.rn + s.ln))[i]? = (pairsOf B (s.rn + s.ln))[i]? := by rw [he]
  simp [pairsOf, hi, pairAt] at h1
  simpa using h1
theorem Step.det {s s1 s2 : St} {v : Ev} {a1 a2 : An} {c1 c2 : Bool} (h : s.Wf) (x : Step s v s1 a1 c1) (y : Step s v s2 a2 c2) : s1 = s2 ∧ a1 = a2 ∧ c1 = c2 := by
  cases x with
  | pubLow hk g => cases y with
    | pubLow => exact ⟨rfl, rfl, rfl⟩
    | pubOld _ g2 => rw [inWin_under g] at g2; cases g2
    | pubFull | pub | recEmpty | recFull | recv | ackStale | ackNone | ack | endFull | stop => omega
  | pubOld hk g => cases y with
    | pubLow _ g2 => rw [inWin_under g2] at g; cases g
    | pubOld => exact ⟨rfl, rfl, rfl⟩
    | pubFull _ _ g2 => rw [g] at g2; cases g2
    | pub _ _ g2 => rw [g] at g2; cases g2
    | recEmpty | recFull | recv | ackStale | ackNone | ack | endFull | stop => omega
  | pubFull hk g g1 g2 => cases y with
    | pubOld _ g3 => rw [g1] at g3; cases g3
    | pubFull => exact ⟨rfl, rfl, rfl⟩
    | pubLow | pub | recEmpty | recFull | recv | ackStale | ackNone | ack | endFull | stop => omega
  | pub hk g g1 g2 g3 => obtain ⟨rfl, rfl, rfl⟩ := y.published hk g g1 g2 g3; exact ⟨rfl, rfl, rfl⟩
  | recEmpty hk g => obtain ⟨rfl, rfl, rfl⟩ := y.emptied hk g; exact ⟨rfl, rfl, rfl⟩
  | recFull hk g g1 => cases y with
    | recFull => exact ⟨rfl, rfl, rfl⟩
    | pubLow | pubOld | pubFull | pub | recEmpty | recv | ackStale | ackNone | ack | endFull | stop => omega
  | recv hk g g1 => obtain ⟨rfl, rfl, rfl⟩ := y.received hk g g1; exact ⟨rfl, rfl, rfl⟩
  | ackStale hk g => obtain ⟨rfl, rfl, rfl⟩ := y.stale hk g; exact ⟨rfl, rfl, rfl⟩
  | ackNone hk g g1 => cases y with
    | ackNone => exact ⟨rfl, rfl, rfl⟩
    | ackStale _ g2 => exact absurd g g2
    | pubLow | pubOld | pubFull | pub | recEmpty | recFull | recv | ack | endFull | stop => omega
  | ack hk g m hm g1 => cases y with
    | ack _ _ m' hm' g2 =>
      obtain rfl : m = m' := by omega
      exact ⟨rfl, rfl, rfl⟩
    | ackStale _ g2 => exact absurd g g2
    | pubLow | pubOld | pubFull | pub | recEmpty | recFull | recv | ackNone | endFull | stop => omega
  | endFull hk g => cases y with
    | endFull => exact ⟨rfl, rfl, rfl⟩
    | pubLow | pubOld | pubFull | pub | recEmpty | recFull | recv | ackStale | ackNone | ack | stop => omega
  | stop hk g R' ho => cases y with
    | stop _ _ R2 ho2 =>
      obtain rfl := ordered_one h ho ho2
      exact ⟨rfl, rfl, rfl⟩
    | pubLow | pubOld | pubFull | pub | recEmpty | recFull | recv | ackStale | ackNone | ack | endFull => omega
/-- events that may be, each of which changes something: a history. -/
inductive Tells : List Ev → St → List An → Prop
  | nil : Tells [] St.zero []
  | snoc {es : List Ev} {s s' : St} {ans : List An} {v : Ev} {an : An} (h : Tells es s ans) (hv : v.Ok) (st : Step s v s' an true) : Tells (es ++ [v]) s' (ans ++ [an])
theorem Hist.tells {es : List Ev} {s : St} {ans : List An} (h : Hist es s ans) : Tells es s ans := by
  induction h with
  | nil => exact .nil
  | snoc h hv st ih => exact .snoc ih hv.ok st
theorem Tells.wf {es : List Ev} {s : St} {ans : List An} (h : Tells es s ans) : s.Wf := by
  induction h with
  | nil => exact St.zero_wf
  | snoc h hv st ih => exact st.wf ih hv
theorem Tells.last {es : List Ev} {v : Ev} {s : St} {ans : List An} (h : Tells (es ++ [v]) s ans) : ∃ s0 ans0 an, Tells es s0 ans0 ∧ v.Ok ∧ Step s0 v s an true ∧ ans = ans0 ++ [an] := by
  generalize he : es ++ [v] = l at h
  cases h with
  | nil => simp at he
  | @snoc es' s0 s' ans0 v' an h hv st =>
    obtain ⟨rfl, hv'⟩ := List.append_inj' he rfl
    cases hv'
    exact ⟨s0, ans0, an, h, hv, st, rfl⟩
theorem Tells.one {es : List Ev} {s1 s2 : St} {ans1 ans2 : List An} (h1 : Tells es s1 ans1) (h2 : Tells es s2 ans2) : s1 = s2 ∧ ans1 = ans2 := by
  induction h1 generalizing s2 ans2 with
  | nil =>
    generalize he : ([] : List Ev) = l at h2
    cases h2 with
    | nil => exact ⟨rfl, rfl⟩
    | snoc => simp at he
  | snoc h hv st ih =>
    obtain ⟨s0, ans0, an, h3, _, st2, rfl⟩ := h2.last
    obtain ⟨rfl, rfl⟩ := ih h3
    obtain ⟨rfl, rfl, _⟩ := st.det h.wf st2
    exact ⟨rfl, rfl⟩
/-- the beginning of a history is one. -/
theorem Tells.take {es : List Ev} {s : St} {ans : List An} (h : Tells es s ans) : ∀ k, k ≤ es.length → ∃ s0, Tells (es.take k) s0 (ans.take k) := by
  induction h with
  | nil => intro k _; exact ⟨St.zero, by simpa using Tells.nil⟩
  | @snoc es s s' ans v an h hv st ih =>
    intro k hk
    have hl : ans.length = es.length := by
      clear ih st hk
      induction h with
      | nil => rfl
      | snoc _ _ _ ih => simp [ih]
    rcases Nat.lt_or_ge es.length k with h1 | h1
    · obtain rfl : k = (es ++ [v]).length := by simp at hk ⊢; omega
      refine ⟨s', ?_⟩
      rw [List.take_length, List.take_of_length_le (by simp; omega)]
      exact .snoc h hv st
    · obtain ⟨s0, h0⟩ := ih k h1
      refine ⟨s0, ?_⟩
      rw [List.take_append_of_le_length h1, List.take_append_of_le_length (by omega)]
      exact h0
theorem Tells.step {es : List Ev} {s : St} {ans : List An} (h : Tells es s ans) {k : Nat} (hk : k < es.length) {s0 : St} {a0 : List An} (h0 : Tells (es.take k) s0 a0) : ∃ s1 an, Step s0 es[k] s1 an true ∧ es[k].Ok := by
  obtain ⟨s1, h1⟩ := h.take (k + 1) hk
  rw [List.take_succ_eq_append_getElem hk] at h1
  obtain ⟨s2, ans2, an, h2, hv, st, _⟩ := h1.last
  obtain ⟨rfl, _⟩ := h2.one h0
  exact ⟨s1, an, st, hv⟩
end Go.Proofs.YtcdopnkabbfooaaGreat

namespace Go.Proofs.YtcdopnkabbfooaaGreat
open Go.RowKit

/-- of the first i events so many are of a kind. -/
def cntTo (D : List Int) (k : Int) : Nat → Nat
  | 0 => 0
  | i + 1 => cntTo D k i + if D.getD (6 * i) 0 = k then 1 else 0
theorem cntTo_le (D : List Int) (k : Int) : ∀ i, cntTo D k i ≤ i
  | 0 => Nat.le_refl _
  | i + 1 => by
    have := cntTo_le D k i
    unfold cntTo
    split <;> omega
theorem evFlat_at : ∀ (es : List Ev) (i : Nat) (h : i < es.length) (j : Nat), j < 6 → (evFlat es).getD (6 * i + j) 0 = (evCells es[i]).getD j 0
  | [], _, h, _, _ => absurd h (Nat.not_lt_zero _)
  | v :: es, 0, _, j, hj => by
    have hl : (evCells v).length = 6 := rfl
    show (evCells v ++ evFlat es).getD (6 * 0 + j) 0 = _
    rw [Nat.mul_zero, Nat.zero_add, getD_left _ _ _ (by omega)]
    rfl
  | v :: es, i + 1, h, j, hj => by
    have hl : (evCells v).length = 6 := rfl
    show (evCells v ++ evFlat es).getD (6 * (i + 1) + j) 0 = _
    rw [show 6 * (i + 1) + j = 6 + (6 * i + j) by omega, getD_right _ _ _ 6 hl, evFlat_at es i (by simpa using h) j hj]
    rfl
theorem evFlat_len (es : List Ev) : (evFlat es).length = 6 * es.length := by
  induction es with
  | nil => rfl
  | cons v es ih =>
    show (evCells v ++ evFlat es).length = _
    rw [List.length_append, ih]
    show 6 + _ = 6 * (es.length + 1)
    omega
theorem cntTo_es (es : List Ev) (k : Int) : ∀ i, i ≤ es.length → cntTo (evFlat es) k i = cnt (es.take i) k
  | 0, _ => by simp [cntTo, cnt]
  | i + 1, h => by
    have e := evFlat_at es i (by omega) 0 (by omega)
    rw [Nat.add_zero] at e
    rw [List.take_succ_eq_append_getElem (show i < es.length by omega), cnt_snoc]
    unfold cntTo
    rw [cntTo_es es k i (by omega), e]
    rfl
theorem cntTo_all (es : List Ev) (k : Int) : cntTo (evFlat es) k es.length = cnt es k := by
  rw [cntTo_es es k es.length (Nat.le_refl _), List.take_length]
end Go.Proofs.YtcdopnkabbfooaaGreat

namespace Go.Proofs.YtcdopnkabbfooaaGreat
open Go.ChangeShapes Go.WideShapes Go.ChangeAt Go.RowKit

section
variable {H : Type} {enc : TypeId × Value → H} {P : Program} {W : World} {base : Nat} {sp : Nat → Bool} {held : Bool}

/-- a list of cells that are all integers of kind i64. -/
def Ints (cs : List Value) : Prop := ∃ zs : List Int, cs = zs.map (Value.int .i64) ∧ ∀ z ∈ zs, (Lit.int .i64 z).wf = true

theorem Ints.nil : Ints [] := ⟨[], rfl, by simp⟩
theorem Ints.app {a b : List Value} (ha : Ints a) (hb : Ints b) : Ints (a ++ b) := by
  obtain ⟨x, rfl, hx⟩ := ha
  obtain ⟨y, rfl, hy⟩ := hb
  refine ⟨x ++ y, by simp, ?_⟩
  intro z hz
  rcases List.mem_append.1 hz with h | h
  · exact hx z h
  · exact hy z h

theorem ints_int {t : TypeId} {fuel : Nat} {cs : List Value} {x : DataW H × List MemPlace} (ht : P.underlying t = some (.int .i64)) (h : DataW.trod enc P W base sp held fuel t cs = some x) : Ints cs := by
  obtain ⟨n, rfl, _, hw⟩ := DataW.trod_int ht h
  exact ⟨[n], rfl, by simpa using hw⟩

theorem take_split (cs : List Value) (o n : Nat) : cs.drop o = (cs.drop o).take n ++ cs.drop (o + n) := by
  rw [← List.drop_drop]; exact (List.take_append_drop n (cs.drop o)).symm

/-- one field more from the front. -/
theorem ints_step {cs : List Value} {o n : Nat} (h1 : Ints ((cs.drop o).take n)) (h2 : Ints (cs.drop (o + n))) : Ints (cs.drop o) := by
  rw [take_split cs o n]; exact h1.app h2
theorem ints_end {cs : List Value} {o : Nat} (h : cs.length ≤ o) : Ints (cs.drop o) := by
  rw [List.drop_eq_nil_of_le h]; exact Ints.nil
end

theorem cells_int : Tryz.prog.cellsOf 3 = 1 := by kernel_rfl
theorem cells_handle : Tryz.prog.cellsOf 26 = 2 := by kernel_rfl
theorem cells_event : Tryz.prog.cellsOf 28 = 6 := by kernel_rfl
theorem cells_record : Tryz.prog.cellsOf 30 = 10 := by kernel_rfl

section
variable {H : Type} {enc : TypeId × Value → H} {W : World} {base : Nat} {sp : Nat → Bool} {held : Bool}

theorem ints_handle {fuel : Nat} {cs : List Value} {x : DataW H × List MemPlace} (h : DataW.trod enc Tryz.prog W base sp held fuel 26 cs = some x) : Ints cs := by
  obtain ⟨xs, n, _, _, hl, hlen, hf⟩ := DataW.trod_struct Tryz.underlying26 h
  rw [cells_handle] at hl
  match xs, hlen with
  | [y0, y1], _ =>
    have f0 : DataW.trod enc Tryz.prog W base sp held n 3 ((cs.drop 0).take (Tryz.prog.cellsOf 3)) = some y0 := hf 0 _ rfl
    rw [cells_int] at f0
    have f1 : DataW.trod enc Tryz.prog W base sp held n 3 ((cs.drop 1).take (Tryz.prog.cellsOf 3)) = some y1 := hf 1 _ rfl
    rw [cells_int] at f1
    exact ints_step (o := 0) (n := 1) (ints_int Tryz.underlying3 f0) (ints_step (o := 1) (n := 1) (ints_int Tryz.underlying3 f1) (ints_end (by omega)))

theorem ints_event {fuel : Nat} {cs : List Value} {x : DataW H × List MemPlace} (h : DataW.trod enc Tryz.prog W base sp held fuel 28 cs = some x) : Ints cs := by
  obtain ⟨xs, n, _, _, hl, hlen, hf⟩ := DataW.trod_struct Tryz.underlying28 h
  rw [cells_event] at hl
  match xs, hlen with
  | [y0, y1, y2, y3, y4], _ =>
    have f0 : DataW.trod enc Tryz.prog W base sp held n 3 ((cs.drop 0).take (Tryz.prog.cellsOf 3)) = some y0 := hf 0 _ rfl
    rw [cells_int] at f0
    have f1 : DataW.trod enc Tryz.prog W base sp held n 3 ((cs.drop 1).take (Tryz.prog.cellsOf 3)) = some y1 := hf 1 _ rfl
    rw [cells_int] at f1
    have f2 : DataW.trod enc Tryz.prog W base sp held n 3 ((cs.drop 2).take (Tryz.prog.cellsOf 3)) = some y2 := hf 2 _ rfl
    rw [cells_int] at f2
    have f3 : DataW.trod enc Tryz.prog W base sp held n 3 ((cs.drop 3).take (Tryz.prog.cellsOf 3)) = some y3 := hf 3 _ rfl
    rw [cells_int] at f3
    have f4 : DataW.trod enc Tryz.prog W base sp held n 26 ((cs.drop 4).take (Tryz.prog.cellsOf 26)) = some y4 := hf 4 _ rfl
    rw [cells_handle] at f4
    exact ints_step (o := 0) (n := 1) (ints_int Tryz.underlying3 f0) (ints_step (o := 1) (n := 1) (ints_int Tryz.underlying3 f1) (ints_step (o := 2) (n := 1) (ints_int Tryz.underlying3 f2)
      (ints_step (o := 3) (n := 1) (ints_int Tryz.underlying3 f3) (ints_step (o := 4) (n := 2) (ints_handle f4) (ints_end (by omega))))))

theorem ints_record {fuel : Nat} {cs : List Value} {x : DataW H × List MemPlace} (h : DataW.trod enc Tryz.prog W base sp held fuel 30 cs = some x) : Ints cs := by
  obtain ⟨xs, n, _, _, hl, hlen, hf⟩ := DataW.trod_struct Tryz.underlying30 h
  rw [cells_record] at hl
  match xs, hlen with
  | [y0, y1, y2, y3, y4], _ =>
    have f0 : DataW.trod enc Tryz.prog W base sp held n 3 ((cs.drop 0).take (Tryz.prog.cellsOf 3)) = some y0 := hf 0 _ rfl
    rw [cells_int] at f0
    have f1 : DataW.trod enc Tryz.prog W base sp held n 3 ((cs.drop 1).take (Tryz.prog.cellsOf 3)) = some y1 := hf 1 _ rfl
    rw [cells_int] at f1
    have f2 : DataW.trod enc Tryz.prog W base sp held n 3 ((cs.drop 2).take (Tryz.prog.cellsOf 3)) = some y2 := hf 2 _ rfl
    rw [cells_int] at f2
    have f3 : DataW.trod enc Tryz.prog W base sp held n 3 ((cs.drop 3).take (Tryz.prog.cellsOf 3)) = some y3 := hf 3 _ rfl
    rw [cells_int] at f3
    have f4 : DataW.trod enc Tryz.prog W base sp held n 28 ((cs.drop 4).take (Tryz.prog.cellsOf 28)) = some y4 := hf 4 _ rfl
    rw [cells_event] at f4
    exact ints_step (o := 0) (n := 1) (ints_int Tryz.underlying3 f0) (ints_step (o := 1) (n := 1) (ints_int Tryz.underlying3 f1) (ints_step (o := 2) (n := 1) (ints_int Tryz.underlying3 f2)
      (ints_step (o := 3) (n := 1) (ints_int Tryz.underlying3 f3) (ints_step (o := 4) (n := 6) (ints_event f4) (ints_end (by omega))))))

set_option maxRecDepth 20000 in
theorem open_Event {r : Reach} {b0 : Nat} {v : Value} {d : DataW H} {p : List MemPlace} (hv : Value.okWide Tryz.prog W r b0 28 v) (h : DataW.Trod enc Tryz.prog W base sp held 28 v d p) :
    ∃ x0 x1 x2 x3 x4 x5 : Int, v = .agg #[.int .i64 x0, .int .i64 x1, .int .i64 x2, .int .i64 x3, .int .i64 x4, .int .i64 x5] ∧ ∀ z ∈ [x0, x1, x2, x3, x4, x5], (Lit.int .i64 z).wf = true := by
  obtain ⟨cs, n, rfl, hsz, hf⟩ := open_struct Tryz.underlying28 hv h
  rw [cells_event] at hsz
  obtain ⟨zs, hz, hw⟩ := ints_event hf
  have hl : zs.length = 6 := by have := congrArg List.length hz; simp at this; omega
  match zs, hl with
  | [x0, x1, x2, x3, x4, x5], _ => exact ⟨x0, x1, x2, x3, x4, x5, by rw [← Array.toArray_toList (xs := cs), hz]; rfl, hw⟩

set_option maxRecDepth 20000 in
theorem open_Record {r : Reach} {b0 : Nat} {v : Value} {d : DataW H} {p : List MemPlace} (hv : Value.okWide Tryz.prog W r b0 30 v) (h : DataW.Trod enc Tryz.prog W base sp held 30 v d p) :
    ∃ x0 x1 x2 x3 x4 x5 x6 x7 x8 x9 : Int, v = .agg #[.int .i64 x0, .int .i64 x1, .int .i64 x2, .int .i64 x3, .int .i64 x4, .int .i64 x5, .int .i64 x6, .int .i64 x7, .int .i64 x8, .int .i64 x9] ∧ ∀ z ∈ [x0, x1, x2, x3, x4, x5, x6, x7, x8, x9], (Lit.int .i64 z).wf = true := by
  obtain ⟨cs, n, rfl, hsz, hf⟩ := open_struct Tryz.underlying30 hv h
  rw [cells_record] at hsz
  obtain ⟨zs, hz, hw⟩ := ints_record hf
  have hl : zs.length = 10 := by have := congrArg List.length hz; simp at this; omega
  match zs, hl with
  | [x0, x1, x2, x3, x4, x5, x6, x7, x8, x9], _ => exact ⟨x0, x1, x2, x3, x4, x5, x6, x7, x8, x9, by rw [← Array.toArray_toList (xs := cs), hz]; rfl, hw⟩
end
end Go.Proofs.YtcdopnkabbfooaaGreat

namespace Go.Proofs.YtcdopnkabbfooaaGreat
open Go.ChangeShapes Go.WideShapes Go.ChangeAt Go.RowKit

theorem cells_deed' : Tryz.prog.cellsOf 73 = 4 := by kernel_rfl

section
variable {H : Type} {enc : TypeId × Value → H} {W : World}

theorem ints_deed {base : Nat} {sp : Nat → Bool} {held : Bool} {fuel : Nat} {cs : List Value} {x : DataW H × List MemPlace} (h : DataW.trod enc Tryz.prog W base sp held fuel 73 cs = some x) : Ints cs ∧ cs.length = 4 := by
  obtain ⟨xs, n, _, _, hl, hlen, hf⟩ := DataW.trod_struct Tryz.underlying73 h
  rw [cells_deed'] at hl
  refine ⟨?_, hl⟩
  match xs, hlen with
  | [y0, y1, y2, y3], _ =>
    have f0 : DataW.trod enc Tryz.prog W base sp held n 3 ((cs.drop 0).take (Tryz.prog.cellsOf 3)) = some y0 := hf 0 _ rfl
    have f1 : DataW.trod enc Tryz.prog W base sp held n 3 ((cs.drop 1).take (Tryz.prog.cellsOf 3)) = some y1 := hf 1 _ rfl
    have f2 : DataW.trod enc Tryz.prog W base sp held n 3 ((cs.drop 2).take (Tryz.prog.cellsOf 3)) = some y2 := hf 2 _ rfl
    have f3 : DataW.trod enc Tryz.prog W base sp held n 3 ((cs.drop 3).take (Tryz.prog.cellsOf 3)) = some y3 := hf 3 _ rfl
    rw [cells_int] at f0 f1 f2 f3
    exact ints_step (o := 0) (n := 1) (ints_int Tryz.underlying3 f0) (ints_step (o := 1) (n := 1) (ints_int Tryz.underlying3 f1) (ints_step (o := 2) (n := 1) (ints_int Tryz.underlying3 f2) (ints_step (o := 3) (n := 1) (ints_int Tryz.underlying3 f3) (ints_end (by omega)))))

/-- the number that a cell holds. -/
def numAtCell (w : World) (a : Addr) : Int := match w.cell? a with
  | some (.int .i64 z) => z
  | _ => 0

set_option maxRecDepth 20000 in
theorem open_Deeds {r : Reach} {b0 : Nat} {v : Value} {d : DataW H} {p : List MemPlace} (hv : Value.okWide Tryz.prog W r b0 45 v) (h : DataW.Trod enc Tryz.prog W 0 (fun _ => true) true 45 v d p) :
    ∃ a len cap D, v = .slice a len cap ∧ RowK .i64 W a (4 * len) D ∧ len ≤ cap ∧ cap ≤ maxLen ∧ (a = none → cap = 0) := by
  obtain ⟨a, len, cap, rfl⟩ := okWide_slice Tryz.underlying45 hv
  obtain ⟨fuel, hf⟩ := h
  rcases Go.Deep.open_slice Tryz.underlying45 hf with ⟨hcs, _⟩ | ⟨x, l, c, m, n, Dd, Pl, hcs, _, hl, hm, hmm, _, hall⟩
  · simp [Value.cells] at hcs
    obtain ⟨rfl, rfl, rfl⟩ := hcs
    exact ⟨none, 0, 0, [], rfl, RowK.nil _ _ _, Nat.le_refl _, by unfold maxLen; omega, fun _ => rfl⟩
  · simp [Value.cells] at hcs
    obtain ⟨rfl, rfl, rfl⟩ := hcs
    simp only [if_true] at hmm
    subst hmm
    have key : ∀ i, i < len → ∀ t, t < 4 → ∃ z, W.cell? ((x.add (i * 4)).add t) = some (.int .i64 z) ∧ (Lit.int .i64 z).wf = true := by
      intro i hi t ht
      obtain ⟨cs', h1, h2⟩ := hall i (by omega)
      rw [cells_deed'] at h1
      obtain ⟨⟨zs, rfl, hw⟩, hl4⟩ := ints_deed h2
      have hl4' : zs.length = 4 := by simpa using hl4
      have h3 := (World.cells?_some h1).2.2 t ht
      rw [h3, List.getElem?_map, List.getElem?_eq_getElem (show t < zs.length by omega)]
      exact ⟨zs[t]'(by omega), rfl, hw _ (List.getElem_mem _)⟩
    obtain ⟨b, off, spot⟩ := x
    by_cases h0 : len = 0
    · subst h0
      exact ⟨_, _, _, [], rfl, RowK.nil _ _ _, hl, hm, by simp⟩
    have hspot : spot = none := by
      obtain ⟨z, hz, _⟩ := key 0 (by omega) 0 (by omega)
      simpa [Addr.add] using World.cell?_spot hz
    subst hspot
    have hadd : ∀ i t, ((⟨b, off, none⟩ : Addr).add i).add t = ⟨b, off + (i + t), none⟩ := by
      intro i t
      have h1 : ∀ (o j : Nat), (⟨b, o, none⟩ : Addr).add j = ⟨b, o + j, none⟩ := fun o j => by unfold Addr.add; split <;> simp_all
      rw [h1, h1, Nat.add_assoc]
    have cell : ∀ j, j < 4 * len → W.cell? ⟨b, off + j, none⟩ = some (.int .i64 (numAtCell W ⟨b, off + j, none⟩)) ∧ (Lit.int .i64 (numAtCell W ⟨b, off + j, none⟩)).wf = true := by
      intro j hj
      obtain ⟨z, hz, hw⟩ := key (j / 4) (by omega) (j % 4) (by omega)
      rw [hadd, show j / 4 * 4 + j % 4 = j by omega] at hz
      have hn : numAtCell W ⟨b, off + j, none⟩ = z := by unfold numAtCell; rw [hz]
      rw [hn]
      exact ⟨hz, hw⟩
    refine ⟨_, _, _, (List.range (4 * len)).map (fun j => numAtCell W ⟨b, off + j, none⟩), rfl, ⟨by simp, ?_, ?_⟩, hl, hm, by simp⟩
    · intro u hu
      simp only [List.mem_map, List.mem_range] at hu
      obtain ⟨j, hj, rfl⟩ := hu
      exact (cell j hj).2
    · intro j hj
      have hc := (cell j hj).1
      refine ⟨b, off, rfl, ?_, ?_⟩
      · unfold World.cell? at hc
        by_cases hbl : b < W.heap.size
        · exact hbl
        · simp [Array.getElem?_eq_none (show W.heap.size ≤ b by omega)] at hc
      · rw [hc]
        simp [List.getD_eq_getElem?_getD, hj]
end
set_option maxRecDepth 20000 in
theorem open_Deed {H : Type} {enc : TypeId × Value → H} {W : World} {base : Nat} {sp : Nat → Bool} {held : Bool} {r : Reach} {b0 : Nat} {v : Value} {d : DataW H} {p : List MemPlace} (hv : Value.okWide Tryz.prog W r b0 73 v) (h : DataW.Trod enc Tryz.prog W base sp held 73 v d p) :
    ∃ x0 x1 x2 x3 : Int, v = .agg #[.int .i64 x0, .int .i64 x1, .int .i64 x2, .int .i64 x3] ∧ ∀ z ∈ [x0, x1, x2, x3], (Lit.int .i64 z).wf = true := by
  have cells_deed : Tryz.prog.cellsOf 73 = 4 := by kernel_rfl
  obtain ⟨cs, n, rfl, hsz, hf⟩ := open_struct Tryz.underlying73 hv h
  rw [cells_deed] at hsz
  have hi : Ints cs.toList := by
    obtain ⟨xs, n, _, _, hl, hlen, hf⟩ := DataW.trod_struct Tryz.underlying73 hf
    rw [cells_deed] at hl
    match xs, hlen with
    | [y0, y1, y2, y3], _ =>
      have f0 : DataW.trod enc Tryz.prog W base sp held n 3 ((cs.toList.drop 0).take (Tryz.prog.cellsOf 3)) = some y0 := hf 0 _ rfl
      have f1 : DataW.trod enc Tryz.prog W base sp held n 3 ((cs.toList.drop 1).take (Tryz.prog.cellsOf 3)) = some y1 := hf 1 _ rfl
      have f2 : DataW.trod enc Tryz.prog W base sp held n 3 ((cs.toList.drop 2).take (Tryz.prog.cellsOf 3)) = some y2 := hf 2 _ rfl
      have f3 : DataW.trod enc Tryz.prog W base sp held n 3 ((cs.toList.drop 3).take (Tryz.prog.cellsOf 3)) = some y3 := hf 3 _ rfl
      rw [cells_int] at f0 f1 f2 f3
      exact ints_step (o := 0) (n := 1) (ints_int Tryz.underlying3 f0) (ints_step (o := 1) (n := 1) (ints_int Tryz.underlying3 f1) (ints_step (o := 2) (n := 1) (ints_int Tryz.underlying3 f2) (ints_step (o := 3) (n := 1) (ints_int Tryz.underlying3 f3) (ints_end (by omega)))))
  obtain ⟨zs, hz, hw⟩ := hi
  have hl : zs.length = 4 := by have := congrArg List.length hz; simp at this; omega
  match zs, hl with
  | [x0, x1, x2, x3], _ => exact ⟨x0, x1, x2, x3, by rw [← Array.toArray_toList (xs := cs), hz]; rfl, hw⟩
end Go.Proofs.YtcdopnkabbfooaaGreat

namespace Go.Proofs.YtcdopnkabbfooaaGreat
open Go.RowKit

/-- a queue in a box. -/
structure Bx (wx : World) (B : Nat) (s : St) (a1 : Option Addr) (c1 : Nat) (a2 : Option Addr) (c2 : Nat) (ws : Nat → Value) : Prop where
  q : qBlock wx B s.ep s.nx s.gv (.slice a1 s.rn c1) (.slice a2 s.ln c2) ws
  r1 : RowK .i64 wx a1 (2 * s.rn) s.R
  r2 : RowK .i64 wx a2 (4 * s.ln) s.L
  n1 : a1 = none → c1 = 0
  n2 : a2 = none → c2 = 0
  wins : Wins ws s.wt s.wz
theorem Bx.next {wx wy : World} {B : Nat} {s : St} {a1 : Option Addr} {c1 : Nat} {a2 : Option Addr} {c2 : Nat} {ws : Nat → Value} (h : Bx wx B s a1 c1 a2 c2 ws) (b : Below wx.heap.size wx wy) : Bx wy B s a1 c1 a2 c2 ws :=
  ⟨h.q.next b, h.r1.below b, h.r2.below b, h.n1, h.n2, h.wins⟩
theorem Bx.do {wx : World} {B : Nat} {s : St} {a1 : Option Addr} {c1 : Nat} {a2 : Option Addr} {c2 : Nat} {ws : Nat → Value} (h : Bx wx B s a1 c1 a2 c2 ws) (ok : s.Ok) (v : Ev) (hv : v.Ok) :
    Calls Tryz.prog 80 #[qVal s.ep s.nx s.gv (.slice a1 s.rn c1) (.slice a2 s.ln c2) ws, evIn v] wx fun e w' => ∃ (s' : St) (an : An) (ch : Bool) (x : Value), e = .returned (.tuple #[x, anOf an, .bool ch, .int .i64 0]) ∧ Step s v s' an ch ∧ QOut wx w' s' x ∧ Below wx.heap.size wx w' :=
  do_step s a1 a2 c1 c2 ws v wx h.r1 h.r2 h.n1 h.n2 h.wins ok hv
/-- a queue that was answered, boxed. -/
theorem boxed {w wx wy wz : World} {s : St} {a1 : Option Addr} {c1 : Nat} {a2 : Option Addr} {c2 : Nat} {ws : Nat → Value} (r1 : RowK .i64 wx a1 (2 * s.rn) s.R) (r2 : RowK .i64 wx a2 (4 * s.ln) s.L) (n1 : a1 = none → c1 = 0) (n2 : a2 = none → c2 = 0) (hW : Wins ws s.wt s.wz) (bel : Below w.heap.size w wx)
    (b : Below wx.heap.size wx wy) (t : Turned wx.heap.size wy wz) (q : qBlock wz wx.heap.size s.ep s.nx s.gv (.slice a1 s.rn c1) (.slice a2 s.ln c2) ws) : Bx wz wx.heap.size s a1 c1 a2 c2 ws ∧ Below wx.heap.size wx wz ∧ Below w.heap.size w wz := by
  have bb := t.under b (Nat.le_refl _)
  exact ⟨⟨q, r1.below bb, r2.below bb, n1, n2, hW⟩, bb, Below.next bel bb⟩
/-- a queue and an answer that Do answered, boxed. -/
theorem boxed2 {w wx wy wz : World} {s : St} {a1 : Option Addr} {c1 : Nat} {a2 : Option Addr} {c2 : Nat} {ws : Nat → Value} (c he no bd : Int) (r1 : RowK .i64 wx a1 (2 * s.rn) s.R) (r2 : RowK .i64 wx a2 (4 * s.ln) s.L) (n1 : a1 = none → c1 = 0) (n2 : a2 = none → c2 = 0) (hW : Wins ws s.wt s.wz) (bel : Below w.heap.size w wx)
    (b : Below wx.heap.size wx wy) (hN : wx.heap.size < wy.heap.size) (t : Turned wx.heap.size (wy.alloc (.cells #[.int .i64 0, .int .i64 0, .int .i64 0, .int .i64 0] 75)) wz) (q : qBlock wz wx.heap.size s.ep s.nx s.gv (.slice a1 s.rn c1) (.slice a2 s.ln c2) ws) :
    ∃ W, W = (((wz.setCell ⟨wy.heap.size, 0, none⟩ (.int .i64 c)).setCell ⟨wy.heap.size, 1, none⟩ (.int .i64 he)).setCell ⟨wy.heap.size, 2, none⟩ (.int .i64 no)).setCell ⟨wy.heap.size, 3, none⟩ (.int .i64 bd) ∧ Bx W wx.heap.size s a1 c1 a2 c2 ws ∧ ansBlock W wy.heap.size c he no bd ∧ Below wx.heap.size wx W ∧ Below w.heap.size w W := by
  have y := ansBlock.new wy 0 0 0 0
  have y1 := y.turned t (by omega)
  have b1 : Below wx.heap.size wx (wy.alloc (.cells #[.int .i64 0, .int .i64 0, .int .i64 0, .int .i64 0] 75)) := Below.next b (below1 _ _)
  have b2 := t.under b1 (Nat.le_refl _)
  have t2 := ans_turned wz wy.heap.size c he no bd
  have b3 := t2.under b2 (by omega)
  exact ⟨_, rfl, ⟨t2.queue q (by omega), r1.below b3, r2.below b3, n1, n2, hW⟩, y1.store _ _ _ _, b3, Below.next bel b3⟩
/-- the answer's zero box, ahead of the store. -/
theorem ans0 {wx wy wz : World} (hN : wx.heap.size < wy.heap.size) (t : Turned wx.heap.size (wy.alloc (.cells #[.int .i64 0, .int .i64 0, .int .i64 0, .int .i64 0] 75)) wz) : ansBlock wz wy.heap.size 0 0 0 0 := (ansBlock.new wy 0 0 0 0).turned t (by omega)
/-- two arrays of bools compared. -/
theorem run_equal_seen_at (d : Nat) (a0 a1 a2 a3 a4 a5 a6 a7 b0 b1 b2 b3 b4 b5 b6 b7 : Bool) (w : World) :
    (Op.equalIn (d + 1 + 1) 87 (.agg #[.bool a0, .bool a1, .bool a2, .bool a3, .bool a4, .bool a5, .bool a6, .bool a7]) (.agg #[.bool b0, .bool b1, .bool b2, .bool b3, .bool b4, .bool b5, .bool b6, .bool b7])).run Tryz.prog w
      = .ok (a0 == b0 && (a1 == b1 && (a2 == b2 && (a3 == b3 && (a4 == b4 && (a5 == b5 && (a6 == b6 && a7 == b7))))))) w := by
  have hb : ∀ (x y : Bool) w, (Op.equalIn (d + 1) 4 (.bool x) (.bool y)).run Tryz.prog w = .ok (x == y) w := fun x y w => run_equalIn_bool w d 4 x y Tryz.underlying4
  rw [Op.equalIn]
  generalize d + 1 = dd at hb ⊢
  simp only [Sem.run_bind, run_underlying Tryz.underlying87, Result.andThen_ok]
  simp [go_sem, List.range', hb]
  repeat' split
  all_goals simp_all
theorem run_equal_seen_same (a0 a1 a2 a3 a4 a5 a6 a7 : Bool) (w : World) :
    (Op.equalIn 9999 87 (.agg #[.bool a0, .bool a1, .bool a2, .bool a3, .bool a4, .bool a5, .bool a6, .bool a7]) (.agg #[.bool a0, .bool a1, .bool a2, .bool a3, .bool a4, .bool a5, .bool a6, .bool a7])).run Tryz.prog w = .ok true w := by
  have := run_equal_seen_at 9997 a0 a1 a2 a3 a4 a5 a6 a7 a0 a1 a2 a3 a4 a5 a6 a7 w
  simpa using this
/-- the nine cells of a window of a queue in memory. -/
theorem qBlock.nine {wx : World} {B : Nat} {ep nx gv : Int} {r l : Value} {ws : Nat → Value} {wt : Nat → Int} {wz : Nat → Nat → Bool} (q : qBlock wx B ep nx gv r l ws) (h : Wins ws wt wz) (p : Nat) (hp : p < 4) :
    wx.cell? ⟨B, 5 + 9 * p, none⟩ = some (.int .i64 (wt p)) ∧ wx.cell? ⟨B, 5 + (9 * p + 1), none⟩ = some (.bool (wz p 0)) ∧ wx.cell? ⟨B, 5 + (9 * p + 1 + 1), none⟩ = some (.bool (wz p 1)) ∧ wx.cell? ⟨B, 5 + (9 * p + 1 + 2), none⟩ = some (.bool (wz p 2)) ∧ wx.cell? ⟨B, 5 + (9 * p + 1 + 3), none⟩ = some (.bool (wz p 3)) ∧
    wx.cell? ⟨B, 5 + (9 * p + 1 + 4), none⟩ = some (.bool (wz p 4)) ∧ wx.cell? ⟨B, 5 + (9 * p + 1 + 5), none⟩ = some (.bool (wz p 5)) ∧ wx.cell? ⟨B, 5 + (9 * p + 1 + 6), none⟩ = some (.bool (wz p 6)) ∧ wx.cell? ⟨B, 5 + (9 * p + 1 + 7), none⟩ = some (.bool (wz p 7)) := by
  obtain ⟨h0, h1⟩ := h p hp
  have k : ∀ j, j < 36 → wx.cell? ⟨B, 5 + j, none⟩ = some (ws j) := fun j hj => (q.at (5 + j)).trans (qCells_ws _ _ _ _ _ _ j hj)
  have g : ∀ j, j < 8 → wx.cell? ⟨B, 5 + (9 * p + 1 + j), none⟩ = some (.bool (wz p j)) := fun j hj => by rw [k _ (by omega), h1 j hj]
  exact ⟨by rw [k _ (by omega), h0], g 0 (by omega), g 1 (by omega), g 2 (by omega), g 3 (by omega), g 4 (by omega), g 5 (by omega), g 6 (by omega), g 7 (by omega)⟩
theorem Hist.small {es : List Ev} {s : St} {ans : List An} (h : Hist es s ans) {m : Nat} (hm : es.length ≤ m) : s.nx ≤ m ∧ 0 ≤ s.nx ∧ s.ep ≤ m ∧ 0 ≤ s.ep ∧ s.rn + s.ln ≤ m ∧ s.gv ≤ m ∧ 0 ≤ s.gv := by
  obtain ⟨h1, h2, h3, h4⟩ := h.counts
  have c1 := cnt_le es 1
  have c4 := cnt_le es 4
  have := h.wf.ok.count.g0
  omega
theorem ev_pub {p i b : Int} (hp : 0 ≤ p ∧ p ≤ 3) (hi : 0 ≤ i ∧ i ≤ 1073741824) (hb : 0 ≤ b ∧ b ≤ 1000000) : (⟨1, p, i, b, 0, 0⟩ : Ev).Ok := by
  unfold Ev.Ok eventFault
  rw [if_pos rfl, if_neg (fun h => h ⟨hp.1, hp.2, hi.1, hi.2, hb.1, hb.2⟩), if_pos ⟨rfl, rfl⟩]
theorem ev_ack {he hn : Int} (h1 : 0 ≤ he ∧ he ≤ 1048576) (h2 : 0 ≤ hn ∧ hn ≤ 1073741824) : (⟨3, 0, 0, 0, he, hn⟩ : Ev).Ok := by
  unfold Ev.Ok eventFault
  rw [if_neg (by show ¬ (3 : Int) = 1; decide), if_pos rfl, if_neg (fun h => h ⟨h1.1, h1.2, h2.1, h2.2⟩), if_pos ⟨rfl, rfl, rfl⟩]
theorem ev_recv : (⟨2, 0, 0, 0, 0, 0⟩ : Ev).Ok := by unfold Ev.Ok eventFault; simp
theorem ev_break : (⟨4, 0, 0, 0, 0, 0⟩ : Ev).Ok := by unfold Ev.Ok eventFault; simp
end Go.Proofs.YtcdopnkabbfooaaGreat

namespace Go.Proofs.YtcdopnkabbfooaaGreat
open Go.RowKit

theorem RowK.blk_lt {k : IntKind} {w : World} {a : Option Addr} {len : Nat} {l : List Int} (h : RowK k w a len l) (x : Addr) (hx : a = some x) (h0 : 0 < len) : x.block < w.heap.size := by
  obtain ⟨b, off, ha, hlt, _⟩ := h.cell 0 h0
  rw [hx] at ha
  cases ha
  exact hlt
theorem q_alloc_wp {o : Oper} {a : Act} {K : Act → World → Prop} {Q : Exit → Act → World → Prop} {w : World} (d : Nat) (ho : o.op = .alloc 92) (hd : o.dst = some d)
    (h : ∀ w', qBlock w' w.heap.size 0 0 0 (.slice none 0 0) (.slice none 0 0) zeroW → Below w.heap.size w w' → K (a.put (some d) (.pointer (some ⟨w.heap.size, 0, none⟩))) w') : o.wp Tryz.prog a w K Q := by
  obtain ⟨z1, z2⟩ := zq_made (w := w) rfl
  have := h _ z1 z2
  rw [← hd] at this
  unfold Oper.wp
  simp only [execOp, ho]
  simpa [go_sem] using this
theorem q_store_wp {o : Oper} {a : Act} {K : Act → World → Prop} {Q : Exit → Act → World → Prop} {w : World} {R : Nat} {ep nx gv : Int} {r l : Value} {ws : Nat → Value} {ra la : Option Addr} {rn rc ln lc : Nat} {ws' : Nat → Value} {ep' nx' gv' : Int} {wt : Nat → Int} {wz : Nat → Nat → Bool} (x y : Operand) (ho : o.op = .store 92 x y) (hx : a.eval x = .pointer (some ⟨R, 0, none⟩)) (hy : a.eval y = qVal ep' nx' gv' (.slice ra rn rc) (.slice la ln lc) ws')
    (qb : qBlock w R ep nx gv r l ws) (hW : Wins ws' wt wz)
    (h : ∀ w', qBlock w' R ep' nx' gv' (.slice ra rn rc) (.slice la ln lc) ws' → Turned R w w' → K (a.put o.dst undef) w') : o.wp Tryz.prog a w K Q :=
  wp_store_mid 92 x y ho R 0 _ hx hy (by rw [qCells_size]; exact qb.there) (by rw [qCells_size]; exact Tryz.infoQ) (qCells_one hW) (h _ (qb.stored _ _ _ _ _ _) (Turned.sets R _ 0 w))
end Go.Proofs.YtcdopnkabbfooaaGreat

namespace Go.Proofs.YtcdopnkabbfooaaGreat
open Go.RowKit

def tlList (ep nx gv : Int) (r l : Value) (ws : Nat → Value) (c he no bd : Int) (tail : List Value) : List Value := qList ep nx gv r l ws ++ ([.int .i64 c, .int .i64 he, .int .i64 no, .int .i64 bd] ++ tail)
theorem qList_len (ep nx gv : Int) (r l : Value) (ws : Nat → Value) : (qList ep nx gv r l ws).length = 41 := by simp [qList, wsList]
/-- a telling in memory, at a block of its own. -/
def tlBlock (w : World) (R : Nat) (T : TypeId) (ep nx gv : Int) (r l : Value) (ws : Nat → Value) (c he no bd : Int) (tail : List Value) : Prop := w.heap[R]? = some (.cells (tlList ep nx gv r l ws c he no bd tail).toArray T (0, 0))
section
variable {w w' : World} {R : Nat} {T : TypeId} {ep nx gv : Int} {r l : Value} {ws : Nat → Value} {c he no bd : Int} {tail : List Value}
theorem tlBlock.at (h : tlBlock w R T ep nx gv r l ws c he no bd tail) (i : Nat) : w.cell? ⟨R, i, none⟩ = (tlList ep nx gv r l ws c he no bd tail)[i]? := by
  unfold tlBlock at h; simp [World.cell?, h]
theorem tlBlock.free (h : tlBlock w R T ep nx gv r l ws c he no bd tail) (o : Nat) : w.frozen? ⟨R, o, none⟩ = false := by
  unfold tlBlock at h; simp [World.frozen?, h]
theorem tlBlock.lt (h : tlBlock w R T ep nx gv r l ws c he no bd tail) : R < w.heap.size := by
  unfold tlBlock at h
  rcases Nat.lt_or_ge R w.heap.size with h' | h'
  · exact h'
  · simp [Array.getElem?_eq_none h'] at h
theorem tlBlock.next (h : tlBlock w R T ep nx gv r l ws c he no bd tail) (hb : Below w.heap.size w w') : tlBlock w' R T ep nx gv r l ws c he no bd tail := by
  have := h.lt
  unfold tlBlock at h ⊢; rw [← h]; exact hb.block R this
theorem tlBlock.turned {R' : Nat} (h : tlBlock w R T ep nx gv r l ws c he no bd tail) (t : Turned R' w w') (hR : R ≠ R') : tlBlock w' R T ep nx gv r l ws c he no bd tail := by
  unfold tlBlock at h ⊢; rw [t.block R hR]; exact h
theorem tlList_q (j : Nat) (hj : j < 41) : (tlList ep nx gv r l ws c he no bd tail)[j]? = (qList ep nx gv r l ws)[j]? := by
  unfold tlList
  rw [List.getElem?_append_left (by rw [qList_len]; exact hj)]
theorem tlList_a (j : Nat) : (tlList ep nx gv r l ws c he no bd tail)[41 + j]? = ([.int .i64 c, .int .i64 he, .int .i64 no, .int .i64 bd] ++ tail)[j]? := by
  unfold tlList
  rw [List.getElem?_append_right (by rw [qList_len]; omega), qList_len, Nat.add_sub_cancel_left]
theorem tlBlock.range (h : tlBlock w R T ep nx gv r l ws c he no bd tail) : w.rangeAt R 0 (qList ep nx gv r l ws) := fun j v hv => by
  have hj : j < 41 := by
    have := (List.getElem?_eq_some_iff.1 hv).1
    rwa [qList_len] at this
  rw [Nat.zero_add, h.at, tlList_q j hj]; exact hv
theorem tlBlock.there (h : tlBlock w R T ep nx gv r l ws c he no bd tail) : w.there R 0 41 := fun j hj => by
  refine ⟨?_, h.free _⟩
  rw [Nat.zero_add, h.at, tlList_q j hj, List.getElem?_eq_getElem (by rw [qList_len]; exact hj)]
  rfl
theorem tlBlock.answer (h : tlBlock w R T ep nx gv r l ws c he no bd tail) : w.cell? ⟨R, 41, none⟩ = some (.int .i64 c) ∧ w.cell? ⟨R, 42, none⟩ = some (.int .i64 he) ∧ w.cell? ⟨R, 43, none⟩ = some (.int .i64 no) ∧ w.cell? ⟨R, 44, none⟩ = some (.int .i64 bd) :=
  ⟨(h.at (41 + 0)).trans (tlList_a 0), (h.at (41 + 1)).trans (tlList_a 1), (h.at (41 + 2)).trans (tlList_a 2), (h.at (41 + 3)).trans (tlList_a 3)⟩
theorem tlBlock.more {x : Value} {tl : List Value} (h : tlBlock w R T ep nx gv r l ws c he no bd (x :: tl)) : w.cell? ⟨R, 45, none⟩ = some x := (h.at (41 + 4)).trans (tlList_a 4)
/-- the queue stored anew. -/
theorem tlBlock.stored (h : tlBlock w R T ep nx gv r l ws c he no bd tail) (ep' nx' gv' : Int) (r' l' : Value) (ws' : Nat → Value) : tlBlock (w.setCells R 0 (qCells ep' nx' gv' r' l' ws').toList) R T ep' nx' gv' r' l' ws' c he no bd tail := by
  have hl : (tlList ep nx gv r l ws c he no bd tail).length = 45 + tail.length := by unfold tlList; rw [List.length_append, qList_len]; simp; omega
  have hq : (qCells ep' nx' gv' r' l' ws').toList.length = 41 := by rw [Array.length_toList]; exact qCells_size _ _ _ _ _ _
  obtain ⟨cs', h1, h2, h3⟩ := heap_setCells_all (R := R) (qCells ep' nx' gv' r' l' ws').toList 0 w _ _ h (by rw [hq]; simp; omega)
  unfold tlBlock
  rw [h1]
  have : cs' = (tlList ep' nx' gv' r' l' ws' c he no bd tail).toArray := by
    apply Array.ext_getElem?
    intro i
    rw [h3, hq]
    by_cases hi : i < 41
    · rw [if_pos ⟨by omega, by omega⟩, List.getElem?_toArray, tlList_q i hi, Nat.sub_zero]
      rfl
    · rw [if_neg (by omega), List.getElem?_toArray, List.getElem?_toArray, show i = 41 + (i - 41) by omega, tlList_a, tlList_a]
  rw [this]
theorem tl_set {x : Value} (j : Nat) : (tlList ep nx gv r l ws c he no bd tail).set (41 + j) x = qList ep nx gv r l ws ++ ([Value.int .i64 c, .int .i64 he, .int .i64 no, .int .i64 bd] ++ tail).set j x := by
  unfold tlList
  rw [List.set_append_right _ _ (by rw [qList_len]; omega), qList_len, Nat.add_sub_cancel_left]
theorem tlBlock.heapSet {cs : List Value} {x : Value} {o : Nat} (h : w.heap[R]? = some (.cells cs.toArray T (0, 0))) : (w.setCell ⟨R, o, none⟩ x).heap[R]? = some (.cells (cs.set o x).toArray T (0, 0)) := by
  have := heap_set (o := o) (v := x) h
  rw [this]
  simp
/-- the answer stored anew. -/
theorem tlBlock.answered (h : tlBlock w R T ep nx gv r l ws c he no bd tail) (c' he' no' bd' : Int) : tlBlock ((((w.setCell ⟨R, 41, none⟩ (.int .i64 c')).setCell ⟨R, 42, none⟩ (.int .i64 he')).setCell ⟨R, 43, none⟩ (.int .i64 no')).setCell ⟨R, 44, none⟩ (.int .i64 bd')) R T ep nx gv r l ws c' he' no' bd' tail := by
  unfold tlBlock at h ⊢
  rw [tlBlock.heapSet (tlBlock.heapSet (tlBlock.heapSet (tlBlock.heapSet h)))]
  have e : ((((tlList ep nx gv r l ws c he no bd tail).set 41 (.int .i64 c')).set 42 (.int .i64 he')).set 43 (.int .i64 no')).set 44 (.int .i64 bd') = tlList ep nx gv r l ws c' he' no' bd' tail := by
    have e1 := tl_set (ep := ep) (nx := nx) (gv := gv) (r := r) (l := l) (ws := ws) (c := c) (he := he) (no := no) (bd := bd) (tail := tail) (x := .int .i64 c') 0
    have e2 := tl_set (ep := ep) (nx := nx) (gv := gv) (r := r) (l := l) (ws := ws) (c := c') (he := he) (no := no) (bd := bd) (tail := tail) (x := .int .i64 he') 1
    have e3 := tl_set (ep := ep) (nx := nx) (gv := gv) (r := r) (l := l) (ws := ws) (c := c') (he := he') (no := no) (bd := bd) (tail := tail) (x := .int .i64 no') 2
    have e4 := tl_set (ep := ep) (nx := nx) (gv := gv) (r := r) (l := l) (ws := ws) (c := c') (he := he') (no := no') (bd := bd) (tail := tail) (x := .int .i64 bd') 3
    rw [show (41 : Nat) = 41 + 0 from rfl, e1]
    show (((tlList ep nx gv r l ws c' he no bd tail).set (41 + 1) _).set (41 + 2) _).set (41 + 3) _ = _
    rw [e2]
    show ((tlList ep nx gv r l ws c' he' no bd tail).set (41 + 2) _).set (41 + 3) _ = _
    rw [e3]
    show (tlList ep nx gv r l ws c' he' no' bd tail).set (41 + 3) _ = _
    rw [e4]
    rfl
  rw [e]
theorem tlBlock.tailed {x : Value} {tl : List Value} (h : tlBlock w R T ep nx gv r l ws c he no bd (x :: tl)) (y : Value) : tlBlock (w.setCell ⟨R, 45, none⟩ y) R T ep nx gv r l ws c he no bd (y :: tl) := by
  unfold tlBlock at h ⊢
  rw [tlBlock.heapSet h, show (45 : Nat) = 41 + 4 from rfl, tl_set 4]
  rfl
theorem yields_t {ops : Array Oper} {S : World → Prop} {o : Oper} {a : Act} (x : Operand) (ho : o.op = .load 92 x) (hw : Region.wanted o (yielded ops a.tmps) = true) (hx : a.eval x = .pointer (some ⟨R, 0, none⟩)) (hS : ∀ w, S w → tlBlock w R T ep nx gv r l ws c he no bd tail) :
    YieldsIf Tryz.prog ops S o (qVal ep nx gv r l ws) a :=
  .inl ⟨hw, fun w hs => by
    unfold execOp
    simp only [ho, hx, Instr.loadAt, Instr.sureAddr, Sem.run_bind, Sem.run_pure, Result.andThen_ok, run_loadVar_mid w R 0 92 (qList ep nx gv r l ws) _ (hS w hs).range Tryz.underlying92 rfl (by rw [qList_len]; kernel_rfl)]
    rfl⟩
theorem t_store_wp {o : Oper} {a : Act} {K : Act → World → Prop} {Q : Exit → Act → World → Prop} {ra la : Option Addr} {rn rc ln lc : Nat} {ws' : Nat → Value} {ep' nx' gv' : Int} {wt : Nat → Int} {wz : Nat → Nat → Bool} (x y : Operand) (ho : o.op = .store 92 x y) (hx : a.eval x = .pointer (some ⟨R, 0, none⟩)) (hy : a.eval y = qVal ep' nx' gv' (.slice ra rn rc) (.slice la ln lc) ws')
    (qb : tlBlock w R T ep nx gv r l ws c he no bd tail) (hW : Wins ws' wt wz)
    (h : ∀ w', tlBlock w' R T ep' nx' gv' (.slice ra rn rc) (.slice la ln lc) ws' c he no bd tail → Turned R w w' → K (a.put o.dst undef) w') : o.wp Tryz.prog a w K Q :=
  wp_store_mid 92 x y ho R 0 _ hx hy (by rw [qCells_size]; exact qb.there) (by rw [qCells_size]; exact Tryz.infoQ) (qCells_one hW) (h _ (qb.stored _ _ _ _ _ _) (Turned.sets R _ 0 w))
end
end Go.Proofs.YtcdopnkabbfooaaGreat

namespace Go.Proofs.YtcdopnkabbfooaaGreat
open Go.RowKit

def An.zero : An := ⟨0, 0, 0, 0⟩
/-- what Do answers of a queue that may be. -/
inductive DoR (s : St) (v : Ev) : St → An → Bool → Int → Prop
  | step {s' : St} {an : An} {ch : Bool} (hv : v.Ok) (st : Step s v s' an ch) : DoR s v s' an ch 0
  | form (er : Int) (hv : eventFault v.k v.p v.i v.b v.he v.hn = er) (h : ¬ er = 0) : DoR s v St.zero An.zero false er
theorem DoR.err {s s' : St} {v : Ev} {an : An} {ch : Bool} {er : Int} (h : DoR s v s' an ch er) : er = 0 ∨ (¬ er = 0 ∧ ch = false) := by
  cases h with
  | step => exact .inl rfl
  | form _ _ h => exact .inr ⟨h, rfl⟩
theorem do_any (s : St) (ra la : Option Addr) (rc lc : Nat) (ws : Nat → Value) (v : Ev) (w : World) (hR : RowK .i64 w ra (2 * s.rn) s.R) (hL : RowK .i64 w la (4 * s.ln) s.L) (nR : ra = none → rc = 0) (nL : la = none → lc = 0) (hW : Wins ws s.wt s.wz) (h : s.Ok) :
    Calls Tryz.prog 80 #[qVal s.ep s.nx s.gv (.slice ra s.rn rc) (.slice la s.ln lc) ws, evIn v] w fun e w' => ∃ (s' : St) (an : An) (ch : Bool) (er : Int) (x : Value), e = .returned (.tuple #[x, anOf an, .bool ch, .int .i64 er]) ∧ DoR s v s' an ch er ∧ QOut w w' s' x ∧ Below w.heap.size w w' := by
  by_cases hv : v.Ok
  · refine (do_step s ra la rc lc ws v w hR hL nR nL hW h hv).mono ?_
    rintro e w' ⟨s', an, ch, x, rfl, st, q, b⟩
    exact ⟨s', an, ch, 0, x, rfl, .step hv st, q, b⟩
  · refine (do_form s ra la rc lc ws v w hR hL hW h _ hv (veil rfl)).mono ?_
    rintro e w' ⟨rfl, b⟩
    exact ⟨St.zero, An.zero, false, _, _, rfl, .form _ rfl hv, ⟨⟨none, 0, none, 0, zeroW, rfl, RowK.nil _ _ _, RowK.nil _ _ _, Nat.le_refl _, Nat.le_refl _, fun _ => rfl, fun _ => rfl, zeroWins, fun x hx => (by cases hx), fun x hx => (by cases hx)⟩⟩, b⟩

end Go.Proofs.YtcdopnkabbfooaaGreat

namespace Go.Proofs.YtcdopnkabbfooaaGreat
open Go.RowKit

/-- a telling, with its rows. -/
structure Tg (w : World) (R : Nat) (T : TypeId) (tail : List Value) (s : St) (an : An) : Prop where
  ex : ∃ a1 c1 a2 c2 ws, tlBlock w R T s.ep s.nx s.gv (.slice a1 s.rn c1) (.slice a2 s.ln c2) ws an.c an.he an.no an.bd tail ∧ RowK .i64 w a1 (2 * s.rn) s.R ∧ RowK .i64 w a2 (4 * s.ln) s.L ∧ (a1 = none → c1 = 0) ∧ (a2 = none → c2 = 0) ∧ Wins ws s.wt s.wz ∧ (∀ x, a1 = some x → R < x.block) ∧ (∀ x, a2 = some x → R < x.block) ∧ s.rn ≤ c1 ∧ s.ln ≤ c2
theorem Tg.next {w w' : World} {R : Nat} {T : TypeId} {tail : List Value} {s : St} {an : An} (h : Tg w R T tail s an) (b : Below w.heap.size w w') : Tg w' R T tail s an := by
  obtain ⟨a1, c1, a2, c2, ws, tb, r1, r2, rest⟩ := h.ex
  exact ⟨a1, c1, a2, c2, ws, tb.next b, r1.below b, r2.below b, rest⟩
theorem ev_box {w0 W : World} {v : Ev} (h : W.heap[w0.heap.size]? = some (.cells #[.int .i64 v.k, .int .i64 v.p, .int .i64 v.i, .int .i64 v.b, .int .i64 v.he, .int .i64 v.hn] 28 (0, 0))) :
    W.cell? ⟨w0.heap.size, 0, none⟩ = some (.int .i64 v.k) ∧ W.cell? ⟨w0.heap.size, 1, none⟩ = some (.int .i64 v.p) ∧ W.cell? ⟨w0.heap.size, 2, none⟩ = some (.int .i64 v.i) ∧ W.cell? ⟨w0.heap.size, 3, none⟩ = some (.int .i64 v.b) ∧ W.cell? ⟨w0.heap.size, 4, none⟩ = some (.int .i64 v.he) ∧ W.cell? ⟨w0.heap.size, 5, none⟩ = some (.int .i64 v.hn) := by
  simp [World.cell?, h]
set_option maxRecDepth 20000 in
set_option maxHeartbeats 4000000 in
theorem tell_any (s : St) (an : An) (v : Ev) (w0 : World) (R : Nat) (T : TypeId) (tail : List Value) (ok : s.Ok) (h : Tg w0 R T tail s an) :
    Calls Tryz.prog 83 #[.pointer (some ⟨R, 0, none⟩), evIn v] w0 fun e w' => ∃ (s' : St) (an' : An) (ch : Bool) (er : Int), e = .returned (.bool ch) ∧ DoR s v s' an' ch er ∧ (ch = true → Tg w' R T tail s' an') ∧ (ch = false → Tg w' R T tail s an) ∧ Off R w0.heap.size w0 w' := by
  go_enter Tryz.func83, Tryz.ntmps83
  go_upto_region 1 with fail
  obtain ⟨W1, hW1, b1, e1⟩ : ∃ W1, W1 = w0.alloc (.cells #[.int .i64 v.k, .int .i64 v.p, .int .i64 v.i, .int .i64 v.b, .int .i64 v.he, .int .i64 v.hn] 28) ∧ Below w0.heap.size w0 W1 ∧ W1.heap[w0.heap.size]? = some (.cells #[.int .i64 v.k, .int .i64 v.p, .int .i64 v.i, .int .i64 v.b, .int .i64 v.he, .int .i64 v.hn] 28 (0, 0)) := ⟨_, rfl, below1 _ _, heap_alloc_new _ _⟩
  rw [← hW1]
  obtain ⟨v0, v1, v2, v3, v4, v5⟩ := ev_box e1
  have hEl : w0.heap.size < W1.heap.size := block_lt e1
  have h1 := h.next b1
  have HT1 := veil h1
  obtain ⟨a1, c1, a2, c2, ws, tb, t1, t2, m1, m2, hW, x1, x2, _, _⟩ := h1.ex
  have hRl : R < w0.heap.size := by obtain ⟨_, _, _, _, _, tb0, _⟩ := h.ex; exact tb0.lt
  have HDo : Hid (∀ W, Below W1.heap.size W1 W → Calls Tryz.prog 80 #[qVal s.ep s.nx s.gv (.slice a1 s.rn c1) (.slice a2 s.ln c2) ws, evIn v] W fun e w' => ∃ (s' : St) (an : An) (ch : Bool) (er : Int) (x : Value), e = .returned (.tuple #[x, anOf an, .bool ch, .int .i64 er]) ∧ DoR s v s' an ch er ∧ QOut W w' s' x ∧ Below W.heap.size W w') := veil fun W b => do_any s a1 a2 c1 c2 ws v W (t1.below b) (t2.below b) m1 m2 hW ok
  have HB1 := veil b1
  clear hW1 b1 e1 h1 t1 t2 m1 m2 x1 x2 h
  go_cut [5, 6, 7, 8] (fun p5 p6 c7 c8 wx => ∃ (s' : St) (an' : An) (ch : Bool) (er : Int) (X A : Nat) (b1' : Option Addr) (d1' : Nat) (b2' : Option Addr) (d2' : Nat) (vs' : Nat → Value), p5 = .pointer (some ⟨X, 0, none⟩) ∧ p6 = .pointer (some ⟨A, 0, none⟩) ∧ c7 = .bool ch ∧ c8 = .int .i64 er ∧ DoR s v s' an' ch er ∧ Bx wx X s' b1' d1' b2' d2' vs' ∧ ansBlock wx A an'.c an'.he an'.no an'.bd ∧ Below W1.heap.size W1 wx ∧ W1.heap.size ≤ X ∧ W1.heap.size ≤ A ∧ (∀ x, b1' = some x → W1.heap.size ≤ x.block) ∧ (∀ x, b2' = some x → W1.heap.size ≤ x.block) ∧ s'.rn ≤ d1' ∧ s'.ln ≤ d2')
  case first =>
    refine wp_region_held_drew (S := Below W1.heap.size W1) (by kernel_rfl) (below_drew W1) (fun hHeld => ?_)
    refine wpAnyH_take (i := 0) (v := .pointer (some ⟨R, 0, none⟩)) rfl (by kernel_rfl) (by kernel_rfl) (by kernel_rfl) (fun _ _ _ h => h) (Or.inl ⟨by rfl, fun _ _ => by go_simp⟩) hHeld ?_
    simp only [List.getElem_toArray, List.getElem_cons_zero, Act.put, List.setIfInBounds_toArray, List.set_cons_zero, List.set_cons_succ]
    refine wpAnyH_take (i := 1) (v := .pointer (some ⟨R, 0, none⟩)) rfl (by kernel_rfl) (by kernel_rfl) (by kernel_rfl) (fun _ _ _ h => h) (Or.inl ⟨by rfl, fun _ _ => by go_simp⟩) hHeld ?_
    simp only [List.getElem_toArray, List.getElem_cons_zero, List.getElem_cons_succ, Act.put, List.setIfInBounds_toArray, List.set_cons_zero, List.set_cons_succ]
    refine wpAnyH_take (i := 2) (v := .pointer (some ⟨R, 0, none⟩)) rfl (by kernel_rfl) (by kernel_rfl) (by kernel_rfl) (fun _ _ _ h => h) (Or.inl ⟨by rfl, fun _ _ => by go_simp⟩) hHeld ?_
    simp only [List.getElem_toArray, List.getElem_cons_zero, List.getElem_cons_succ, Act.put, List.setIfInBounds_toArray, List.set_cons_zero, List.set_cons_succ]
    refine wpAnyH_take (i := 3) (v := _) rfl (by kernel_rfl) (by kernel_rfl) (by kernel_rfl) (fun _ _ _ h => h) (yields_t _ rfl rfl rfl (fun _ b => tb.next b)) hHeld ?_
    simp only [List.getElem_toArray, List.getElem_cons_zero, List.getElem_cons_succ, Act.put, List.setIfInBounds_toArray, List.set_cons_zero, List.set_cons_succ]
    refine wpAnyH_take (i := 4) (v := evIn v) rfl (by kernel_rfl) (by kernel_rfl) (by kernel_rfl) (fun _ _ _ h => h) (Or.inl ⟨by rfl, fun w b => by have c0 := (b.cell (p := ⟨w0.heap.size, 0, none⟩) hEl).trans v0; have c1 := (b.cell (p := ⟨w0.heap.size, 1, none⟩) hEl).trans v1; have c2 := (b.cell (p := ⟨w0.heap.size, 2, none⟩) hEl).trans v2; have c3 := (b.cell (p := ⟨w0.heap.size, 3, none⟩) hEl).trans v3; have c4 := (b.cell (p := ⟨w0.heap.size, 4, none⟩) hEl).trans v4; have c5 := (b.cell (p := ⟨w0.heap.size, 5, none⟩) hEl).trans v5; go_simp⟩) hHeld ?_
    simp only [List.getElem_toArray, List.getElem_cons_zero, List.getElem_cons_succ, Act.put, List.setIfInBounds_toArray, List.set_cons_zero, List.set_cons_succ]
    have bW0 := below_drew W1
    have hz0 : W1.heap.size ≤ W1.drew.heap.size := bW0.size
    obtain ⟨W0, hW0⟩ : ∃ W0, W0 = W1.drew := ⟨_, rfl⟩
    rw [← hW0] at bW0 hz0 hHeld ⊢
    clear hW0
    refine wpAnyH_ready (rs := [5, 11, 12]) (by kernel_rfl) (by simp) ?_
    refine AllReadyH.cons rfl (fun K hK => ?_) (AllReadyH.cons rfl (fun K hK => ?_) (AllReadyH.cons rfl (fun K hK => ?_) AllReadyH.nil))
    · simp only [List.getElem_toArray, List.getElem_cons_zero, List.getElem_cons_succ]
      go_simp
      refine (unveil HDo _ bW0).mono ?_
      rintro e WC ⟨s', an', ch, er, x', rfl, hst, ⟨⟨b1', d1', b2', d2', vs', rfl, r1, r2, l1', l2', n1, n2, hW'', f1, f2⟩⟩, bn⟩
      have HST := veil hst
      clear hst
      have hr1 := fun x hx h0 => r1.blk_lt x hx h0
      have hr2 := fun x hx h0 => r2.blk_lt x hx h0
      have bWC := Below.next bW0 bn
      have hSWC : W0.heap.size ≤ WC.heap.size := bn.size
      refine hK.out _ _ bWC (fun hHeld => ?_)
      clear hK K bn
      refine wpAnyH_take (i := 6) (v := .tuple #[qVal s'.ep s'.nx s'.gv (.slice b1' s'.rn d1') (.slice b2' s'.ln d2') vs', anOf an', .bool ch, .int .i64 er]) rfl (by kernel_rfl) (by kernel_rfl) (by kernel_rfl) (fun _ _ _ h => h) (Or.inl ⟨by rfl, fun _ _ => by go_simp⟩) hHeld ?_
      simp only [List.getElem_toArray, List.getElem_cons_zero, List.getElem_cons_succ, Act.put, List.setIfInBounds_toArray, List.set_cons_zero, List.set_cons_succ]
      refine wpAnyH_take (i := 7) (v := qVal s'.ep s'.nx s'.gv (.slice b1' s'.rn d1') (.slice b2' s'.ln d2') vs') rfl (by kernel_rfl) (by kernel_rfl) (by kernel_rfl) (fun _ _ _ h => h) (Or.inl ⟨by rfl, fun _ _ => by go_simp⟩) hHeld ?_
      simp only [List.getElem_toArray, List.getElem_cons_zero, List.getElem_cons_succ, Act.put, List.setIfInBounds_toArray, List.set_cons_zero, List.set_cons_succ]
      refine wpAnyH_take (i := 8) (v := anOf an') rfl (by kernel_rfl) (by kernel_rfl) (by kernel_rfl) (fun _ _ _ h => h) (Or.inl ⟨by rfl, fun _ _ => by go_simp⟩) hHeld ?_
      simp only [List.getElem_toArray, List.getElem_cons_zero, List.getElem_cons_succ, Act.put, List.setIfInBounds_toArray, List.set_cons_zero, List.set_cons_succ]
      refine wpAnyH_take (i := 9) (v := .bool ch) rfl (by kernel_rfl) (by kernel_rfl) (by kernel_rfl) (fun _ _ _ h => h) (Or.inl ⟨by rfl, fun _ _ => by go_simp⟩) hHeld ?_
      simp only [List.getElem_toArray, List.getElem_cons_zero, List.getElem_cons_succ, Act.put, List.setIfInBounds_toArray, List.set_cons_zero, List.set_cons_succ]
      refine wpAnyH_take (i := 10) (v := .int .i64 er) rfl (by kernel_rfl) (by kernel_rfl) (by kernel_rfl) (fun _ _ _ h => h) (Or.inl ⟨by rfl, fun _ _ => by go_simp⟩) hHeld ?_
      simp only [List.getElem_toArray, List.getElem_cons_zero, List.getElem_cons_succ, Act.put, List.setIfInBounds_toArray, List.set_cons_zero, List.set_cons_succ]
      refine wpAnyH_ready (rs := [11, 12]) (by kernel_rfl) (by simp) ?_
      refine AllReadyH.cons rfl (fun K hK => ?_) (AllReadyH.cons rfl (fun K hK => ?_) AllReadyH.nil)
      · simp only [List.getElem_toArray, List.getElem_cons_zero, List.getElem_cons_succ]
        refine ite_wanted rfl ?_
        refine q_alloc_wp 5 rfl rfl ?_
        intro WCQ zq bn
        have hXq : WC.heap.size < WCQ.heap.size := zq.lt
        have bWCQ := Below.next bWC bn
        have r1 := r1.below bn
        have r2 := r2.below bn
        have hSWCQ : WC.heap.size ≤ WCQ.heap.size := bn.size
        refine hK.out _ _ bWCQ (fun hHeld => ?_)
        clear hK K bn
        refine wpAnyH_ready (rs := [12]) (by kernel_rfl) (by simp) ?_
        refine AllReadyH.cons rfl (fun K hK => ?_) AllReadyH.nil
        · simp only [List.getElem_toArray, List.getElem_cons_zero, List.getElem_cons_succ]
          go_simp
          obtain ⟨WCQA, hWCQA, ya, bn⟩ : ∃ W, W = WCQ.alloc (.cells #[.int .i64 0, .int .i64 0, .int .i64 0, .int .i64 0] 75) ∧ ansBlock W WCQ.heap.size 0 0 0 0 ∧ Below WCQ.heap.size WCQ W := ⟨_, rfl, ansBlock.new _ 0 0 0 0, below1 _ _⟩
          rw [← hWCQA]
          have hXa : WCQ.heap.size < WCQA.heap.size := ya.lt
          have bWCQA := Below.next bWCQ bn
          clear hWCQA
          have zq := zq.next bn
          have r1 := r1.below bn
          have r2 := r2.below bn
          have hSWCQA : WCQ.heap.size ≤ WCQA.heap.size := bn.size
          refine hK.out _ _ bWCQA (fun hHeld => ?_)
          clear hK K bn
          refine wpAnyH_ready (rs := [13]) (by kernel_rfl) (by simp) ?_
          refine AllReadyH.cons rfl (fun K hK => ?_) AllReadyH.nil
          simp only [List.getElem_toArray, List.getElem_cons_zero, List.getElem_cons_succ]
          refine ite_wanted rfl ?_
          refine q_store_wp (ra := b1') (la := b2') (ws' := vs') _ _ rfl rfl rfl zq hW'' ?_
          intro Wq q5 t5
          have ya5 := ya.turned t5 (by omega)
          have r15 := t5.row r1 (fun x hx h0 => by have := f1 x hx; have := hr1 x hx h0; omega)
          have r25 := t5.row r2 (fun x hx h0 => by have := f2 x hx; have := hr2 x hx h0; omega)
          have b5 := t5.under bWCQA (by omega)
          refine hK.out _ _ b5 (fun hHeld => ?_)
          clear hK K
          refine wpAnyH_ready (rs := [14]) (by kernel_rfl) (by simp) ?_
          refine AllReadyH.cons rfl (fun K hK => ?_) AllReadyH.nil
          simp only [List.getElem_toArray, List.getElem_cons_zero, List.getElem_cons_succ]
          obtain ⟨y0, y1, y2, y3⟩ := ya5.cells
          have yf := ya5.free
          go_simp
          have t6 := ans_turned Wq (WCQ.heap.size) an'.c an'.he an'.no an'.bd
          have ya6 := ya5.store an'.c an'.he an'.no an'.bd
          have q6 := t6.queue q5 (by omega)
          have b6 := t6.under b5 (by omega)
          have X6 : Bx _ (WC.heap.size) s' b1' d1' b2' d2' vs' := ⟨q6, t6.row r15 (fun x hx h0 => by have := f1 x hx; have := hr1 x hx h0; omega), t6.row r25 (fun x hx h0 => by have := f2 x hx; have := hr2 x hx h0; omega), n1, n2, hW''⟩
          unfold ansStore at ya6 X6 b6
          refine hK.out _ _ b6 (fun hHeld => ?_)
          clear hK K y0 y1 y2 y3 yf q6 t6
          generalize (((Wq.setCell ⟨WCQ.heap.size, 0, none⟩ (.int .i64 an'.c)).setCell ⟨WCQ.heap.size, 1, none⟩ (.int .i64 an'.he)).setCell ⟨WCQ.heap.size, 2, none⟩ (.int .i64 an'.no)).setCell ⟨WCQ.heap.size, 3, none⟩ (.int .i64 an'.bd) = W6 at ya6 X6 b6 hHeld ⊢
          refine wpAnyH_take (i := 15) (v := .bool ch) rfl (by kernel_rfl) (by kernel_rfl) (by kernel_rfl) (fun _ _ _ h => h) (Or.inl ⟨by rfl, fun _ _ => by go_simp⟩) hHeld ?_
          simp only [List.getElem_toArray, List.getElem_cons_zero, List.getElem_cons_succ, Act.put, List.setIfInBounds_toArray, List.set_cons_zero, List.set_cons_succ]
          refine wpAnyH_take (i := 16) (v := .int .i64 er) rfl (by kernel_rfl) (by kernel_rfl) (by kernel_rfl) (fun _ _ _ h => h) (Or.inl ⟨by rfl, fun _ _ => by go_simp⟩) hHeld ?_
          simp only [List.getElem_toArray, List.getElem_cons_zero, List.getElem_cons_succ, Act.put, List.setIfInBounds_toArray, List.set_cons_zero, List.set_cons_succ]
          refine wpAnyH_done (by kernel_rfl) ?_ _
          go_wp2_with fail
          go_meet
          exact ⟨s', an', ch, er, _, _, _, _, _, _, _, rfl, rfl, rfl, rfl, unveil HST, X6, ya6, b6, by omega, by omega, fun x hx => by have := f1 x hx; omega, fun x hx => by have := f2 x hx; omega, l1', l2'⟩
      · simp only [List.getElem_toArray, List.getElem_cons_zero, List.getElem_cons_succ]
        go_simp
        obtain ⟨WCA, hWCA, ya, bn⟩ : ∃ W, W = WC.alloc (.cells #[.int .i64 0, .int .i64 0, .int .i64 0, .int .i64 0] 75) ∧ ansBlock W WC.heap.size 0 0 0 0 ∧ Below WC.heap.size WC W := ⟨_, rfl, ansBlock.new _ 0 0 0 0, below1 _ _⟩
        rw [← hWCA]
        have hXa : WC.heap.size < WCA.heap.size := ya.lt
        have bWCA := Below.next bWC bn
        clear hWCA
        have r1 := r1.below bn
        have r2 := r2.below bn
        have hSWCA : WC.heap.size ≤ WCA.heap.size := bn.size
        refine hK.out _ _ bWCA (fun hHeld => ?_)
        clear hK K bn
        refine wpAnyH_ready (rs := [11]) (by kernel_rfl) (by simp) ?_
        refine AllReadyH.cons rfl (fun K hK => ?_) AllReadyH.nil
        · simp only [List.getElem_toArray, List.getElem_cons_zero, List.getElem_cons_succ]
          refine ite_wanted rfl ?_
          refine q_alloc_wp 5 rfl rfl ?_
          intro WCAQ zq bn
          have hXq : WCA.heap.size < WCAQ.heap.size := zq.lt
          have bWCAQ := Below.next bWCA bn
          have ya := ya.next bn
          have r1 := r1.below bn
          have r2 := r2.below bn
          have hSWCAQ : WCA.heap.size ≤ WCAQ.heap.size := bn.size
          refine hK.out _ _ bWCAQ (fun hHeld => ?_)
          clear hK K bn
          refine wpAnyH_ready (rs := [13]) (by kernel_rfl) (by simp) ?_
          refine AllReadyH.cons rfl (fun K hK => ?_) AllReadyH.nil
          simp only [List.getElem_toArray, List.getElem_cons_zero, List.getElem_cons_succ]
          refine ite_wanted rfl ?_
          refine q_store_wp (ra := b1') (la := b2') (ws' := vs') _ _ rfl rfl rfl zq hW'' ?_
          intro Wq q5 t5
          have ya5 := ya.turned t5 (by omega)
          have r15 := t5.row r1 (fun x hx h0 => by have := f1 x hx; have := hr1 x hx h0; omega)
          have r25 := t5.row r2 (fun x hx h0 => by have := f2 x hx; have := hr2 x hx h0; omega)
          have b5 := t5.under bWCAQ (by omega)
          refine hK.out _ _ b5 (fun hHeld => ?_)
          clear hK K
          refine wpAnyH_ready (rs := [14]) (by kernel_rfl) (by simp) ?_
          refine AllReadyH.cons rfl (fun K hK => ?_) AllReadyH.nil
          simp only [List.getElem_toArray, List.getElem_cons_zero, List.getElem_cons_succ]
          obtain ⟨y0, y1, y2, y3⟩ := ya5.cells
          have yf := ya5.free
          go_simp
          have t6 := ans_turned Wq (WC.heap.size) an'.c an'.he an'.no an'.bd
          have ya6 := ya5.store an'.c an'.he an'.no an'.bd
          have q6 := t6.queue q5 (by omega)
          have b6 := t6.under b5 (by omega)
          have X6 : Bx _ (WCA.heap.size) s' b1' d1' b2' d2' vs' := ⟨q6, t6.row r15 (fun x hx h0 => by have := f1 x hx; have := hr1 x hx h0; omega), t6.row r25 (fun x hx h0 => by have := f2 x hx; have := hr2 x hx h0; omega), n1, n2, hW''⟩
          unfold ansStore at ya6 X6 b6
          refine hK.out _ _ b6 (fun hHeld => ?_)
          clear hK K y0 y1 y2 y3 yf q6 t6
          generalize (((Wq.setCell ⟨WC.heap.size, 0, none⟩ (.int .i64 an'.c)).setCell ⟨WC.heap.size, 1, none⟩ (.int .i64 an'.he)).setCell ⟨WC.heap.size, 2, none⟩ (.int .i64 an'.no)).setCell ⟨WC.heap.size, 3, none⟩ (.int .i64 an'.bd) = W6 at ya6 X6 b6 hHeld ⊢
          refine wpAnyH_take (i := 15) (v := .bool ch) rfl (by kernel_rfl) (by kernel_rfl) (by kernel_rfl) (fun _ _ _ h => h) (Or.inl ⟨by rfl, fun _ _ => by go_simp⟩) hHeld ?_
          simp only [List.getElem_toArray, List.getElem_cons_zero, List.getElem_cons_succ, Act.put, List.setIfInBounds_toArray, List.set_cons_zero, List.set_cons_succ]
          refine wpAnyH_take (i := 16) (v := .int .i64 er) rfl (by kernel_rfl) (by kernel_rfl) (by kernel_rfl) (fun _ _ _ h => h) (Or.inl ⟨by rfl, fun _ _ => by go_simp⟩) hHeld ?_
          simp only [List.getElem_toArray, List.getElem_cons_zero, List.getElem_cons_succ, Act.put, List.setIfInBounds_toArray, List.set_cons_zero, List.set_cons_succ]
          refine wpAnyH_done (by kernel_rfl) ?_ _
          go_wp2_with fail
          go_meet
          exact ⟨s', an', ch, er, _, _, _, _, _, _, _, rfl, rfl, rfl, rfl, unveil HST, X6, ya6, b6, by omega, by omega, fun x hx => by have := f1 x hx; omega, fun x hx => by have := f2 x hx; omega, l1', l2'⟩
    · simp only [List.getElem_toArray, List.getElem_cons_zero, List.getElem_cons_succ]
      refine ite_wanted rfl ?_
      refine q_alloc_wp 5 rfl rfl ?_
      intro WQ zq bn
      have hXq : W0.heap.size < WQ.heap.size := zq.lt
      have bWQ := Below.next bW0 bn
      have hSWQ : W0.heap.size ≤ WQ.heap.size := bn.size
      refine hK.out _ _ bWQ (fun hHeld => ?_)
      clear hK K bn
      refine wpAnyH_ready (rs := [5, 12]) (by kernel_rfl) (by simp) ?_
      refine AllReadyH.cons rfl (fun K hK => ?_) (AllReadyH.cons rfl (fun K hK => ?_) AllReadyH.nil)
      · simp only [List.getElem_toArray, List.getElem_cons_zero, List.getElem_cons_succ]
        go_simp
        refine (unveil HDo _ bWQ).mono ?_
        rintro e WQC ⟨s', an', ch, er, x', rfl, hst, ⟨⟨b1', d1', b2', d2', vs', rfl, r1, r2, l1', l2', n1, n2, hW'', f1, f2⟩⟩, bn⟩
        have HST := veil hst
        clear hst
        have hr1 := fun x hx h0 => r1.blk_lt x hx h0
        have hr2 := fun x hx h0 => r2.blk_lt x hx h0
        have bWQC := Below.next bWQ bn
        have zq := zq.next bn
        have hSWQC : WQ.heap.size ≤ WQC.heap.size := bn.size
        refine hK.out _ _ bWQC (fun hHeld => ?_)
        clear hK K bn
        refine wpAnyH_take (i := 6) (v := .tuple #[qVal s'.ep s'.nx s'.gv (.slice b1' s'.rn d1') (.slice b2' s'.ln d2') vs', anOf an', .bool ch, .int .i64 er]) rfl (by kernel_rfl) (by kernel_rfl) (by kernel_rfl) (fun _ _ _ h => h) (Or.inl ⟨by rfl, fun _ _ => by go_simp⟩) hHeld ?_
        simp only [List.getElem_toArray, List.getElem_cons_zero, List.getElem_cons_succ, Act.put, List.setIfInBounds_toArray, List.set_cons_zero, List.set_cons_succ]
        refine wpAnyH_take (i := 7) (v := qVal s'.ep s'.nx s'.gv (.slice b1' s'.rn d1') (.slice b2' s'.ln d2') vs') rfl (by kernel_rfl) (by kernel_rfl) (by kernel_rfl) (fun _ _ _ h => h) (Or.inl ⟨by rfl, fun _ _ => by go_simp⟩) hHeld ?_
        simp only [List.getElem_toArray, List.getElem_cons_zero, List.getElem_cons_succ, Act.put, List.setIfInBounds_toArray, List.set_cons_zero, List.set_cons_succ]
        refine wpAnyH_take (i := 8) (v := anOf an') rfl (by kernel_rfl) (by kernel_rfl) (by kernel_rfl) (fun _ _ _ h => h) (Or.inl ⟨by rfl, fun _ _ => by go_simp⟩) hHeld ?_
        simp only [List.getElem_toArray, List.getElem_cons_zero, List.getElem_cons_succ, Act.put, List.setIfInBounds_toArray, List.set_cons_zero, List.set_cons_succ]
        refine wpAnyH_take (i := 9) (v := .bool ch) rfl (by kernel_rfl) (by kernel_rfl) (by kernel_rfl) (fun _ _ _ h => h) (Or.inl ⟨by rfl, fun _ _ => by go_simp⟩) hHeld ?_
        simp only [List.getElem_toArray, List.getElem_cons_zero, List.getElem_cons_succ, Act.put, List.setIfInBounds_toArray, List.set_cons_zero, List.set_cons_succ]
        refine wpAnyH_take (i := 10) (v := .int .i64 er) rfl (by kernel_rfl) (by kernel_rfl) (by kernel_rfl) (fun _ _ _ h => h) (Or.inl ⟨by rfl, fun _ _ => by go_simp⟩) hHeld ?_
        simp only [List.getElem_toArray, List.getElem_cons_zero, List.getElem_cons_succ, Act.put, List.setIfInBounds_toArray, List.set_cons_zero, List.set_cons_succ]
        refine wpAnyH_ready (rs := [12]) (by kernel_rfl) (by simp) ?_
        refine AllReadyH.cons rfl (fun K hK => ?_) AllReadyH.nil
        · simp only [List.getElem_toArray, List.getElem_cons_zero, List.getElem_cons_succ]
          go_simp
          obtain ⟨WQCA, hWQCA, ya, bn⟩ : ∃ W, W = WQC.alloc (.cells #[.int .i64 0, .int .i64 0, .int .i64 0, .int .i64 0] 75) ∧ ansBlock W WQC.heap.size 0 0 0 0 ∧ Below WQC.heap.size WQC W := ⟨_, rfl, ansBlock.new _ 0 0 0 0, below1 _ _⟩
          rw [← hWQCA]
          have hXa : WQC.heap.size < WQCA.heap.size := ya.lt
          have bWQCA := Below.next bWQC bn
          clear hWQCA
          have zq := zq.next bn
          have r1 := r1.below bn
          have r2 := r2.below bn
          have hSWQCA : WQC.heap.size ≤ WQCA.heap.size := bn.size
          refine hK.out _ _ bWQCA (fun hHeld => ?_)
          clear hK K bn
          refine wpAnyH_ready (rs := [13]) (by kernel_rfl) (by simp) ?_
          refine AllReadyH.cons rfl (fun K hK => ?_) AllReadyH.nil
          simp only [List.getElem_toArray, List.getElem_cons_zero, List.getElem_cons_succ]
          refine ite_wanted rfl ?_
          refine q_store_wp (ra := b1') (la := b2') (ws' := vs') _ _ rfl rfl rfl zq hW'' ?_
          intro Wq q5 t5
          have ya5 := ya.turned t5 (by omega)
          have r15 := t5.row r1 (fun x hx h0 => by have := f1 x hx; have := hr1 x hx h0; omega)
          have r25 := t5.row r2 (fun x hx h0 => by have := f2 x hx; have := hr2 x hx h0; omega)
          have b5 := t5.under bWQCA (by omega)
          refine hK.out _ _ b5 (fun hHeld => ?_)
          clear hK K
          refine wpAnyH_ready (rs := [14]) (by kernel_rfl) (by simp) ?_
          refine AllReadyH.cons rfl (fun K hK => ?_) AllReadyH.nil
          simp only [List.getElem_toArray, List.getElem_cons_zero, List.getElem_cons_succ]
          obtain ⟨y0, y1, y2, y3⟩ := ya5.cells
          have yf := ya5.free
          go_simp
          have t6 := ans_turned Wq (WQC.heap.size) an'.c an'.he an'.no an'.bd
          have ya6 := ya5.store an'.c an'.he an'.no an'.bd
          have q6 := t6.queue q5 (by omega)
          have b6 := t6.under b5 (by omega)
          have X6 : Bx _ (W0.heap.size) s' b1' d1' b2' d2' vs' := ⟨q6, t6.row r15 (fun x hx h0 => by have := f1 x hx; have := hr1 x hx h0; omega), t6.row r25 (fun x hx h0 => by have := f2 x hx; have := hr2 x hx h0; omega), n1, n2, hW''⟩
          unfold ansStore at ya6 X6 b6
          refine hK.out _ _ b6 (fun hHeld => ?_)
          clear hK K y0 y1 y2 y3 yf q6 t6
          generalize (((Wq.setCell ⟨WQC.heap.size, 0, none⟩ (.int .i64 an'.c)).setCell ⟨WQC.heap.size, 1, none⟩ (.int .i64 an'.he)).setCell ⟨WQC.heap.size, 2, none⟩ (.int .i64 an'.no)).setCell ⟨WQC.heap.size, 3, none⟩ (.int .i64 an'.bd) = W6 at ya6 X6 b6 hHeld ⊢
          refine wpAnyH_take (i := 15) (v := .bool ch) rfl (by kernel_rfl) (by kernel_rfl) (by kernel_rfl) (fun _ _ _ h => h) (Or.inl ⟨by rfl, fun _ _ => by go_simp⟩) hHeld ?_
          simp only [List.getElem_toArray, List.getElem_cons_zero, List.getElem_cons_succ, Act.put, List.setIfInBounds_toArray, List.set_cons_zero, List.set_cons_succ]
          refine wpAnyH_take (i := 16) (v := .int .i64 er) rfl (by kernel_rfl) (by kernel_rfl) (by kernel_rfl) (fun _ _ _ h => h) (Or.inl ⟨by rfl, fun _ _ => by go_simp⟩) hHeld ?_
          simp only [List.getElem_toArray, List.getElem_cons_zero, List.getElem_cons_succ, Act.put, List.setIfInBounds_toArray, List.set_cons_zero, List.set_cons_succ]
          refine wpAnyH_done (by kernel_rfl) ?_ _
          go_wp2_with fail
          go_meet
          exact ⟨s', an', ch, er, _, _, _, _, _, _, _, rfl, rfl, rfl, rfl, unveil HST, X6, ya6, b6, by omega, by omega, fun x hx => by have := f1 x hx; omega, fun x hx => by have := f2 x hx; omega, l1', l2'⟩
      · simp only [List.getElem_toArray, List.getElem_cons_zero, List.getElem_cons_succ]
        go_simp
        obtain ⟨WQA, hWQA, ya, bn⟩ : ∃ W, W = WQ.alloc (.cells #[.int .i64 0, .int .i64 0, .int .i64 0, .int .i64 0] 75) ∧ ansBlock W WQ.heap.size 0 0 0 0 ∧ Below WQ.heap.size WQ W := ⟨_, rfl, ansBlock.new _ 0 0 0 0, below1 _ _⟩
        rw [← hWQA]
        have hXa : WQ.heap.size < WQA.heap.size := ya.lt
        have bWQA := Below.next bWQ bn
        clear hWQA
        have zq := zq.next bn
        have hSWQA : WQ.heap.size ≤ WQA.heap.size := bn.size
        refine hK.out _ _ bWQA (fun hHeld => ?_)
        clear hK K bn
        refine wpAnyH_ready (rs := [5]) (by kernel_rfl) (by simp) ?_
        refine AllReadyH.cons rfl (fun K hK => ?_) AllReadyH.nil
        · simp only [List.getElem_toArray, List.getElem_cons_zero, List.getElem_cons_succ]
          go_simp
          refine (unveil HDo _ bWQA).mono ?_
          rintro e WQAC ⟨s', an', ch, er, x', rfl, hst, ⟨⟨b1', d1', b2', d2', vs', rfl, r1, r2, l1', l2', n1, n2, hW'', f1, f2⟩⟩, bn⟩
          have HST := veil hst
          clear hst
          have hr1 := fun x hx h0 => r1.blk_lt x hx h0
          have hr2 := fun x hx h0 => r2.blk_lt x hx h0
          have bWQAC := Below.next bWQA bn
          have zq := zq.next bn
          have ya := ya.next bn
          have hSWQAC : WQA.heap.size ≤ WQAC.heap.size := bn.size
          refine hK.out _ _ bWQAC (fun hHeld => ?_)
          clear hK K bn
          refine wpAnyH_take (i := 6) (v := .tuple #[qVal s'.ep s'.nx s'.gv (.slice b1' s'.rn d1') (.slice b2' s'.ln d2') vs', anOf an', .bool ch, .int .i64 er]) rfl (by kernel_rfl) (by kernel_rfl) (by kernel_rfl) (fun _ _ _ h => h) (Or.inl ⟨by rfl, fun _ _ => by go_simp⟩) hHeld ?_
          simp only [List.getElem_toArray, List.getElem_cons_zero, List.getElem_cons_succ, Act.put, List.setIfInBounds_toArray, List.set_cons_zero, List.set_cons_succ]
          refine wpAnyH_take (i := 7) (v := qVal s'.ep s'.nx s'.gv (.slice b1' s'.rn d1') (.slice b2' s'.ln d2') vs') rfl (by kernel_rfl) (by kernel_rfl) (by kernel_rfl) (fun _ _ _ h => h) (Or.inl ⟨by rfl, fun _ _ => by go_simp⟩) hHeld ?_
          simp only [List.getElem_toArray, List.getElem_cons_zero, List.getElem_cons_succ, Act.put, List.setIfInBounds_toArray, List.set_cons_zero, List.set_cons_succ]
          refine wpAnyH_take (i := 8) (v := anOf an') rfl (by kernel_rfl) (by kernel_rfl) (by kernel_rfl) (fun _ _ _ h => h) (Or.inl ⟨by rfl, fun _ _ => by go_simp⟩) hHeld ?_
          simp only [List.getElem_toArray, List.getElem_cons_zero, List.getElem_cons_succ, Act.put, List.setIfInBounds_toArray, List.set_cons_zero, List.set_cons_succ]
          refine wpAnyH_take (i := 9) (v := .bool ch) rfl (by kernel_rfl) (by kernel_rfl) (by kernel_rfl) (fun _ _ _ h => h) (Or.inl ⟨by rfl, fun _ _ => by go_simp⟩) hHeld ?_
          simp only [List.getElem_toArray, List.getElem_cons_zero, List.getElem_cons_succ, Act.put, List.setIfInBounds_toArray, List.set_cons_zero, List.set_cons_succ]
          refine wpAnyH_take (i := 10) (v := .int .i64 er) rfl (by kernel_rfl) (by kernel_rfl) (by kernel_rfl) (fun _ _ _ h => h) (Or.inl ⟨by rfl, fun _ _ => by go_simp⟩) hHeld ?_
          simp only [List.getElem_toArray, List.getElem_cons_zero, List.getElem_cons_succ, Act.put, List.setIfInBounds_toArray, List.set_cons_zero, List.set_cons_succ]
          refine wpAnyH_ready (rs := [13]) (by kernel_rfl) (by simp) ?_
          refine AllReadyH.cons rfl (fun K hK => ?_) AllReadyH.nil
          simp only [List.getElem_toArray, List.getElem_cons_zero, List.getElem_cons_succ]
          refine ite_wanted rfl ?_
          refine q_store_wp (ra := b1') (la := b2') (ws' := vs') _ _ rfl rfl rfl zq hW'' ?_
          intro Wq q5 t5
          have ya5 := ya.turned t5 (by omega)
          have r15 := t5.row r1 (fun x hx h0 => by have := f1 x hx; have := hr1 x hx h0; omega)
          have r25 := t5.row r2 (fun x hx h0 => by have := f2 x hx; have := hr2 x hx h0; omega)
          have b5 := t5.under bWQAC (by omega)
          refine hK.out _ _ b5 (fun hHeld => ?_)
          clear hK K
          refine wpAnyH_ready (rs := [14]) (by kernel_rfl) (by simp) ?_
          refine AllReadyH.cons rfl (fun K hK => ?_) AllReadyH.nil
          simp only [List.getElem_toArray, List.getElem_cons_zero, List.getElem_cons_succ]
          obtain ⟨y0, y1, y2, y3⟩ := ya5.cells
          have yf := ya5.free
          go_simp
          have t6 := ans_turned Wq (WQ.heap.size) an'.c an'.he an'.no an'.bd
          have ya6 := ya5.store an'.c an'.he an'.no an'.bd
          have q6 := t6.queue q5 (by omega)
          have b6 := t6.under b5 (by omega)
          have X6 : Bx _ (W0.heap.size) s' b1' d1' b2' d2' vs' := ⟨q6, t6.row r15 (fun x hx h0 => by have := f1 x hx; have := hr1 x hx h0; omega), t6.row r25 (fun x hx h0 => by have := f2 x hx; have := hr2 x hx h0; omega), n1, n2, hW''⟩
          unfold ansStore at ya6 X6 b6
          refine hK.out _ _ b6 (fun hHeld => ?_)
          clear hK K y0 y1 y2 y3 yf q6 t6
          generalize (((Wq.setCell ⟨WQ.heap.size, 0, none⟩ (.int .i64 an'.c)).setCell ⟨WQ.heap.size, 1, none⟩ (.int .i64 an'.he)).setCell ⟨WQ.heap.size, 2, none⟩ (.int .i64 an'.no)).setCell ⟨WQ.heap.size, 3, none⟩ (.int .i64 an'.bd) = W6 at ya6 X6 b6 hHeld ⊢
          refine wpAnyH_take (i := 15) (v := .bool ch) rfl (by kernel_rfl) (by kernel_rfl) (by kernel_rfl) (fun _ _ _ h => h) (Or.inl ⟨by rfl, fun _ _ => by go_simp⟩) hHeld ?_
          simp only [List.getElem_toArray, List.getElem_cons_zero, List.getElem_cons_succ, Act.put, List.setIfInBounds_toArray, List.set_cons_zero, List.set_cons_succ]
          refine wpAnyH_take (i := 16) (v := .int .i64 er) rfl (by kernel_rfl) (by kernel_rfl) (by kernel_rfl) (fun _ _ _ h => h) (Or.inl ⟨by rfl, fun _ _ => by go_simp⟩) hHeld ?_
          simp only [List.getElem_toArray, List.getElem_cons_zero, List.getElem_cons_succ, Act.put, List.setIfInBounds_toArray, List.set_cons_zero, List.set_cons_succ]
          refine wpAnyH_done (by kernel_rfl) ?_ _
          go_wp2_with fail
          go_meet
          exact ⟨s', an', ch, er, _, _, _, _, _, _, _, rfl, rfl, rfl, rfl, unveil HST, X6, ya6, b6, by omega, by omega, fun x hx => by have := f1 x hx; omega, fun x hx => by have := f2 x hx; omega, l1', l2'⟩
    · simp only [List.getElem_toArray, List.getElem_cons_zero, List.getElem_cons_succ]
      go_simp
      obtain ⟨WA, hWA, ya, bn⟩ : ∃ W, W = W0.alloc (.cells #[.int .i64 0, .int .i64 0, .int .i64 0, .int .i64 0] 75) ∧ ansBlock W W0.heap.size 0 0 0 0 ∧ Below W0.heap.size W0 W := ⟨_, rfl, ansBlock.new _ 0 0 0 0, below1 _ _⟩
      rw [← hWA]
      have hXa : W0.heap.size < WA.heap.size := ya.lt
      have bWA := Below.next bW0 bn
      clear hWA
      have hSWA : W0.heap.size ≤ WA.heap.size := bn.size
      refine hK.out _ _ bWA (fun hHeld => ?_)
      clear hK K bn
      refine wpAnyH_ready (rs := [5, 11]) (by kernel_rfl) (by simp) ?_
      refine AllReadyH.cons rfl (fun K hK => ?_) (AllReadyH.cons rfl (fun K hK => ?_) AllReadyH.nil)
      · simp only [List.getElem_toArray, List.getElem_cons_zero, List.getElem_cons_succ]
        go_simp
        refine (unveil HDo _ bWA).mono ?_
        rintro e WAC ⟨s', an', ch, er, x', rfl, hst, ⟨⟨b1', d1', b2', d2', vs', rfl, r1, r2, l1', l2', n1, n2, hW'', f1, f2⟩⟩, bn⟩
        have HST := veil hst
        clear hst
        have hr1 := fun x hx h0 => r1.blk_lt x hx h0
        have hr2 := fun x hx h0 => r2.blk_lt x hx h0
        have bWAC := Below.next bWA bn
        have ya := ya.next bn
        have hSWAC : WA.heap.size ≤ WAC.heap.size := bn.size
        refine hK.out _ _ bWAC (fun hHeld => ?_)
        clear hK K bn
        refine wpAnyH_take (i := 6) (v := .tuple #[qVal s'.ep s'.nx s'.gv (.slice b1' s'.rn d1') (.slice b2' s'.ln d2') vs', anOf an', .bool ch, .int .i64 er]) rfl (by kernel_rfl) (by kernel_rfl) (by kernel_rfl) (fun _ _ _ h => h) (Or.inl ⟨by rfl, fun _ _ => by go_simp⟩) hHeld ?_
        simp only [List.getElem_toArray, List.getElem_cons_zero, List.getElem_cons_succ, Act.put, List.setIfInBounds_toArray, List.set_cons_zero, List.set_cons_succ]
        refine wpAnyH_take (i := 7) (v := qVal s'.ep s'.nx s'.gv (.slice b1' s'.rn d1') (.slice b2' s'.ln d2') vs') rfl (by kernel_rfl) (by kernel_rfl) (by kernel_rfl) (fun _ _ _ h => h) (Or.inl ⟨by rfl, fun _ _ => by go_simp⟩) hHeld ?_
        simp only [List.getElem_toArray, List.getElem_cons_zero, List.getElem_cons_succ, Act.put, List.setIfInBounds_toArray, List.set_cons_zero, List.set_cons_succ]
        refine wpAnyH_take (i := 8) (v := anOf an') rfl (by kernel_rfl) (by kernel_rfl) (by kernel_rfl) (fun _ _ _ h => h) (Or.inl ⟨by rfl, fun _ _ => by go_simp⟩) hHeld ?_
        simp only [List.getElem_toArray, List.getElem_cons_zero, List.getElem_cons_succ, Act.put, List.setIfInBounds_toArray, List.set_cons_zero, List.set_cons_succ]
        refine wpAnyH_take (i := 9) (v := .bool ch) rfl (by kernel_rfl) (by kernel_rfl) (by kernel_rfl) (fun _ _ _ h => h) (Or.inl ⟨by rfl, fun _ _ => by go_simp⟩) hHeld ?_
        simp only [List.getElem_toArray, List.getElem_cons_zero, List.getElem_cons_succ, Act.put, List.setIfInBounds_toArray, List.set_cons_zero, List.set_cons_succ]
        refine wpAnyH_take (i := 10) (v := .int .i64 er) rfl (by kernel_rfl) (by kernel_rfl) (by kernel_rfl) (fun _ _ _ h => h) (Or.inl ⟨by rfl, fun _ _ => by go_simp⟩) hHeld ?_
        simp only [List.getElem_toArray, List.getElem_cons_zero, List.getElem_cons_succ, Act.put, List.setIfInBounds_toArray, List.set_cons_zero, List.set_cons_succ]
        refine wpAnyH_ready (rs := [11]) (by kernel_rfl) (by simp) ?_
        refine AllReadyH.cons rfl (fun K hK => ?_) AllReadyH.nil
        · simp only [List.getElem_toArray, List.getElem_cons_zero, List.getElem_cons_succ]
          refine ite_wanted rfl ?_
          refine q_alloc_wp 5 rfl rfl ?_
          intro WACQ zq bn
          have hXq : WAC.heap.size < WACQ.heap.size := zq.lt
          have bWACQ := Below.next bWAC bn
          have ya := ya.next bn
          have r1 := r1.below bn
          have r2 := r2.below bn
          have hSWACQ : WAC.heap.size ≤ WACQ.heap.size := bn.size
          refine hK.out _ _ bWACQ (fun hHeld => ?_)
          clear hK K bn
          refine wpAnyH_ready (rs := [13]) (by kernel_rfl) (by simp) ?_
          refine AllReadyH.cons rfl (fun K hK => ?_) AllReadyH.nil
          simp only [List.getElem_toArray, List.getElem_cons_zero, List.getElem_cons_succ]
          refine ite_wanted rfl ?_
          refine q_store_wp (ra := b1') (la := b2') (ws' := vs') _ _ rfl rfl rfl zq hW'' ?_
          intro Wq q5 t5
          have ya5 := ya.turned t5 (by omega)
          have r15 := t5.row r1 (fun x hx h0 => by have := f1 x hx; have := hr1 x hx h0; omega)
          have r25 := t5.row r2 (fun x hx h0 => by have := f2 x hx; have := hr2 x hx h0; omega)
          have b5 := t5.under bWACQ (by omega)
          refine hK.out _ _ b5 (fun hHeld => ?_)
          clear hK K
          refine wpAnyH_ready (rs := [14]) (by kernel_rfl) (by simp) ?_
          refine AllReadyH.cons rfl (fun K hK => ?_) AllReadyH.nil
          simp only [List.getElem_toArray, List.getElem_cons_zero, List.getElem_cons_succ]
          obtain ⟨y0, y1, y2, y3⟩ := ya5.cells
          have yf := ya5.free
          go_simp
          have t6 := ans_turned Wq (W0.heap.size) an'.c an'.he an'.no an'.bd
          have ya6 := ya5.store an'.c an'.he an'.no an'.bd
          have q6 := t6.queue q5 (by omega)
          have b6 := t6.under b5 (by omega)
          have X6 : Bx _ (WAC.heap.size) s' b1' d1' b2' d2' vs' := ⟨q6, t6.row r15 (fun x hx h0 => by have := f1 x hx; have := hr1 x hx h0; omega), t6.row r25 (fun x hx h0 => by have := f2 x hx; have := hr2 x hx h0; omega), n1, n2, hW''⟩
          unfold ansStore at ya6 X6 b6
          refine hK.out _ _ b6 (fun hHeld => ?_)
          clear hK K y0 y1 y2 y3 yf q6 t6
          generalize (((Wq.setCell ⟨W0.heap.size, 0, none⟩ (.int .i64 an'.c)).setCell ⟨W0.heap.size, 1, none⟩ (.int .i64 an'.he)).setCell ⟨W0.heap.size, 2, none⟩ (.int .i64 an'.no)).setCell ⟨W0.heap.size, 3, none⟩ (.int .i64 an'.bd) = W6 at ya6 X6 b6 hHeld ⊢
          refine wpAnyH_take (i := 15) (v := .bool ch) rfl (by kernel_rfl) (by kernel_rfl) (by kernel_rfl) (fun _ _ _ h => h) (Or.inl ⟨by rfl, fun _ _ => by go_simp⟩) hHeld ?_
          simp only [List.getElem_toArray, List.getElem_cons_zero, List.getElem_cons_succ, Act.put, List.setIfInBounds_toArray, List.set_cons_zero, List.set_cons_succ]
          refine wpAnyH_take (i := 16) (v := .int .i64 er) rfl (by kernel_rfl) (by kernel_rfl) (by kernel_rfl) (fun _ _ _ h => h) (Or.inl ⟨by rfl, fun _ _ => by go_simp⟩) hHeld ?_
          simp only [List.getElem_toArray, List.getElem_cons_zero, List.getElem_cons_succ, Act.put, List.setIfInBounds_toArray, List.set_cons_zero, List.set_cons_succ]
          refine wpAnyH_done (by kernel_rfl) ?_ _
          go_wp2_with fail
          go_meet
          exact ⟨s', an', ch, er, _, _, _, _, _, _, _, rfl, rfl, rfl, rfl, unveil HST, X6, ya6, b6, by omega, by omega, fun x hx => by have := f1 x hx; omega, fun x hx => by have := f2 x hx; omega, l1', l2'⟩
      · simp only [List.getElem_toArray, List.getElem_cons_zero, List.getElem_cons_succ]
        refine ite_wanted rfl ?_
        refine q_alloc_wp 5 rfl rfl ?_
        intro WAQ zq bn
        have hXq : WA.heap.size < WAQ.heap.size := zq.lt
        have bWAQ := Below.next bWA bn
        have ya := ya.next bn
        have hSWAQ : WA.heap.size ≤ WAQ.heap.size := bn.size
        refine hK.out _ _ bWAQ (fun hHeld => ?_)
        clear hK K bn
        refine wpAnyH_ready (rs := [5]) (by kernel_rfl) (by simp) ?_
        refine AllReadyH.cons rfl (fun K hK => ?_) AllReadyH.nil
        · simp only [List.getElem_toArray, List.getElem_cons_zero, List.getElem_cons_succ]
          go_simp
          refine (unveil HDo _ bWAQ).mono ?_
          rintro e WAQC ⟨s', an', ch, er, x', rfl, hst, ⟨⟨b1', d1', b2', d2', vs', rfl, r1, r2, l1', l2', n1, n2, hW'', f1, f2⟩⟩, bn⟩
          have HST := veil hst
          clear hst
          have hr1 := fun x hx h0 => r1.blk_lt x hx h0
          have hr2 := fun x hx h0 => r2.blk_lt x hx h0
          have bWAQC := Below.next bWAQ bn
          have zq := zq.next bn
          have ya := ya.next bn
          have hSWAQC : WAQ.heap.size ≤ WAQC.heap.size := bn.size
          refine hK.out _ _ bWAQC (fun hHeld => ?_)
          clear hK K bn
          refine wpAnyH_take (i := 6) (v := .tuple #[qVal s'.ep s'.nx s'.gv (.slice b1' s'.rn d1') (.slice b2' s'.ln d2') vs', anOf an', .bool ch, .int .i64 er]) rfl (by kernel_rfl) (by kernel_rfl) (by kernel_rfl) (fun _ _ _ h => h) (Or.inl ⟨by rfl, fun _ _ => by go_simp⟩) hHeld ?_
          simp only [List.getElem_toArray, List.getElem_cons_zero, List.getElem_cons_succ, Act.put, List.setIfInBounds_toArray, List.set_cons_zero, List.set_cons_succ]
          refine wpAnyH_take (i := 7) (v := qVal s'.ep s'.nx s'.gv (.slice b1' s'.rn d1') (.slice b2' s'.ln d2') vs') rfl (by kernel_rfl) (by kernel_rfl) (by kernel_rfl) (fun _ _ _ h => h) (Or.inl ⟨by rfl, fun _ _ => by go_simp⟩) hHeld ?_
          simp only [List.getElem_toArray, List.getElem_cons_zero, List.getElem_cons_succ, Act.put, List.setIfInBounds_toArray, List.set_cons_zero, List.set_cons_succ]
          refine wpAnyH_take (i := 8) (v := anOf an') rfl (by kernel_rfl) (by kernel_rfl) (by kernel_rfl) (fun _ _ _ h => h) (Or.inl ⟨by rfl, fun _ _ => by go_simp⟩) hHeld ?_
          simp only [List.getElem_toArray, List.getElem_cons_zero, List.getElem_cons_succ, Act.put, List.setIfInBounds_toArray, List.set_cons_zero, List.set_cons_succ]
          refine wpAnyH_take (i := 9) (v := .bool ch) rfl (by kernel_rfl) (by kernel_rfl) (by kernel_rfl) (fun _ _ _ h => h) (Or.inl ⟨by rfl, fun _ _ => by go_simp⟩) hHeld ?_
          simp only [List.getElem_toArray, List.getElem_cons_zero, List.getElem_cons_succ, Act.put, List.setIfInBounds_toArray, List.set_cons_zero, List.set_cons_succ]
          refine wpAnyH_take (i := 10) (v := .int .i64 er) rfl (by kernel_rfl) (by kernel_rfl) (by kernel_rfl) (fun _ _ _ h => h) (Or.inl ⟨by rfl, fun _ _ => by go_simp⟩) hHeld ?_
          simp only [List.getElem_toArray, List.getElem_cons_zero, List.getElem_cons_succ, Act.put, List.setIfInBounds_toArray, List.set_cons_zero, List.set_cons_succ]
          refine wpAnyH_ready (rs := [13]) (by kernel_rfl) (by simp) ?_
          refine AllReadyH.cons rfl (fun K hK => ?_) AllReadyH.nil
          simp only [List.getElem_toArray, List.getElem_cons_zero, List.getElem_cons_succ]
          refine ite_wanted rfl ?_
          refine q_store_wp (ra := b1') (la := b2') (ws' := vs') _ _ rfl rfl rfl zq hW'' ?_
          intro Wq q5 t5
          have ya5 := ya.turned t5 (by omega)
          have r15 := t5.row r1 (fun x hx h0 => by have := f1 x hx; have := hr1 x hx h0; omega)
          have r25 := t5.row r2 (fun x hx h0 => by have := f2 x hx; have := hr2 x hx h0; omega)
          have b5 := t5.under bWAQC (by omega)
          refine hK.out _ _ b5 (fun hHeld => ?_)
          clear hK K
          refine wpAnyH_ready (rs := [14]) (by kernel_rfl) (by simp) ?_
          refine AllReadyH.cons rfl (fun K hK => ?_) AllReadyH.nil
          simp only [List.getElem_toArray, List.getElem_cons_zero, List.getElem_cons_succ]
          obtain ⟨y0, y1, y2, y3⟩ := ya5.cells
          have yf := ya5.free
          go_simp
          have t6 := ans_turned Wq (W0.heap.size) an'.c an'.he an'.no an'.bd
          have ya6 := ya5.store an'.c an'.he an'.no an'.bd
          have q6 := t6.queue q5 (by omega)
          have b6 := t6.under b5 (by omega)
          have X6 : Bx _ (WA.heap.size) s' b1' d1' b2' d2' vs' := ⟨q6, t6.row r15 (fun x hx h0 => by have := f1 x hx; have := hr1 x hx h0; omega), t6.row r25 (fun x hx h0 => by have := f2 x hx; have := hr2 x hx h0; omega), n1, n2, hW''⟩
          unfold ansStore at ya6 X6 b6
          refine hK.out _ _ b6 (fun hHeld => ?_)
          clear hK K y0 y1 y2 y3 yf q6 t6
          generalize (((Wq.setCell ⟨W0.heap.size, 0, none⟩ (.int .i64 an'.c)).setCell ⟨W0.heap.size, 1, none⟩ (.int .i64 an'.he)).setCell ⟨W0.heap.size, 2, none⟩ (.int .i64 an'.no)).setCell ⟨W0.heap.size, 3, none⟩ (.int .i64 an'.bd) = W6 at ya6 X6 b6 hHeld ⊢
          refine wpAnyH_take (i := 15) (v := .bool ch) rfl (by kernel_rfl) (by kernel_rfl) (by kernel_rfl) (fun _ _ _ h => h) (Or.inl ⟨by rfl, fun _ _ => by go_simp⟩) hHeld ?_
          simp only [List.getElem_toArray, List.getElem_cons_zero, List.getElem_cons_succ, Act.put, List.setIfInBounds_toArray, List.set_cons_zero, List.set_cons_succ]
          refine wpAnyH_take (i := 16) (v := .int .i64 er) rfl (by kernel_rfl) (by kernel_rfl) (by kernel_rfl) (fun _ _ _ h => h) (Or.inl ⟨by rfl, fun _ _ => by go_simp⟩) hHeld ?_
          simp only [List.getElem_toArray, List.getElem_cons_zero, List.getElem_cons_succ, Act.put, List.setIfInBounds_toArray, List.set_cons_zero, List.set_cons_succ]
          refine wpAnyH_done (by kernel_rfl) ?_ _
          go_wp2_with fail
          go_meet
          exact ⟨s', an', ch, er, _, _, _, _, _, _, _, rfl, rfl, rfl, rfl, unveil HST, X6, ya6, b6, by omega, by omega, fun x hx => by have := f1 x hx; omega, fun x hx => by have := f2 x hx; omega, l1', l2'⟩
  case rest =>
    obtain ⟨s', an', ch, er, X, A, b1', d1', b2', d2', vs', rfl, rfl, rfl, rfl, hst, X2, A2, b2, hX, hA, f1, f2, hl1, hl2⟩ := hcut
    have HL1 := veil hl1
    have HL2 := veil hl2
    clear hl1 hl2
    obtain ⟨W2, hW2⟩ : ∃ W2, W2 = wc := ⟨_, rfl⟩
    subst hW2
    have O2 : Off R w0.heap.size w0 W2 := Off.below ((unveil HB1).trans (b2.mono (unveil HB1).size))
    have HST := veil hst
    have T2 := (unveil HT1).next b2
    have her : er = 0 ∨ (¬ er = 0 ∧ ch = false) := hst.err
    clear v0 v1 v2 v3 v4 v5 tb hst HDo
    rcases her with her | ⟨her, hch⟩
    case inr =>
      subst hch
      have HT2 := veil T2
      have HO2 := veil O2
      clear X2 A2 T2 O2
      go_wp2
      go_ret
      exact ⟨s', an', false, er, rfl, unveil HST, fun h => (by cases h), fun _ => unveil HT2, unveil HO2⟩
    case inl =>
    subst her
    cases ch with
    | false =>
      have HT2 := veil T2
      have HO2 := veil O2
      clear X2 A2 T2 O2
      go_wp2
      go_ret
      exact ⟨s', an', false, 0, rfl, unveil HST, fun h => (by cases h), fun _ => unveil HT2, unveil HO2⟩
    | true =>
      go_upto_region 4 with fail
      obtain ⟨e1, k1, e2, k2, us, tb2, _⟩ := T2.ex
      have hRX : R ≠ X := by omega
      have hRA : R ≠ A := by omega
      have hXl := X2.q.lt
      have qx := X2.q
      have hw := X2.wins
      refine wp_region_held_drew (S := fun w' => qBlock w' X s'.ep s'.nx s'.gv (.slice b1' s'.rn d1') (.slice b2' s'.ln d2') vs' ∧ ansBlock w' A an'.c an'.he an'.no an'.bd) (by kernel_rfl) ⟨qx, A2⟩ (fun hHeld => ?_)
      have tb3 : tlBlock W2.drew R T s.ep s.nx s.gv (.slice e1 s.rn k1) (.slice e2 s.ln k2) us an.c an.he an.no an.bd tail := tb2
      have r13 := X2.r1.below (below_drew W2)
      have r23 := X2.r2.below (below_drew W2)
      have O3 : Off R w0.heap.size w0 W2.drew := ⟨O2.os, O2.tape, O2.output, O2.size, O2.block⟩
      obtain ⟨W3, hW3⟩ : ∃ W3, W3 = W2.drew := ⟨_, rfl⟩
      rw [← hW3] at tb3 r13 r23 O3 hHeld ⊢
      clear hW3 T2 O2 tb2
      refine wpAnyH_take (i := 0) (v := .pointer (some ⟨R, 0, none⟩)) rfl (by kernel_rfl) (by kernel_rfl) (by kernel_rfl) (fun _ _ _ h => h) (Or.inl ⟨by rfl, fun _ _ => by go_simp⟩) hHeld ?_
      simp only [List.getElem_toArray, List.getElem_cons_zero, Act.put, List.setIfInBounds_toArray, List.set_cons_zero, List.set_cons_succ]
      refine wpAnyH_take (i := 1) (v := .pointer (some ⟨R, 0, none⟩)) rfl (by kernel_rfl) (by kernel_rfl) (by kernel_rfl) (fun _ _ _ h => h) (Or.inl ⟨by rfl, fun _ _ => by go_simp⟩) hHeld ?_
      simp only [List.getElem_toArray, List.getElem_cons_zero, List.getElem_cons_succ, Act.put, List.setIfInBounds_toArray, List.set_cons_zero, List.set_cons_succ]
      refine wpAnyH_take (i := 2) (v := _) rfl (by kernel_rfl) (by kernel_rfl) (by kernel_rfl) (fun _ _ _ h => h) (yields_q _ rfl rfl rfl (fun _ h => h.1)) hHeld ?_
      simp only [List.getElem_toArray, List.getElem_cons_zero, List.getElem_cons_succ, Act.put, List.setIfInBounds_toArray, List.set_cons_zero, List.set_cons_succ]
      refine wpAnyH_take (i := 3) (v := _) rfl (by kernel_rfl) (by kernel_rfl) (by kernel_rfl) (fun _ _ _ h => h) (yields_a _ rfl rfl rfl (fun _ h => h.2)) hHeld ?_
      simp only [List.getElem_toArray, List.getElem_cons_zero, List.getElem_cons_succ, Act.put, List.setIfInBounds_toArray, List.set_cons_zero, List.set_cons_succ]
      refine wpAnyH_take (i := 4) (v := .pointer (some ⟨R, 0, none⟩)) rfl (by kernel_rfl) (by kernel_rfl) (by kernel_rfl) (fun _ _ _ h => h) (Or.inl ⟨by rfl, fun _ _ => by go_simp⟩) hHeld ?_
      simp only [List.getElem_toArray, List.getElem_cons_zero, List.getElem_cons_succ, Act.put, List.setIfInBounds_toArray, List.set_cons_zero, List.set_cons_succ]
      refine wpAnyH_take (i := 5) (v := .pointer (some ⟨R, 0, none⟩)) rfl (by kernel_rfl) (by kernel_rfl) (by kernel_rfl) (fun _ _ _ h => h) (Or.inl ⟨by rfl, fun _ _ => by go_simp⟩) hHeld ?_
      simp only [List.getElem_toArray, List.getElem_cons_zero, List.getElem_cons_succ, Act.put, List.setIfInBounds_toArray, List.set_cons_zero, List.set_cons_succ]
      refine wpAnyH_ready (rs := [6]) (by kernel_rfl) (by simp) ?_
      refine AllReadyH.cons rfl (fun K hK => ?_) AllReadyH.nil
      simp only [List.getElem_toArray, List.getElem_cons_zero, List.getElem_cons_succ]
      refine ite_wanted rfl ?_
      refine t_store_wp (ra := b1') (la := b2') (ws' := vs') _ _ rfl rfl rfl tb3 hw ?_
      intro W4 tb4 t4
      have q4 := t4.queue hHeld.1 (fun e => hRX e.symm)
      have A4 := hHeld.2.turned t4 (fun e => hRA e.symm)
      have r14 := t4.row r13 (fun x hx h0 => by have := f1 x hx; omega)
      have r24 := t4.row r23 (fun x hx h0 => by have := f2 x hx; omega)
      have O4 := O3.self t4
      refine hK.out _ _ ⟨q4, A4⟩ (fun hHeld => ?_)
      clear hK K
      refine wpAnyH_take (i := 7) (v := .pointer (some ⟨R, 0, none⟩)) rfl (by kernel_rfl) (by kernel_rfl) (by kernel_rfl) (fun _ _ _ h => h) (Or.inl ⟨by rfl, fun _ _ => by go_simp⟩) hHeld ?_
      simp only [List.getElem_toArray, List.getElem_cons_zero, List.getElem_cons_succ, Act.put, List.setIfInBounds_toArray, List.set_cons_zero, List.set_cons_succ]
      refine wpAnyH_take (i := 8) (v := .pointer (some ⟨R, 41, none⟩)) rfl (by kernel_rfl) (by kernel_rfl) (by kernel_rfl) (fun _ _ _ h => h) (Or.inl ⟨by rfl, fun _ _ => by go_simp⟩) hHeld ?_
      simp only [List.getElem_toArray, List.getElem_cons_zero, List.getElem_cons_succ, Act.put, List.setIfInBounds_toArray, List.set_cons_zero, List.set_cons_succ]
      refine wpAnyH_ready (rs := [9]) (by kernel_rfl) (by simp) ?_
      refine AllReadyH.cons rfl (fun K hK => ?_) AllReadyH.nil
      simp only [List.getElem_toArray, List.getElem_cons_zero, List.getElem_cons_succ]
      obtain ⟨y0, y1, y2, y3⟩ := tb4.answer
      have yf := tb4.free
      go_simp
      have tb5 := tb4.answered an'.c an'.he an'.no an'.bd
      have t5 := (((Turned.set R 41 W4 (.int .i64 an'.c)).trans (Turned.set R 42 _ (.int .i64 an'.he))).trans (Turned.set R 43 _ (.int .i64 an'.no))).trans (Turned.set R 44 _ (.int .i64 an'.bd))
      have q5 := t5.queue q4 (fun e => hRX e.symm)
      have A5 := A4.turned t5 (fun e => hRA e.symm)
      have r15 := t5.row r14 (fun x hx h0 => by have := f1 x hx; omega)
      have r25 := t5.row r24 (fun x hx h0 => by have := f2 x hx; omega)
      have O5 := O4.self t5
      refine hK.out _ _ ⟨q5, A5⟩ (fun hHeld => ?_)
      clear hK K t5 y0 y1 y2 y3 yf
      generalize (((W4.setCell ⟨R, 41, none⟩ (.int .i64 an'.c)).setCell ⟨R, 42, none⟩ (.int .i64 an'.he)).setCell ⟨R, 43, none⟩ (.int .i64 an'.no)).setCell ⟨R, 44, none⟩ (.int .i64 an'.bd) = W5 at tb5 q5 A5 r15 r25 O5 hHeld ⊢
      refine wpAnyH_done (by kernel_rfl) ?_ _
      have HT5 : Hid (Tg W5 R T tail s' an') := veil ⟨b1', d1', b2', d2', vs', tb5, r15, r25, X2.n1, X2.n2, hw, fun x hx => by have := f1 x hx; omega, fun x hx => by have := f2 x hx; omega, unveil HL1, unveil HL2⟩
      have HO5 := veil O5
      clear tb5 q5 A5 r15 r25 O5 tb4 q4 A4 r14 r24 O4 tb3 r13 r23 O3 qx hHeld X2 A2
      go_wp2
      go_ret
      exact ⟨s', an', true, 0, rfl, unveil HST, fun _ => unveil HT5, fun h => (by cases h), unveil HO5⟩
end Go.Proofs.YtcdopnkabbfooaaGreat

namespace Go.Proofs.YtcdopnkabbfooaaGreat
open Go.RowKit

theorem evFlat_wf {es : List Ev} (h : ∀ v ∈ es, v.Ok) : ∀ u ∈ evFlat es, (Lit.int .i64 u).wf = true := by
  intro u hu
  obtain ⟨v, hv, hu⟩ := List.mem_flatMap.1 hu
  have hb : 0 ≤ u ∧ u ≤ 1073741824 := by
    simp only [evCells, List.mem_cons, List.not_mem_nil, or_false] at hu
    rcases Ev.cases (h v hv) with c | c | c | c <;> omega
  exact wf_in (by omega) (by omega)
end Go.Proofs.YtcdopnkabbfooaaGreat

namespace Go.Proofs.YtcdopnkabbfooaaGreat
open Go.RowKit

/-- what a call with the next event does, up to the first that can't be told. -/
structure EachSpec (g : Nat) (recv : Value) (es : List Ev) (I : Nat → World → Prop) (J : World → Prop) : Prop where
  enters : ∀ args w, (callFunc g args).run Tryz.prog w = .ok (.enter g args) w
  step : ∀ k (hk : k < es.length) (W : World), I k W → Calls Tryz.prog g #[recv, evIn es[k]] W fun e w' => (e = .returned (.bool true) ∧ I (k + 1) w') ∨ (e = .returned (.bool false) ∧ J w')
  keep : ∀ k (W W' : World), I k W → Below W.heap.size W W' → I k W'
set_option maxRecDepth 20000 in
set_option maxHeartbeats 4000000 in
theorem each_any (g : Nat) (R : Nat) (es : List Ev) (I : Nat → World → Prop) (J : World → Prop) (sp : EachSpec g (.pointer (some ⟨R, 0, none⟩)) es I J) (a : Option Addr) (cap : Nat) (w : World) (h0 : I 0 w) (hl : es.length ≤ 2000)
    (hrow : ∀ k W, I k W → RowK .i64 W a (6 * es.length) (evFlat es)) :
    Calls Tryz.prog 82 #[.slice a es.length cap, .func (.func g) #[.pointer (some ⟨R, 0, none⟩)] #[]] w fun e w' => (e = .returned (.int .i64 0) ∧ I es.length w') ∨ (e = .returned (.int .i64 3) ∧ J w') := by
  have heg := sp.enters
  go_enter Tryz.func82, Tryz.ntmps82
  go_upto_region 4 with fail
  go_loopw [12] (fun i wr => ∃ k : Nat, k ≤ es.length ∧ i = .int .i64 k ∧ I k wr) (fun i _ => es.length - (intOf i).toNat)
  case atStart => exact ⟨0, Nat.zero_le _, rfl, h0⟩
  case round =>
    obtain ⟨k, hk, rfl, hI⟩ := hrel
    by_cases hlt : k < es.length
    · have hr := hrow k wr hI
      obtain ⟨b, off, rfl⟩ := hr.form (by omega)
      obtain ⟨x0, x1, x2, x3, x4, x5⟩ := hr.six k hlt
      have ea : ∀ t, t < 6 → (evFlat es).getD (6 * k + t) 0 = (evCells es[k]).getD t 0 := fun t ht => evFlat_at es k hlt t ht
      rw [show 6 * k = 6 * k + 0 from rfl, ea 0 (by omega)] at x0
      rw [ea 1 (by omega)] at x1
      rw [ea 2 (by omega)] at x2
      rw [ea 3 (by omega)] at x3
      rw [ea 4 (by omega)] at x4
      rw [ea 5 (by omega)] at x5
      have HSt := fun W hW => sp.step k hlt W hW
      obtain ⟨v, hv⟩ : ∃ v, v = es[k] := ⟨_, rfl⟩
      rw [← hv] at x0 x1 x2 x3 x4 x5 HSt
      simp only [evCells, List.getD_cons_zero, List.getD_cons_succ] at x0 x1 x2 x3 x4 x5
      have HI : Hid (∀ W, Below wr.heap.size wr W → I k W) := veil fun W b => sp.keep k wr W hI b
      have HS := veil HSt
      clear hr ea hv HSt hI
      go_upto_region 6 with fail
      obtain ⟨W1, hW1, b1, e1⟩ : ∃ W1, W1 = wr.alloc (.cells #[.int .i64 v.k, .int .i64 v.p, .int .i64 v.i, .int .i64 v.b, .int .i64 v.he, .int .i64 v.hn] 28) ∧ Below wr.heap.size wr W1 ∧ W1.heap[wr.heap.size]? = some (.cells #[.int .i64 v.k, .int .i64 v.p, .int .i64 v.i, .int .i64 v.b, .int .i64 v.he, .int .i64 v.hn] 28 (0, 0)) := ⟨_, rfl, below1 _ _, heap_alloc_new _ _⟩
      rw [← hW1]
      obtain ⟨v0, v1, v2, v3, v4, v5⟩ := ev_box e1
      have HC : Calls Tryz.prog g #[.pointer (some ⟨R, 0, none⟩), evIn v] W1 fun e w' => ∃ ch : Bool, e = .returned (.bool ch) ∧ Hid ((ch = true → I (k + 1) w') ∧ (ch = false → J w')) := (unveil HS W1 (unveil HI W1 b1)).mono (by
        rintro e w' (⟨rfl, h1⟩ | ⟨rfl, h1⟩)
        · exact ⟨true, rfl, veil ⟨fun _ => h1, fun h => (by cases h)⟩⟩
        · exact ⟨false, rfl, veil ⟨fun h => (by cases h), fun _ => h1⟩⟩)
      clear hW1 b1 e1 x0 x1 x2 x3 x4 x5
      go_wp2_with (go_at_fn g; refine HC.mono ?_; rintro e W2 ⟨ch, rfl, HCh⟩; clear HC v0 v1 v2 v3 v4 v5)
      · go_ret
        exact .inr ⟨rfl, (unveil HCh).2 (by cases ch <;> simp_all)⟩
      · refine ⟨⟨k + 1, by omega, by go_num, (unveil HCh).1 (by cases ch <;> simp_all)⟩, by simp [intOf]; omega⟩
    · obtain rfl : k = es.length := by omega
      have HI := veil hI
      clear hI
      go_wp2
      go_ret
      exact .inl ⟨rfl, unveil HI⟩
end Go.Proofs.YtcdopnkabbfooaaGreat

namespace Go.Proofs.YtcdopnkabbfooaaGreat
open Go.RowKit

abbrev ztCells : Array Value := #[.int .i64 0, .int .i64 0, .int .i64 0, .slice none 0 0, .slice none 0 0, .int .i64 0, .bool false, .bool false, .bool false, .bool false, .bool false, .bool false, .bool false, .bool false, .int .i64 0, .bool false, .bool false, .bool false, .bool false, .bool false, .bool false, .bool false, .bool false, .int .i64 0, .bool false, .bool false, .bool false, .bool false, .bool false, .bool false, .bool false, .bool false, .int .i64 0, .bool false, .bool false, .bool false, .bool false, .bool false, .bool false, .bool false, .bool false, .int .i64 0, .int .i64 0, .int .i64 0, .int .i64 0]
theorem zt_eq : ztCells = (tlList 0 0 0 (.slice none 0 0) (.slice none 0 0) zeroW 0 0 0 0 []).toArray := rfl
theorem tg_zero {w W : World} {T : TypeId} (h : W = w.alloc (.cells ztCells T)) : Tg W w.heap.size T [] St.zero An.zero ∧ Below w.heap.size w W := by
  subst h
  refine ⟨⟨none, 0, none, 0, zeroW, ?_, RowK.nil _ _ _, RowK.nil _ _ _, fun _ => rfl, fun _ => rfl, zeroWins, fun x hx => (by cases hx), fun x hx => (by cases hx), Nat.le_refl _, Nat.le_refl _⟩, below1 _ _⟩
  unfold tlBlock
  rw [heap_alloc_new, zt_eq]
  rfl
theorem t_alloc {ops : Array Oper} {rest : List Oper} {o : Oper} {a : Act} {Q : Exit → Act → World → Prop} {w : World} (d : Nat) (ho : o.op = .alloc 114) (hd : o.dst = some d) (hw : Region.wanted o (yielded ops a.tmps) = true)
    (h : ∀ w', Tg w' w.heap.size 114 [] St.zero An.zero → Below w.heap.size w w' → wpList Tryz.prog ops Q rest (a.put (some d) (.pointer (some ⟨w.heap.size, 0, none⟩))) w') : wpList Tryz.prog ops Q (o :: rest) a w :=
  wpList_step fun K hK => by
    rw [if_pos hw]
    obtain ⟨z1, z2⟩ := tg_zero (w := w) (T := 114) rfl
    have := hK _ _ (h _ z1 z2)
    rw [← hd] at this
    unfold Oper.wp
    simp only [execOp, ho]
    simpa [go_sem] using this
theorem tl_loads {ops : Array Oper} {rest : List Oper} {o : Oper} {a : Act} {Q : Exit → Act → World → Prop} {w : World} {R : Nat} {T : TypeId} {ep nx gv : Int} {r l : Value} {ws : Nat → Value} {c he no bd : Int} {tail : List Value} (x : Operand) (ho : o.op = .load 92 x) (hw : Region.wanted o (yielded ops a.tmps) = true) (hx : a.eval x = .pointer (some ⟨R, 0, none⟩)) (tb : tlBlock w R T ep nx gv r l ws c he no bd tail)
    (h : wpList Tryz.prog ops Q rest (a.put o.dst (qVal ep nx gv r l ws)) w) : wpList Tryz.prog ops Q (o :: rest) a w :=
  wpList_step fun K hK => by
    rw [if_pos hw]
    exact wp_load_mid 92 x ho R 0 hx (qList ep nx gv r l ws) _ tb.range Tryz.underlying92 rfl (by rw [qList_len]; kernel_rfl) (hK _ _ h)
theorem ret_Replay {W : World} {Z : Nat} {ep nx gv : Int} {r l : Value} {ws : Nat → Value} {er : Int} {tmps : Array Value} (q : qBlock W Z ep nx gv r l ws) (t2 : tmps[2]? = some (.pointer (some ⟨Z, 0, none⟩))) (t3 : tmps[3]? = some (.int .i64 er)) :
    (results Tryz.f76 tmps).run Tryz.prog W = .ok (.tuple #[qVal ep nx gv r l ws, .int .i64 er]) W := by
  have h1 := run_loadVar_row (P := Tryz.prog) W Z 92 92 _ (0, 0) _ q Tryz.underlying92 rfl (by rw [qCells_size]; exact Tryz.infoQ)
  simp [results, Tryz.results76, t2, t3, asAddr, h1]
set_option maxRecDepth 20000 in
theorem run_queue_zero (w : World) : (Instr.build 92 #[]).run Tryz.prog w = .ok (qVal 0 0 0 (.slice none 0 0) (.slice none 0 0) zeroW) w := by
  simp [Instr.build, run_underlying Tryz.underlying92, Tryz.zeroValue92, go_sem]
  rfl
theorem q_build0 {ops : Array Oper} {rest : List Oper} {o : Oper} {a : Act} {Q : Exit → Act → World → Prop} {w : World} (ho : o.op = .build 92 #[]) (hw : Region.wanted o (yielded ops a.tmps) = true)
    (h : wpList Tryz.prog ops Q rest (a.put o.dst (qVal 0 0 0 (.slice none 0 0) (.slice none 0 0) zeroW)) w) : wpList Tryz.prog ops Q (o :: rest) a w :=
  wpList_step fun K hK => by
    rw [if_pos hw]
    have hrun := run_queue_zero w
    have := hK _ _ h
    unfold Oper.wp
    simp only [execOp, ho]
    simp only [List.map_toArray, List.map_nil]
    simp [hrun, Result.andThen]
    exact this
/-- all of a history, or up to an event that changes nothing. -/
structure Rp (w : World) (Z R : Nat) (T : TypeId) (tail : List Value) (es : List Ev) (k : Nat) (W : World) : Prop where
  told : ∃ s ans an, Tells (es.take k) s ans ∧ Tg W R T tail s an
  box : qBlock W Z 0 0 0 (.slice none 0 0) (.slice none 0 0) zeroW
  bel : Below w.heap.size w W
  upZ : w.heap.size ≤ Z
  upR : Z < R
/-- events that are no history: one may not be, or changes nothing. -/
def Stuck (es : List Ev) : Prop := ∃ k s ans, ∃ hk : k < es.length, Tells (es.take k) s ans ∧ (¬ es[k].Ok ∨ ∃ s' an, Step s es[k] s' an false)
structure Rj (w : World) (Z : Nat) (es : List Ev) (W : World) : Prop where
  stuck : Stuck es
  box : qBlock W Z 0 0 0 (.slice none 0 0) (.slice none 0 0) zeroW
  bel : Below w.heap.size w W
theorem Off.toBelow {R n : Nat} {w W W' : World} (o : Off R n W W') (b : Below w.heap.size w W) (hR : w.heap.size ≤ R) (hn : n = W.heap.size) : Below w.heap.size w W' :=
  ⟨o.os.trans b.os, o.tape.trans b.tape, o.output.trans b.output, Nat.le_trans b.size o.size, fun k hk => (o.block k (by have := b.size; omega) (by omega)).trans (b.block k hk)⟩
theorem Off.qbox {R n Z : Nat} {W W' : World} {ep nx gv : Int} {r l : Value} {ws : Nat → Value} (o : Off R n W W') (q : qBlock W Z ep nx gv r l ws) (hZ : Z ≠ R) (hn : n = W.heap.size) : qBlock W' Z ep nx gv r l ws := by
  have := q.lt
  unfold qBlock at q ⊢
  rw [o.block Z (by omega) hZ]; exact q
theorem tell_spec (w : World) (Z R : Nat) (T : TypeId) (es : List Ev) : EachSpec 83 (.pointer (some ⟨R, 0, none⟩)) es (Rp w Z R T [] es) (Rj w Z es) where
  enters := enters_of Tryz.func83 (by kernel_rfl) rfl
  step := by
    intro k hk W hI
    obtain ⟨s, ans, an, ht, hg⟩ := hI.told
    refine (tell_any s an es[k] W R T [] ht.wf.ok hg).mono ?_
    rintro e w' ⟨s', an', ch, er, rfl, st, h1, h2, o⟩
    have hZR := hI.upR
    have bel := o.toBelow hI.bel (by have := hI.upZ; omega) rfl
    have box := o.qbox hI.box (by omega) rfl
    cases st with
    | @step _ _ _ hv st =>
      cases ch with
      | true =>
        refine .inl ⟨rfl, ⟨s', ans ++ [an'], an', ?_, h1 rfl⟩, box, bel, hI.upZ, hI.upR⟩
        rw [List.take_succ_eq_append_getElem hk]
        exact .snoc ht hv st
      | false => exact .inr ⟨rfl, ⟨k, s, ans, hk, ht, .inr ⟨s', an', st⟩⟩, box, bel⟩
    | form _ hv h0 => exact .inr ⟨rfl, ⟨k, s, ans, hk, ht, .inl (fun hok => h0 (hv.symm.trans hok))⟩, box, bel⟩
  keep := by
    intro k W W' hI b
    obtain ⟨s, ans, an, ht, hg⟩ := hI.told
    exact ⟨⟨s, ans, an, ht, hg.next b⟩, hI.box.next b, Below.next hI.bel b, hI.upZ, hI.upR⟩
/-- what Replay answers. -/
inductive Rv (es : List Ev) : St → Int → Prop
  | size (h : 2000 < es.length) : Rv es St.zero 1
  | form (h : es.length ≤ 2000) (bad : Stuck es) : Rv es St.zero 3
  | told {s : St} (ans : List An) (h : es.length ≤ 2000) (ht : Tells es s ans) : Rv es s 0
theorem each_size (g R n : Nat) (a : Option Addr) (cap : Nat) (w : World) (hl : 2000 < n) :
    Calls Tryz.prog 82 #[.slice a n cap, .func (.func g) #[.pointer (some ⟨R, 0, none⟩)] #[]] w fun e w' => e = .returned (.int .i64 1) ∧ Below w.heap.size w w' := by
  go_enter Tryz.func82, Tryz.ntmps82
  go_wp2
  go_ret
  exact ⟨rfl, Below.refl _ _⟩
structure Rk (w : World) (Z : Nat) (es : List Ev) (er : Int) (W : World) : Prop where
  why : ¬ er = 0 ∧ Rv es St.zero er
  box : qBlock W Z 0 0 0 (.slice none 0 0) (.slice none 0 0) zeroW
  bel : Below w.heap.size w W
set_option maxRecDepth 20000 in
set_option maxHeartbeats 4000000 in
theorem replay_all (es : List Ev) (a : Option Addr) (cap : Nat) (w : World) (hr : RowK .i64 w a (6 * es.length) (evFlat es)) :
    Calls Tryz.prog 76 #[.slice a es.length cap] w fun e w' => ∃ x er s, e = .returned (.tuple #[x, .int .i64 er]) ∧ Rv es s er ∧ QOut w w' s x ∧ Below w.heap.size w w' := by
  go_enter Tryz.func76, Tryz.ntmps76
  go_upto_region 2 with (first
    | (refine q_alloc 2 rfl rfl rfl ?_; intro W1 z1 b1)
    | (refine t_alloc 4 rfl rfl rfl ?_; intro W2 g2 b2))
  have HE2 : Calls Tryz.prog 82 #[.slice a es.length cap, .func (.func 83) #[.pointer (some ⟨W1.heap.size, 0, none⟩)] #[]] W2 fun e w' => ∃ er : Int, e = .returned (.int .i64 er) ∧ Hid ((er = 0 ∧ es.length ≤ 2000 ∧ Rp w w.heap.size W1.heap.size 114 [] es es.length w') ∨ Rk w w.heap.size es er w') := by
    by_cases hl : es.length ≤ 2000
    · have I0 : Rp w w.heap.size W1.heap.size 114 [] es 0 W2 := ⟨⟨St.zero, [], An.zero, by simpa using Tells.nil, g2⟩, z1.next b2, Below.next b1 b2, Nat.le_refl _, z1.lt⟩
      refine (each_any 83 W1.heap.size es _ _ (tell_spec w w.heap.size W1.heap.size 114 es) a cap W2 I0 hl (fun k W hI => hr.below hI.bel)).mono ?_
      rintro e w' (⟨rfl, h1⟩ | ⟨rfl, h1⟩)
      · exact ⟨0, rfl, veil (.inl ⟨rfl, hl, h1⟩)⟩
      · exact ⟨3, rfl, veil (.inr ⟨⟨by decide, .form hl h1.stuck⟩, h1.box, h1.bel⟩)⟩
    · refine (each_size _ _ _ a cap W2 (by omega)).mono ?_
      rintro e w' ⟨rfl, b3⟩
      exact ⟨1, rfl, veil (.inr ⟨⟨by decide, .size (by omega)⟩, (z1.next b2).next b3, Below.next (Below.next b1 b2) b3⟩)⟩
  clear z1 b1 g2 b2
  go_upto_region 3 with (go_at_call 82; refine HE2.mono ?_; rintro e W3 ⟨er, rfl, HH⟩; clear HE2)
  rcases unveil HH with ⟨rfl, hl, hI⟩ | hJ
  · obtain ⟨s, ans, an, ht, hg⟩ := hI.told
    rw [List.take_length] at ht
    obtain ⟨a1, c1, a2, c2, ws, tb, r1, r2, n1, n2, hW, x1, x2, l1, l2⟩ := hg.ex
    have z3 := hI.box
    have B3 := hI.bel
    have hZR := hI.upR
    have HT := veil ht
    clear hI hg ht HH
    go_wp2_with (first
      | (refine tl_loads _ rfl rfl rfl tb ?_)
      | (refine q_store (ra := a1) (la := a2) (ws' := ws) _ _ rfl rfl rfl rfl z3 hW ?_; intro W4 q4 t4; have HQ4 := veil q4; have HT4 := veil t4; clear q4 t4))
    have t4 := unveil HT4
    exact bodyPost_ret (ret_Replay (unveil HQ4) rfl rfl) rfl ⟨_, 0, s, rfl, .told ans hl (unveil HT), ⟨a1, c1, a2, c2, ws, rfl, t4.row r1 (fun x hx _ => by have := x1 x hx; omega), t4.row r2 (fun x hx _ => by have := x2 x hx; omega), l1, l2, n1, n2, hW, fun x hx => by have := x1 x hx; omega, fun x hx => by have := x2 x hx; omega⟩, t4.under B3 (Nat.le_refl _)⟩
  · have z3 := hJ.box
    have B3 := hJ.bel
    have h0 := hJ.why.1
    have HS := veil hJ.why.2
    clear hJ HH
    go_wp2_with (first
      | (refine q_build0 rfl rfl ?_)
      | (refine q_store (ra := none) (la := none) (rn := 0) (rc := 0) (ln := 0) (lc := 0) (ws' := zeroW) _ _ rfl rfl rfl rfl z3 zeroWins ?_; intro W4 q4 t4; have HQ4 := veil q4; have HT4 := veil t4; clear q4 t4))
    have t4 := unveil HT4
    exact bodyPost_ret (ret_Replay (unveil HQ4) rfl rfl) rfl ⟨_, er, St.zero, rfl, unveil HS, ⟨none, 0, none, 0, zeroW, rfl, RowK.nil _ _ _, RowK.nil _ _ _, Nat.le_refl _, Nat.le_refl _, fun _ => rfl, fun _ => rfl, zeroWins, fun x hx => (by cases hx), fun x hx => (by cases hx)⟩, t4.under B3 (Nat.le_refl _)⟩
theorem replay_any (es : List Ev) (a : Option Addr) (cap : Nat) (w : World) (hr : RowK .i64 w a (6 * es.length) (evFlat es)) (hl : es.length ≤ 2000) (hok : ∀ v ∈ es, v.Ok) :
    Calls Tryz.prog 76 #[.slice a es.length cap] w fun e w' => ∃ x er, e = .returned (.tuple #[x, .int .i64 er]) ∧ Below w.heap.size w w' ∧
      ((er = 0 ∧ ∃ s ans, Tells es s ans ∧ QOut w w' s x) ∨ (er = 3 ∧ (∃ k s ans s' an, ∃ hk : k < es.length, Tells (es.take k) s ans ∧ Step s es[k] s' an false) ∧ QOut w w' St.zero x)) := by
  refine (replay_all es a cap w hr).mono ?_
  rintro e w' ⟨x, er, s, rfl, rv, q, b⟩
  cases rv with
  | size h => omega
  | form h bad =>
    obtain ⟨k, s, ans, hk, ht, h1 | ⟨s', an, st⟩⟩ := bad
    · exact absurd (hok _ (List.getElem_mem hk)) h1
    · exact ⟨x, 3, rfl, b, .inr ⟨rfl, ⟨k, s, ans, s', an, hk, ht, st⟩, q⟩⟩
  | told ans h ht => exact ⟨x, 0, rfl, b, .inl ⟨rfl, s, ans, ht, q⟩⟩
/-- who is stuck is no history. -/
theorem Tells.nostuck {es : List Ev} {s : St} {ans : List An} (h : Tells es s ans) (bad : Stuck es) : False := by
  obtain ⟨k, s0, ans0, hk, ht, h1⟩ := bad
  obtain ⟨s1, an1, st1, hv⟩ := h.step hk ht
  rcases h1 with h1 | ⟨s', an, st⟩
  · exact h1 hv
  · have := (st1.det ht.wf st).2.2
    cases this
/-- Replay's answer is one. -/
theorem Rv.one {es : List Ev} {s s' : St} {er er' : Int} (h : Rv es s er) (h' : Rv es s' er') : s = s' ∧ er = er' := by
  cases h with
  | size h => cases h' with
    | size => exact ⟨rfl, rfl⟩
    | form h2 => omega
    | told _ h2 => omega
  | form h bad => cases h' with
    | size h2 => omega
    | form => exact ⟨rfl, rfl⟩
    | told ans h2 ht => exact (ht.nostuck bad).elim
  | told ans h ht => cases h' with
    | size h2 => omega
    | form h2 bad => exact (ht.nostuck bad).elim
    | told ans2 h2 ht2 => exact ⟨(ht.one ht2).1, rfl⟩
end Go.Proofs.YtcdopnkabbfooaaGreat

namespace Go.Proofs.YtcdopnkabbfooaaGreat
open Go.RowKit

theorem Tells.counts {es : List Ev} {s : St} {ans : List An} (h : Tells es s ans) : s.nx = cnt es 1 ∧ s.ep = cnt es 4 ∧ s.rn + s.ln + cnt es 3 = cnt es 1 ∧ s.gv ≤ es.length := by
  induction h with
  | nil => exact ⟨rfl, rfl, rfl, by decide⟩
  | @snoc es s s' ans v an h hv st ih =>
    obtain ⟨i1, i2, i3, i4⟩ := ih
    have h1 := cnt_snoc es v 1
    have h3 := cnt_snoc es v 3
    have h4 := cnt_snoc es v 4
    have hl : (es ++ [v]).length = es.length + 1 := by simp
    cases st with
    | pub hk _ _ _ _ =>
      rw [hk] at h1 h3 h4
      simp at h1 h3 h4
      refine ⟨?_, ?_, ?_, ?_⟩
      · show s.nx + 1 = _; omega
      · show s.ep = _; omega
      · show s.rn + 1 + s.ln + _ = _; omega
      · show s.gv ≤ _; omega
    | recv hk _ _ =>
      rw [hk] at h1 h3 h4
      simp at h1 h3 h4
      refine ⟨?_, ?_, ?_, ?_⟩
      · show s.nx = _; omega
      · show s.ep = _; omega
      · show s.rn - 1 + (s.ln + 1) + _ = _; omega
      · show s.gv + 1 ≤ _; omega
    | ack hk _ m hm _ =>
      rw [hk] at h1 h3 h4
      simp at h1 h3 h4
      refine ⟨?_, ?_, ?_, ?_⟩
      · show s.nx = _; omega
      · show s.ep = _; omega
      · show s.rn + (s.ln - 1) + _ = _; omega
      · show s.gv ≤ _; omega
    | stop hk _ R' _ =>
      rw [hk] at h1 h3 h4
      simp at h1 h3 h4
      refine ⟨?_, ?_, ?_, ?_⟩
      · show s.nx = _; omega
      · show s.ep + 1 = _; omega
      · show s.rn + s.ln + 0 + _ = _; omega
      · show (0 : Int) ≤ _; omega
theorem Tells.len {es : List Ev} {s : St} {ans : List An} (h : Tells es s ans) : ans.length = es.length := by
  induction h with
  | nil => rfl
  | snoc h hv st ih => simp [ih]
/-- whoever is stuck is stuck at an event that changes nothing: not within a history. -/
theorem Tells.free {es : List Ev} {s : St} {ans : List An} (h : Tells es s ans) (bad : ∃ k s ans s' an, ∃ hk : k < es.length, Tells (es.take k) s ans ∧ Step s es[k] s' an false) : False := by
  obtain ⟨k, s0, ans0, s', an, hk, ht, st⟩ := bad
  obtain ⟨s1, an1, st1, _⟩ := h.step hk ht
  have := (st1.det ht.wf st).2.2
  cases this
theorem Tells.more {es : List Ev} {s : St} {ans : List An} (h : Tells es s ans) {v : Ev} (bad : ∃ k s ans s' an, ∃ hk : k < (es ++ [v]).length, Tells ((es ++ [v]).take k) s ans ∧ Step s (es ++ [v])[k] s' an false) : ∃ s' an, Step s v s' an false := by
  obtain ⟨k, s0, ans0, s', an, hk, ht, st⟩ := bad
  rcases Nat.lt_or_ge k es.length with h1 | h1
  · exfalso
    refine h.free ⟨k, s0, ans0, s', an, h1, ?_, ?_⟩
    · rw [List.take_append_of_le_length (by omega)] at ht; exact ht
    · rw [List.getElem_append_left h1] at st; exact st
  · have hk2 : k = es.length := by simp at hk; omega
    subst hk2
    rw [List.take_left' rfl] at ht
    obtain ⟨rfl, _⟩ := h.one ht
    rw [List.getElem_append_right (Nat.le_refl _)] at st
    simp at st
    exact ⟨s', an, st⟩
/-- Replay, of a list that is spelt by its length. -/
theorem replay_at (es : List Ev) (n : Nat) (hn : es.length = n) (a : Option Addr) (cap : Nat) (w : World) (hr : RowK .i64 w a (6 * n) (evFlat es)) (hl : n ≤ 2000) (hok : ∀ v ∈ es, v.Ok) :
    Calls Tryz.prog 76 #[.slice a n cap] w fun e w' => ∃ x er, e = .returned (.tuple #[x, .int .i64 er]) ∧ Below w.heap.size w w' ∧
      ((er = 0 ∧ ∃ s ans, Tells es s ans ∧ QOut w w' s x) ∨ (er = 3 ∧ (∃ k s ans s' an, ∃ hk : k < es.length, Tells (es.take k) s ans ∧ Step s es[k] s' an false) ∧ QOut w w' St.zero x)) := by
  subst hn
  exact replay_any es a cap w hr hl hok
/-- Replay of a history. -/
theorem replay_yes (es : List Ev) (n : Nat) (hn : es.length = n) (s : St) (ans : List An) (ht : Tells es s ans) (a : Option Addr) (cap : Nat) (w : World) (hr : RowK .i64 w a (6 * n) (evFlat es)) (hl : n ≤ 2000) (hok : ∀ v ∈ es, v.Ok) :
    Calls Tryz.prog 76 #[.slice a n cap] w fun e w' => ∃ x, e = .returned (.tuple #[x, .int .i64 0]) ∧ QOut w w' s x ∧ Below w.heap.size w w' := by
  refine (replay_at es n hn a cap w hr hl hok).mono ?_
  rintro e w' ⟨x, er, rfl, b, ⟨rfl, s1, ans1, h1, q⟩ | ⟨rfl, h1, _⟩⟩
  · obtain ⟨rfl, _⟩ := ht.one h1
    exact ⟨x, rfl, q, b⟩
  · exact absurd h1 (fun h => ht.free h)
/-- Replay of a history with an event behind it that changes nothing. -/
theorem replay_no (es : List Ev) (v : Ev) (n : Nat) (hn : (es ++ [v]).length = n) (s : St) (ans : List An) (ht : Tells es s ans) (hv : ∀ s' an, ¬ Step s v s' an true) (a : Option Addr) (cap : Nat) (w : World) (hr : RowK .i64 w a (6 * n) (evFlat (es ++ [v]))) (hl : n ≤ 2000) (hok : ∀ u ∈ es ++ [v], u.Ok) :
    Calls Tryz.prog 76 #[.slice a n cap] w fun e w' => ∃ x, e = .returned (.tuple #[x, .int .i64 3]) ∧ QOut w w' St.zero x ∧ Below w.heap.size w w' := by
  refine (replay_at (es ++ [v]) n hn a cap w hr hl hok).mono ?_
  rintro e w' ⟨x, er, rfl, b, ⟨rfl, s1, ans1, h1, q⟩ | ⟨rfl, h1, q⟩⟩
  · obtain ⟨s0, ans0, an, h2, _, st, _⟩ := h1.last
    obtain ⟨rfl, _⟩ := ht.one h2
    exact absurd st (hv _ _)
  · exact ⟨x, rfl, q, b⟩
end Go.Proofs.YtcdopnkabbfooaaGreat

namespace Go.Proofs.YtcdopnkabbfooaaGreat
open Go.RowKit

/-- a berth's numbers and events. -/
structure Bt where
  r : Int
  e : Int
  f : Int
  t : Int
  o : Int
  es : List Ev
def Bt.zero : Bt := ⟨0, 0, 0, 0, 0, []⟩
/-- as far as one sees without the events being told. -/
def standP (r e f t o : Int) (n : Nat) : Prop :=
  (r = 0 ∧ n = 0 ∧ 0 ≤ e ∧ e ≤ 1048576 ∧ f = 0 ∧ t = 0 ∧ o = 0) ∨
  (r = 1 ∧ 1 ≤ e ∧ e ≤ 1048576 ∧ f = 0 ∧ t = 0 ∧ o = 0) ∨
  (r = 2 ∧ 1 ≤ e ∧ e ≤ 1048576 ∧ f = 0 ∧ 0 ≤ t ∧ t ≤ 4 ∧ 0 ≤ o ∧ o ≤ 4) ∨
  (r = 3 ∧ 1 ≤ e ∧ e ≤ 1048576 ∧ f = 0 ∧ 0 ≤ t ∧ t ≤ 4 ∧ o = 0) ∨
  (r = 4 ∧ 1 ≤ e ∧ e ≤ 1048576 ∧ 0 ≤ f ∧ f ≤ 4 ∧ t = 0 ∧ o = 0)
instance (r e f t o : Int) (n : Nat) : Decidable (standP r e f t o n) := by unfold standP; infer_instance
def Bt.Stand (B : Bt) : Prop := standP B.r B.e B.f B.t B.o B.es.length
/-- a berth that may be. -/
structure Bt.Ok (B : Bt) : Prop where
  stand : B.Stand
  len : B.es.length ≤ 2000
  told : ∃ s ans, Tells B.es s ans
theorem Bt.zero_ok : Bt.zero.Ok := ⟨.inl ⟨rfl, rfl, by decide, by decide, rfl, rfl, rfl⟩, by decide, St.zero, [], .nil⟩
theorem Rv.ok {B : Bt} {s : St} {er : Int} (h : Rv B.es s er) (hs : B.Stand) : er = 0 ↔ B.Ok := by
  constructor
  · intro h0
    cases h with
    | size => omega
    | form => omega
    | told ans hl ht => exact ⟨hs, hl, s, ans, ht⟩
  · intro ok
    obtain ⟨s', ans, ht⟩ := ok.told
    exact (h.one (.told ans ok.len ht)).2
/-- the Break. -/
def Ev.brk : Ev := ⟨4, 0, 0, 0, 0, 0⟩
theorem Ev.brk_ok : Ev.brk.Ok := by
  unfold Ev.Ok Ev.brk eventFault
  simp
open Classical in
noncomputable def makeOf (B : Bt) (ep : Int) : Bt × Int :=
  if ¬ B.Ok then (Bt.zero, 6) else if ¬ (1 ≤ ep ∧ ep ≤ 1048576) then (Bt.zero, 2) else if ¬ B.r = 0 then (Bt.zero, 8) else if ep ≤ B.e then (Bt.zero, 15) else (⟨1, ep, 0, 0, 0, []⟩, 0)
open Classical in
noncomputable def goesOf (B : Bt) (nd : Int) : Bt × Int :=
  if ¬ B.Ok then (Bt.zero, 6) else if ¬ (0 ≤ nd ∧ nd ≤ 4) then (Bt.zero, 2) else if B.r = 2 ∨ B.r = 3 then (Bt.zero, 12) else if ¬ B.r = 1 then (Bt.zero, 7) else if B.e = 1048576 then (Bt.zero, 14) else (⟨2, B.e, B.f, nd, B.o, B.es⟩, 0)
open Classical in
noncomputable def tellOf (B : Bt) (hv : Int) : Int :=
  if ¬ B.Ok then 6 else if ¬ (B.r = 2 ∨ B.r = 3) then 7 else if ¬ (0 ≤ hv ∧ hv ≤ B.es.length) then 2 else 0
noncomputable def caughtOf (B : Bt) (hv : Int) : Bt × Int :=
  if ¬ tellOf B hv = 0 then (Bt.zero, tellOf B hv) else if B.r = 3 then (B, 0) else if hv = B.es.length ∨ B.o = 4 then (⟨3, B.e, B.f, B.t, 0, B.es⟩, 0) else (⟨B.r, B.e, B.f, B.t, B.o + 1, B.es⟩, 0)
noncomputable def partOf (B : Bt) (hv : Int) : List Ev × Bool × Int :=
  if ¬ tellOf B hv = 0 then ([], false, tellOf B hv) else ((B.es.drop hv.toNat).take 3, decide (B.r = 3 ∧ B.es.length ≤ hv.toNat + 3), 0)
open Classical in
noncomputable def beginOf (B : Bt) (ep fr : Int) : Bt × Int :=
  if ¬ B.Ok then (Bt.zero, 6) else if ¬ ((1 ≤ ep ∧ ep ≤ 1048576) ∧ (0 ≤ fr ∧ fr ≤ 4)) then (Bt.zero, 2) else if B.r = 1 ∨ B.r = 2 ∨ B.r = 3 then (Bt.zero, 8)
  else if B.r = 4 ∧ B.e = ep ∧ B.f = fr then (B, 0) else if ep ≤ B.e then (Bt.zero, 15) else (⟨4, ep, fr, 0, 0, []⟩, 0)
open Classical in
noncomputable def forgetOf (B : Bt) (ep : Int) : Bt × Int :=
  if ¬ B.Ok then (Bt.zero, 6) else if ¬ B.r = 3 then (Bt.zero, 7) else if ep ≤ B.e then (Bt.zero, 15) else (⟨0, B.e, 0, 0, 0, []⟩, 0)
/-- a berth that serves from now on, with a Break behind its events. -/
def Bt.broken (B : Bt) : Bt := ⟨1, B.e, 0, 0, 0, B.es ++ [Ev.brk]⟩
def Bt.more (B : Bt) (l : List Ev) : Bt := ⟨B.r, B.e, B.f, B.t, B.o, B.es ++ l⟩
open Classical in
noncomputable def wakeOf (B : Bt) : Bt × Int :=
  if ¬ B.Ok then (Bt.zero, 6) else if ¬ (B.r = 1 ∨ B.r = 2) then (B, 0) else if ¬ B.broken.Ok then (Bt.zero, 14) else (B.broken, 0)
/-- what comes goes together with what is there. -/
def Fits (hv come : List Ev) (last : Bool) : Prop := come.take hv.length = hv.take come.length ∧ (last = true → hv.length ≤ come.length)
open Classical in
noncomputable def importOf (B : Bt) (ep at' : Int) (l : List Ev) (last : Bool) : Bt × Int :=
  if ¬ B.Ok then (Bt.zero, 6) else if ¬ B.r = 4 then (Bt.zero, 7) else if ¬ B.e = ep then (Bt.zero, 15) else if ¬ (0 ≤ at' ∧ at' ≤ B.es.length) then (Bt.zero, 2)
  else if ¬ (l.length ≤ 2000 ∧ Fits (B.es.drop at'.toNat) l last) then (Bt.zero, 3)
  else if ¬ (if last then (B.more (l.drop (B.es.length - at'.toNat))).broken else B.more (l.drop (B.es.length - at'.toNat))).Ok then (Bt.zero, 3)
  else (if last then (B.more (l.drop (B.es.length - at'.toNat))).broken else B.more (l.drop (B.es.length - at'.toNat)), 0)
/-- what Serve answers. -/
inductive ServeR (B : Bt) (v : Ev) : Bt → An → Bool → Int → Prop
  | state (h : ¬ B.Ok) : ServeR B v Bt.zero An.zero false 6
  | fault (h : B.Ok) (f : Int) (hf : eventFault v.k v.p v.i v.b v.he v.hn = f) (h0 : ¬ f = 0) : ServeR B v Bt.zero An.zero false f
  | brk (h : B.Ok) (hv : v.Ok) (hk : v.k = 4) : ServeR B v Bt.zero An.zero false 3
  | shut (h : B.Ok) (hv : v.Ok) (hk : ¬ v.k = 4) (hr : B.r = 3) : ServeR B v B ⟨12, 0, 0, 0⟩ false 0
  | none (h : B.Ok) (hv : v.Ok) (hk : ¬ v.k = 4) (hr : B.r = 0 ∨ B.r = 4) : ServeR B v B ⟨7, 0, 0, 0⟩ false 0
  | same (h : B.Ok) (hv : v.Ok) (hk : ¬ v.k = 4) (hr : B.r = 1 ∨ B.r = 2) (s : St) (ans : List An) (ht : Tells B.es s ans) (s' : St) (an : An) (st : Step s v s' an false) : ServeR B v B an false 0
  | full (h : B.Ok) (hv : v.Ok) (hk : ¬ v.k = 4) (hr : B.r = 1 ∨ B.r = 2) (s : St) (ans : List An) (ht : Tells B.es s ans) (s' : St) (an : An) (st : Step s v s' an true) (hl : 1999 ≤ B.es.length) : ServeR B v B ⟨14, 0, 0, 0⟩ false 0
  | done (h : B.Ok) (hv : v.Ok) (hk : ¬ v.k = 4) (hr : B.r = 1 ∨ B.r = 2) (s : St) (ans : List An) (ht : Tells B.es s ans) (s' : St) (an : An) (st : Step s v s' an true) (hl : B.es.length < 1999) : ServeR B v (B.more [v]) an true 0
/-- a berth in memory. -/
abbrev bCells (r e f t o : Int) (a : Option Addr) (n c : Nat) : Array Value := #[.int .i64 r, .int .i64 e, .int .i64 f, .int .i64 t, .int .i64 o, .slice a n c]
abbrev bVal (r e f t o : Int) (a : Option Addr) (n c : Nat) : Value := .agg (bCells r e f t o a n c)
def bBlock (w : World) (R : Nat) (r e f t o : Int) (a : Option Addr) (n c : Nat) : Prop := w.heap[R]? = some (.cells (bCells r e f t o a n c) 24 (0, 0))
section
variable {w w' : World} {R : Nat} {r e f t o : Int} {a : Option Addr} {n c : Nat}
theorem bBlock.cells (h : bBlock w R r e f t o a n c) : w.cell? ⟨R, 0, none⟩ = some (.int .i64 r) ∧ w.cell? ⟨R, 1, none⟩ = some (.int .i64 e) ∧ w.cell? ⟨R, 2, none⟩ = some (.int .i64 f) ∧ w.cell? ⟨R, 3, none⟩ = some (.int .i64 t) ∧ w.cell? ⟨R, 4, none⟩ = some (.int .i64 o) ∧ w.cell? ⟨R, 5, none⟩ = some (.slice a n c) := by
  unfold bBlock at h; simp [World.cell?, h]
theorem bBlock.lt (h : bBlock w R r e f t o a n c) : R < w.heap.size := by
  unfold bBlock at h
  rcases Nat.lt_or_ge R w.heap.size with h' | h'
  · exact h'
  · simp [Array.getElem?_eq_none h'] at h
theorem bBlock.below {N : Nat} (h : bBlock w R r e f t o a n c) (hb : Below N w w') (hR : R < N) : bBlock w' R r e f t o a n c := by
  unfold bBlock at h ⊢; rw [← h]; exact hb.block R hR
theorem bBlock.next (h : bBlock w R r e f t o a n c) (hb : Below w.heap.size w w') : bBlock w' R r e f t o a n c := h.below hb h.lt
theorem bBlock.free (h : bBlock w R r e f t o a n c) (k : Nat) : w.frozen? ⟨R, k, none⟩ = false := by
  unfold bBlock at h; simp [World.frozen?, h]
theorem bBlock.turned {R' : Nat} (h : bBlock w R r e f t o a n c) (tn : Turned R' w w') (hR : R ≠ R') : bBlock w' R r e f t o a n c := by
  unfold bBlock at h ⊢; rw [tn.block R hR]; exact h
theorem bBlock.new (w : World) (r e f t o : Int) (a : Option Addr) (n c : Nat) : bBlock (w.alloc (.cells (bCells r e f t o a n c) 24)) w.heap.size r e f t o a n c := heap_alloc_new w _
theorem heap_setB {k : Nat} {cs : Array Value} {T : TypeId} {v : Value} (h : w.heap[R]? = some (.cells cs T (0, 0))) : (w.setCell ⟨R, k, none⟩ v).heap[R]? = some (.cells (cs.set! k v) T (0, 0)) := by
  rw [setCell_eq_setRow w R k _ _ (0, 0) _ h, setRow_heap w R _ _ _ _ h]
  rfl
/-- a berth stored whole. -/
abbrev bStore (w : World) (R : Nat) (r e f t o : Int) (a : Option Addr) (n c : Nat) : World := (((((w.setCell ⟨R, 0, none⟩ (.int .i64 r)).setCell ⟨R, 1, none⟩ (.int .i64 e)).setCell ⟨R, 2, none⟩ (.int .i64 f)).setCell ⟨R, 3, none⟩ (.int .i64 t)).setCell ⟨R, 4, none⟩ (.int .i64 o)).setCell ⟨R, 5, none⟩ (.slice a n c)
theorem bBlock.store (h : bBlock w R r e f t o a n c) (r' e' f' t' o' : Int) (a' : Option Addr) (n' c' : Nat) : bBlock (bStore w R r' e' f' t' o' a' n' c') R r' e' f' t' o' a' n' c' := by
  unfold bBlock at h ⊢
  rw [heap_setB (heap_setB (heap_setB (heap_setB (heap_setB (heap_setB h)))))]
  simp
theorem bBlock.turn (w : World) (R : Nat) (r e f t o : Int) (a : Option Addr) (n c : Nat) : Turned R w (bStore w R r e f t o a n c) :=
  (((((Turned.set R 0 w _).trans (Turned.set R 1 _ _)).trans (Turned.set R 2 _ _)).trans (Turned.set R 3 _ _)).trans (Turned.set R 4 _ _)).trans (Turned.set R 5 _ _)
end
/-- a berth that came in: its events. -/
structure BIn (w : World) (B : Bt) (a : Option Addr) (c : Nat) : Prop where
  row : RowK .i64 w a (6 * B.es.length) (evFlat B.es)
  cap : B.es.length ≤ c
  nil : a = none → c = 0
theorem BIn.next {w w' : World} {B : Bt} {a : Option Addr} {c : Nat} (h : BIn w B a c) (b : Below w.heap.size w w') : BIn w' B a c := ⟨h.row.below b, h.cap, h.nil⟩
theorem BIn.turned {w w' : World} {B : Bt} {a : Option Addr} {c R : Nat} (h : BIn w B a c) (t : Turned R w w') (hR : ∀ x, a = some x → 0 < B.es.length → x.block ≠ R) : BIn w' B a c := ⟨t.row h.row (fun x hx h0 => hR x hx (by omega)), h.cap, h.nil⟩
/-- a berth that is answered. -/
structure BOut (w w' : World) (B : Bt) (x : Value) : Prop where
  ex : ∃ a c, x = bVal B.r B.e B.f B.t B.o a B.es.length c ∧ BIn w' B a c ∧ (∀ x, a = some x → w.heap.size ≤ x.block)
theorem BOut.zero (w w' : World) : BOut w w' Bt.zero (bVal 0 0 0 0 0 none 0 0) := ⟨none, 0, rfl, ⟨RowK.nil _ _ _, Nat.le_refl _, fun _ => rfl⟩, fun x hx => by cases hx⟩
end Go.Proofs.YtcdopnkabbfooaaGreat

namespace Go.Proofs.YtcdopnkabbfooaaGreat
open Go.RowKit

theorem within_any (x m : Int) (w : World) : Calls Tryz.prog 70 #[.int .i64 x, .int .i64 m] w fun e w' => e = .returned (.bool (decide (0 ≤ x ∧ x ≤ m))) ∧ w' = w := by
  by_cases h1 : 0 ≤ x
  · by_cases h2 : x ≤ m
    · rw [decide_eq_true (show 0 ≤ x ∧ x ≤ m from ⟨h1, h2⟩)]
      go_enter Tryz.func70, Tryz.ntmps70
      go_wp2
      go_ret
      exact ⟨rfl, rfl⟩
    · rw [decide_eq_false (show ¬ (0 ≤ x ∧ x ≤ m) from fun h => h2 h.2)]
      go_enter Tryz.func70, Tryz.ntmps70
      go_wp2
      go_ret
      exact ⟨rfl, rfl⟩
  · rw [decide_eq_false (show ¬ (0 ≤ x ∧ x ≤ m) from fun h => h1 h.1)]
    go_enter Tryz.func70, Tryz.ntmps70
    go_wp2
    go_ret
    exact ⟨rfl, rfl⟩
theorem isEpoch_any (x : Int) (w : World) : Calls Tryz.prog 67 #[.int .i64 x] w fun e w' => e = .returned (.bool (decide (1 ≤ x ∧ x ≤ 1048576))) ∧ w' = w := by
  by_cases h1 : 1 ≤ x
  · by_cases h2 : x ≤ 1048576
    · rw [decide_eq_true (show 1 ≤ x ∧ x ≤ 1048576 from ⟨h1, h2⟩)]
      go_enter Tryz.func67, Tryz.ntmps67
      go_wp2
      go_ret
      exact ⟨rfl, rfl⟩
    · rw [decide_eq_false (show ¬ (1 ≤ x ∧ x ≤ 1048576) from fun h => h2 h.2)]
      go_enter Tryz.func67, Tryz.ntmps67
      go_wp2
      go_ret
      exact ⟨rfl, rfl⟩
  · rw [decide_eq_false (show ¬ (1 ≤ x ∧ x ≤ 1048576) from fun h => h1 h.1)]
    go_enter Tryz.func67, Tryz.ntmps67
    go_wp2
    go_ret
    exact ⟨rfl, rfl⟩
theorem isBerthNode_any (x : Int) (w : World) : Calls Tryz.prog 43 #[.int .i64 x] w fun e w' => e = .returned (.bool (decide (0 ≤ x ∧ x ≤ 4))) ∧ w' = w := by
  go_enter Tryz.func43, Tryz.ntmps43
  go_wp2_with (go_at_call 70; refine (within_any _ _ _).mono ?_; rintro e w1 ⟨rfl, rfl⟩)
  go_ret
  exact ⟨by simp, rfl⟩
section
variable (r e f t o : Int) (a : Option Addr) (n c : Nat) (w : World)
theorem serves_any : Calls Tryz.prog 72 #[bVal r e f t o a n c] w fun x w' => x = .returned (.bool (decide (r = 1 ∨ r = 2))) ∧ Below w.heap.size w w' := by
  by_cases h1 : r = 1
  · subst h1
    go_enter Tryz.func72, Tryz.ntmps72
    go_wp2
    go_ret
    exact ⟨by simp, below1 _ _⟩
  · by_cases h2 : r = 2
    · subst h2
      go_enter Tryz.func72, Tryz.ntmps72
      go_wp2
      go_ret
      exact ⟨by simp, below1 _ _⟩
    · rw [decide_eq_false (show ¬ (r = 1 ∨ r = 2) by omega)]
      go_enter Tryz.func72, Tryz.ntmps72
      go_wp2
      go_ret
      exact ⟨by simp [h1, h2], below1 _ _⟩
theorem isSource_any : Calls Tryz.prog 44 #[bVal r e f t o a n c] w fun x w' => x = .returned (.bool (decide (r = 2 ∨ r = 3))) ∧ Below w.heap.size w w' := by
  by_cases h1 : r = 2
  · subst h1
    go_enter Tryz.func44, Tryz.ntmps44
    go_wp2
    go_ret
    exact ⟨by simp, below1 _ _⟩
  · by_cases h2 : r = 3
    · subst h2
      go_enter Tryz.func44, Tryz.ntmps44
      go_wp2
      go_ret
      exact ⟨by simp, below1 _ _⟩
    · rw [decide_eq_false (show ¬ (r = 2 ∨ r = 3) by omega)]
      go_enter Tryz.func44, Tryz.ntmps44
      go_wp2
      go_ret
      exact ⟨by simp [h1, h2], below1 _ _⟩
end
theorem b_stored {w wx : World} {R N : Nat} {r e f t o : Int} {a : Option Addr} {n c : Nat} (h : bBlock wx R r e f t o a n c) (bel : Below N w wx) (hN : N ≤ R) (r' e' f' t' o' : Int) (a' : Option Addr) (n' c' : Nat) :
    ∃ W, W = (((((wx.setCell ⟨R, 0, none⟩ (.int .i64 r')).setCell ⟨R, 1, none⟩ (.int .i64 e')).setCell ⟨R, 2, none⟩ (.int .i64 f')).setCell ⟨R, 3, none⟩ (.int .i64 t')).setCell ⟨R, 4, none⟩ (.int .i64 o')).setCell ⟨R, 5, none⟩ (.slice a' n' c') ∧ bBlock W R r' e' f' t' o' a' n' c' ∧ Below N w W ∧ Turned R wx W :=
  ⟨_, rfl, h.store _ _ _ _ _ _ _ _, (bBlock.turn _ _ _ _ _ _ _ _ _ _).under bel hN, bBlock.turn _ _ _ _ _ _ _ _ _ _⟩
theorem load_berth {W : World} {R : Nat} {r e f t o : Int} {a : Option Addr} {n c : Nat} (d : bBlock W R r e f t o a n c) : (loadVar 24 ⟨R, 0, none⟩).run Tryz.prog W = .ok (bVal r e f t o a n c) W :=
  run_loadVar_row (P := Tryz.prog) W R 24 24 _ (0, 0) _ d Tryz.underlying24 rfl (by kernel_rfl)
theorem ret_refuse {W : World} {R : Nat} {r e f t o : Int} {a : Option Addr} {n c : Nat} {er : Int} {tmps : Array Value} (d : bBlock W R r e f t o a n c) (t2 : tmps[2]? = some (.pointer (some ⟨R, 0, none⟩))) (t3 : tmps[3]? = some (.int .i64 er)) :
    (results Tryz.f42 tmps).run Tryz.prog W = .ok (.tuple #[bVal r e f t o a n c, .int .i64 er]) W := by
  simp [results, Tryz.results42, t2, t3, asAddr, load_berth d]
theorem refuse_any (er : Int) (w : World) : Calls Tryz.prog 42 #[.int .i64 er] w fun x w' => x = .returned (.tuple #[bVal 0 0 0 0 0 none 0 0, .int .i64 er]) ∧ Below w.heap.size w w' := by
  go_enter Tryz.func42, Tryz.ntmps42
  go_upto_region 1 with fail
  obtain ⟨W, hW, z, b⟩ : ∃ W, W = w.alloc (.cells (bCells 0 0 0 0 0 none 0 0) 24) ∧ bBlock W w.heap.size 0 0 0 0 0 none 0 0 ∧ Below w.heap.size w W := ⟨_, rfl, bBlock.new _ _ _ _ _ _ _ _ _, below1 _ _⟩
  rw [← hW]
  clear hW
  obtain ⟨x0, x1, x2, x3, x4, x5⟩ := z.cells
  have zf := z.free
  have HZ := veil z
  have HB := veil b
  clear z b
  go_wp2
  obtain ⟨W2, hW2, d2, b2, _⟩ := b_stored (unveil HZ) (unveil HB) (Nat.le_refl _) 0 0 0 0 0 none 0 0
  rw [← hW2]
  exact bodyPost_ret (ret_refuse d2 rfl rfl) rfl ⟨rfl, b2⟩
/-- events one behind the other, in new memory. -/
theorem behind_any (a b : Option Addr) (la ca lb cb : Nat) (A B : List Int) (w : World) (hA : RowK .i64 w a (6 * la) A) (hB : RowK .i64 w b (6 * lb) B) (nA : a = none → ca = 0) (nB : b = none → cb = 0) (hs : la + lb ≤ 1000000) :
    Calls Tryz.prog 71 #[.slice a la ca, .slice b lb cb] w fun e w' => ∃ a' c', e = .returned (.slice a' (la + lb : Nat) c') ∧ RowK .i64 w' a' (6 * (la + lb)) (A ++ B) ∧ la + lb ≤ c' ∧ (a' = none → c' = 0) ∧ (∀ x, a' = some x → w.heap.size ≤ x.block) ∧ Below w.heap.size w w' := by
  obtain ⟨i6, hi6, hz60, hz61, hz62⟩ := info_of Tryz.infoEvent
  have hw : IntKind.i64.wrap ((la : Int) + (lb : Int)) = ((la + lb : Nat) : Int) := by rw [IntKind.wrap_i64]; omega
  have hwf : ∀ u ∈ A ++ B, (Lit.int .i64 u).wf = true := fun u hu => by
    rcases List.mem_append.1 hu with h | h
    · exact hA.wf u h
    · exact hB.wf u h
  have HA : Hid (∀ w', Below w.heap.size w w' → RowK .i64 w' a (6 * la) A) := veil fun w' b => hA.below b
  have HB : Hid (∀ w', Below w.heap.size w w' → RowK .i64 w' b (6 * lb) B) := veil fun w' b => hB.below b
  clear hA hB
  go_enter Tryz.func71, Tryz.ntmps71
  go_wp2_with (first
    | (refine wpList_make_own _ rfl _ _ 22 rfl w.heap.size 28 i6 _ 6 Tryz.underlying22 hi6 hz60 hz61 .i64 .i64 _ (la + lb) rfl rfl (by first | rfl | omega) (by rw [hz62]; omega) (by unfold maxLen; omega) (Nat.le_refl _) ?_; intro W1 o1 g1; have b1 := (Below.refl w.heap.size w).grown g1 (by omega) (fun q hq => by cases hq))
    | (at_builtin; refine wpList_append_rows rfl _ _ 22 rfl w.heap.size 28 i6 _ 6 48 Tryz.underlying22 hi6 hz60 hz61 hz62 rfl (by decide) (.slice (some ⟨w.heap.size, 0, none⟩) 0 (la + lb)) 0 [] rfl o1 a la ca A rfl (unveil HA _ b1) nA (by unfold maxLen; omega) (by omega) (by have := b1.size; omega) ?_; intro v2 W2 o2 g2; simp only [Nat.zero_add, List.nil_append] at o2; have b2 := b1.grown g2 b1.size (fun q hq => (o1.lt q hq).1); clear o1 g1 g2 b1)
    | (at_builtin; refine wpList_append_rows rfl _ _ 22 rfl w.heap.size 28 i6 _ 6 48 Tryz.underlying22 hi6 hz60 hz61 hz62 rfl (by decide) v2 la A rfl o2 b lb cb B rfl (unveil HB _ b2) nB (by unfold maxLen; omega) (by omega) (by have := b2.size; omega) ?_; intro v3 W3 o3 g3; have b3 := b2.grown g3 b2.size (fun q hq => (o2.lt q hq).1); obtain ⟨a', c', rfl, r3, hc, _, n3, u3⟩ := RowK.ofMany o3 hwf; clear o2 g3 b2))
  go_ret
  exact ⟨a', c', rfl, r3, hc, n3, u3, b3⟩
end Go.Proofs.YtcdopnkabbfooaaGreat

namespace Go.Proofs.YtcdopnkabbfooaaGreat
open Go.RowKit

set_option maxHeartbeats 1000000 in
theorem mayStand_0 (e f t o : Int) (a : Option Addr) (n c : Nat) (w : World) : Calls Tryz.prog 75 #[bVal 0 e f t o a n c] w fun x w' => x = .returned (.bool (decide (standP 0 e f t o n))) ∧ Below w.heap.size w w' := by
  by_cases h0 : 0 < n
  case pos =>
    rw [decide_eq_false (show ¬ standP _ e f t o _ by unfold standP; omega)]
    go_enter Tryz.func75, Tryz.ntmps75
    go_wp2
    go_ret
    exact ⟨by first | rfl | simp, below1 _ _⟩
  case neg =>
  obtain rfl : n = 0 := by omega
  clear h0
  by_cases h1 : 0 ≤ e
  case neg =>
    rw [decide_eq_false (show ¬ standP _ e f t o _ by unfold standP; omega)]
    go_enter Tryz.func75, Tryz.ntmps75
    go_wp2
    go_ret
    exact ⟨by first | rfl | simp, below1 _ _⟩
  case pos =>
  by_cases h2 : e ≤ 1048576
  case neg =>
    rw [decide_eq_false (show ¬ standP _ e f t o _ by unfold standP; omega)]
    go_enter Tryz.func75, Tryz.ntmps75
    go_wp2
    go_ret
    exact ⟨by first | rfl | simp, below1 _ _⟩
  case pos =>
  have hf := fun w => within_any f 0 w
  by_cases h3 : 0 ≤ f ∧ f ≤ 0
  case neg =>
    rw [decide_eq_false h3] at hf
    rw [decide_eq_false (show ¬ standP _ e f t o _ by unfold standP; omega)]
    go_enter Tryz.func75, Tryz.ntmps75
    go_wp2_with (first | (go_at_call 70; refine (hf _).mono ?_; rintro x w1 ⟨rfl, rfl⟩; clear hf))
    go_ret
    exact ⟨by first | rfl | simp, below1 _ _⟩
  case pos =>
  rw [decide_eq_true h3] at hf
  have ht := fun w => within_any t 0 w
  by_cases h4 : 0 ≤ t ∧ t ≤ 0
  case neg =>
    rw [decide_eq_false h4] at ht
    rw [decide_eq_false (show ¬ standP _ e f t o _ by unfold standP; omega)]
    go_enter Tryz.func75, Tryz.ntmps75
    go_wp2_with (first | (go_at_call 70; refine (hf _).mono ?_; rintro x w1 ⟨rfl, rfl⟩; clear hf) | (go_at_call 70; refine (ht _).mono ?_; rintro x w1 ⟨rfl, rfl⟩; clear ht))
    go_ret
    exact ⟨by first | rfl | simp, below1 _ _⟩
  case pos =>
  rw [decide_eq_true h4] at ht
  have ho := fun w => within_any o 0 w
  by_cases h5 : 0 ≤ o ∧ o ≤ 0
  case neg =>
    rw [decide_eq_false h5] at ho
    rw [decide_eq_false (show ¬ standP _ e f t o _ by unfold standP; omega)]
    go_enter Tryz.func75, Tryz.ntmps75
    go_wp2_with (first | (go_at_call 70; refine (hf _).mono ?_; rintro x w1 ⟨rfl, rfl⟩; clear hf) | (go_at_call 70; refine (ht _).mono ?_; rintro x w1 ⟨rfl, rfl⟩; clear ht) | (go_at_call 70; refine (ho _).mono ?_; rintro x w1 ⟨rfl, rfl⟩; clear ho))
    go_ret
    exact ⟨by first | rfl | simp, below1 _ _⟩
  case pos =>
  rw [decide_eq_true h5] at ho
  rw [decide_eq_true (show standP _ e f t o _ by unfold standP; omega)]
  go_enter Tryz.func75, Tryz.ntmps75
  go_wp2_with (first | (go_at_call 70; refine (hf _).mono ?_; rintro x w1 ⟨rfl, rfl⟩; clear hf) | (go_at_call 70; refine (ht _).mono ?_; rintro x w1 ⟨rfl, rfl⟩; clear ht) | (go_at_call 70; refine (ho _).mono ?_; rintro x w1 ⟨rfl, rfl⟩; clear ho))
  go_ret
  exact ⟨by first | rfl | simp, below1 _ _⟩
set_option maxHeartbeats 1000000 in
theorem mayStand_1 (e f t o : Int) (a : Option Addr) (n c : Nat) (w : World) : Calls Tryz.prog 75 #[bVal 1 e f t o a n c] w fun x w' => x = .returned (.bool (decide (standP 1 e f t o n))) ∧ Below w.heap.size w w' := by
  by_cases h1 : 1 ≤ e
  case neg =>
    rw [decide_eq_false (show ¬ standP _ e f t o n by unfold standP; omega)]
    go_enter Tryz.func75, Tryz.ntmps75
    go_wp2
    go_ret
    exact ⟨by first | rfl | simp, below1 _ _⟩
  case pos =>
  by_cases h2 : e ≤ 1048576
  case neg =>
    rw [decide_eq_false (show ¬ standP _ e f t o n by unfold standP; omega)]
    go_enter Tryz.func75, Tryz.ntmps75
    go_wp2
    go_ret
    exact ⟨by first | rfl | simp, below1 _ _⟩
  case pos =>
  have hf := fun w => within_any f 0 w
  by_cases h3 : 0 ≤ f ∧ f ≤ 0
  case neg =>
    rw [decide_eq_false h3] at hf
    rw [decide_eq_false (show ¬ standP _ e f t o n by unfold standP; omega)]
    go_enter Tryz.func75, Tryz.ntmps75
    go_wp2_with (first | (go_at_call 70; refine (hf _).mono ?_; rintro x w1 ⟨rfl, rfl⟩; clear hf))
    go_ret
    exact ⟨by first | rfl | simp, below1 _ _⟩
  case pos =>
  rw [decide_eq_true h3] at hf
  have ht := fun w => within_any t 0 w
  by_cases h4 : 0 ≤ t ∧ t ≤ 0
  case neg =>
    rw [decide_eq_false h4] at ht
    rw [decide_eq_false (show ¬ standP _ e f t o n by unfold standP; omega)]
    go_enter Tryz.func75, Tryz.ntmps75
    go_wp2_with (first | (go_at_call 70; refine (hf _).mono ?_; rintro x w1 ⟨rfl, rfl⟩; clear hf) | (go_at_call 70; refine (ht _).mono ?_; rintro x w1 ⟨rfl, rfl⟩; clear ht))
    go_ret
    exact ⟨by first | rfl | simp, below1 _ _⟩
  case pos =>
  rw [decide_eq_true h4] at ht
  have ho := fun w => within_any o 0 w
  by_cases h5 : 0 ≤ o ∧ o ≤ 0
  case neg =>
    rw [decide_eq_false h5] at ho
    rw [decide_eq_false (show ¬ standP _ e f t o n by unfold standP; omega)]
    go_enter Tryz.func75, Tryz.ntmps75
    go_wp2_with (first | (go_at_call 70; refine (hf _).mono ?_; rintro x w1 ⟨rfl, rfl⟩; clear hf) | (go_at_call 70; refine (ht _).mono ?_; rintro x w1 ⟨rfl, rfl⟩; clear ht) | (go_at_call 70; refine (ho _).mono ?_; rintro x w1 ⟨rfl, rfl⟩; clear ho))
    go_ret
    exact ⟨by first | rfl | simp, below1 _ _⟩
  case pos =>
  rw [decide_eq_true h5] at ho
  rw [decide_eq_true (show standP _ e f t o n by unfold standP; omega)]
  go_enter Tryz.func75, Tryz.ntmps75
  go_wp2_with (first | (go_at_call 70; refine (hf _).mono ?_; rintro x w1 ⟨rfl, rfl⟩; clear hf) | (go_at_call 70; refine (ht _).mono ?_; rintro x w1 ⟨rfl, rfl⟩; clear ht) | (go_at_call 70; refine (ho _).mono ?_; rintro x w1 ⟨rfl, rfl⟩; clear ho))
  go_ret
  exact ⟨by first | rfl | simp, below1 _ _⟩
set_option maxHeartbeats 1000000 in
theorem mayStand_2 (e f t o : Int) (a : Option Addr) (n c : Nat) (w : World) : Calls Tryz.prog 75 #[bVal 2 e f t o a n c] w fun x w' => x = .returned (.bool (decide (standP 2 e f t o n))) ∧ Below w.heap.size w w' := by
  by_cases h1 : 1 ≤ e
  case neg =>
    rw [decide_eq_false (show ¬ standP _ e f t o n by unfold standP; omega)]
    go_enter Tryz.func75, Tryz.ntmps75
    go_wp2
    go_ret
    exact ⟨by first | rfl | simp, below1 _ _⟩
  case pos =>
  by_cases h2 : e ≤ 1048576
  case neg =>
    rw [decide_eq_false (show ¬ standP _ e f t o n by unfold standP; omega)]
    go_enter Tryz.func75, Tryz.ntmps75
    go_wp2
    go_ret
    exact ⟨by first | rfl | simp, below1 _ _⟩
  case pos =>
  have hf := fun w => within_any f 0 w
  by_cases h3 : 0 ≤ f ∧ f ≤ 0
  case neg =>
    rw [decide_eq_false h3] at hf
    rw [decide_eq_false (show ¬ standP _ e f t o n by unfold standP; omega)]
    go_enter Tryz.func75, Tryz.ntmps75
    go_wp2_with (first | (go_at_call 70; refine (hf _).mono ?_; rintro x w1 ⟨rfl, rfl⟩; clear hf))
    go_ret
    exact ⟨by first | rfl | simp, below1 _ _⟩
  case pos =>
  rw [decide_eq_true h3] at hf
  have ht := fun w => within_any t 4 w
  by_cases h4 : 0 ≤ t ∧ t ≤ 4
  case neg =>
    rw [decide_eq_false h4] at ht
    rw [decide_eq_false (show ¬ standP _ e f t o n by unfold standP; omega)]
    go_enter Tryz.func75, Tryz.ntmps75
    go_wp2_with (first | (go_at_call 70; refine (hf _).mono ?_; rintro x w1 ⟨rfl, rfl⟩; clear hf) | (go_at_call 70; refine (ht _).mono ?_; rintro x w1 ⟨rfl, rfl⟩; clear ht))
    go_ret
    exact ⟨by first | rfl | simp, below1 _ _⟩
  case pos =>
  rw [decide_eq_true h4] at ht
  have ho := fun w => within_any o 4 w
  by_cases h5 : 0 ≤ o ∧ o ≤ 4
  case neg =>
    rw [decide_eq_false h5] at ho
    rw [decide_eq_false (show ¬ standP _ e f t o n by unfold standP; omega)]
    go_enter Tryz.func75, Tryz.ntmps75
    go_wp2_with (first | (go_at_call 70; refine (hf _).mono ?_; rintro x w1 ⟨rfl, rfl⟩; clear hf) | (go_at_call 70; refine (ht _).mono ?_; rintro x w1 ⟨rfl, rfl⟩; clear ht) | (go_at_call 70; refine (ho _).mono ?_; rintro x w1 ⟨rfl, rfl⟩; clear ho))
    go_ret
    exact ⟨by first | rfl | simp, below1 _ _⟩
  case pos =>
  rw [decide_eq_true h5] at ho
  rw [decide_eq_true (show standP _ e f t o n by unfold standP; omega)]
  go_enter Tryz.func75, Tryz.ntmps75
  go_wp2_with (first | (go_at_call 70; refine (hf _).mono ?_; rintro x w1 ⟨rfl, rfl⟩; clear hf) | (go_at_call 70; refine (ht _).mono ?_; rintro x w1 ⟨rfl, rfl⟩; clear ht) | (go_at_call 70; refine (ho _).mono ?_; rintro x w1 ⟨rfl, rfl⟩; clear ho))
  go_ret
  exact ⟨by first | rfl | simp, below1 _ _⟩
set_option maxHeartbeats 1000000 in
theorem mayStand_3 (e f t o : Int) (a : Option Addr) (n c : Nat) (w : World) : Calls Tryz.prog 75 #[bVal 3 e f t o a n c] w fun x w' => x = .returned (.bool (decide (standP 3 e f t o n))) ∧ Below w.heap.size w w' := by
  by_cases h1 : 1 ≤ e
  case neg =>
    rw [decide_eq_false (show ¬ standP _ e f t o n by unfold standP; omega)]
    go_enter Tryz.func75, Tryz.ntmps75
    go_wp2
    go_ret
    exact ⟨by first | rfl | simp, below1 _ _⟩
  case pos =>
  by_cases h2 : e ≤ 1048576
  case neg =>
    rw [decide_eq_false (show ¬ standP _ e f t o n by unfold standP; omega)]
    go_enter Tryz.func75, Tryz.ntmps75
    go_wp2
    go_ret
    exact ⟨by first | rfl | simp, below1 _ _⟩
  case pos =>
  have hf := fun w => within_any f 0 w
  by_cases h3 : 0 ≤ f ∧ f ≤ 0
  case neg =>
    rw [decide_eq_false h3] at hf
    rw [decide_eq_false (show ¬ standP _ e f t o n by unfold standP; omega)]
    go_enter Tryz.func75, Tryz.ntmps75
    go_wp2_with (first | (go_at_call 70; refine (hf _).mono ?_; rintro x w1 ⟨rfl, rfl⟩; clear hf))
    go_ret
    exact ⟨by first | rfl | simp, below1 _ _⟩
  case pos =>
  rw [decide_eq_true h3] at hf
  have ht := fun w => within_any t 4 w
  by_cases h4 : 0 ≤ t ∧ t ≤ 4
  case neg =>
    rw [decide_eq_false h4] at ht
    rw [decide_eq_false (show ¬ standP _ e f t o n by unfold standP; omega)]
    go_enter Tryz.func75, Tryz.ntmps75
    go_wp2_with (first | (go_at_call 70; refine (hf _).mono ?_; rintro x w1 ⟨rfl, rfl⟩; clear hf) | (go_at_call 70; refine (ht _).mono ?_; rintro x w1 ⟨rfl, rfl⟩; clear ht))
    go_ret
    exact ⟨by first | rfl | simp, below1 _ _⟩
  case pos =>
  rw [decide_eq_true h4] at ht
  have ho := fun w => within_any o 0 w
  by_cases h5 : 0 ≤ o ∧ o ≤ 0
  case neg =>
    rw [decide_eq_false h5] at ho
    rw [decide_eq_false (show ¬ standP _ e f t o n by unfold standP; omega)]
    go_enter Tryz.func75, Tryz.ntmps75
    go_wp2_with (first | (go_at_call 70; refine (hf _).mono ?_; rintro x w1 ⟨rfl, rfl⟩; clear hf) | (go_at_call 70; refine (ht _).mono ?_; rintro x w1 ⟨rfl, rfl⟩; clear ht) | (go_at_call 70; refine (ho _).mono ?_; rintro x w1 ⟨rfl, rfl⟩; clear ho))
    go_ret
    exact ⟨by first | rfl | simp, below1 _ _⟩
  case pos =>
  rw [decide_eq_true h5] at ho
  rw [decide_eq_true (show standP _ e f t o n by unfold standP; omega)]
  go_enter Tryz.func75, Tryz.ntmps75
  go_wp2_with (first | (go_at_call 70; refine (hf _).mono ?_; rintro x w1 ⟨rfl, rfl⟩; clear hf) | (go_at_call 70; refine (ht _).mono ?_; rintro x w1 ⟨rfl, rfl⟩; clear ht) | (go_at_call 70; refine (ho _).mono ?_; rintro x w1 ⟨rfl, rfl⟩; clear ho))
  go_ret
  exact ⟨by first | rfl | simp, below1 _ _⟩
set_option maxHeartbeats 1000000 in
theorem mayStand_4 (e f t o : Int) (a : Option Addr) (n c : Nat) (w : World) : Calls Tryz.prog 75 #[bVal 4 e f t o a n c] w fun x w' => x = .returned (.bool (decide (standP 4 e f t o n))) ∧ Below w.heap.size w w' := by
  by_cases h1 : 1 ≤ e
  case neg =>
    rw [decide_eq_false (show ¬ standP _ e f t o n by unfold standP; omega)]
    go_enter Tryz.func75, Tryz.ntmps75
    go_wp2
    go_ret
    exact ⟨by first | rfl | simp, below1 _ _⟩
  case pos =>
  by_cases h2 : e ≤ 1048576
  case neg =>
    rw [decide_eq_false (show ¬ standP _ e f t o n by unfold standP; omega)]
    go_enter Tryz.func75, Tryz.ntmps75
    go_wp2
    go_ret
    exact ⟨by first | rfl | simp, below1 _ _⟩
  case pos =>
  have hf := fun w => within_any f 4 w
  by_cases h3 : 0 ≤ f ∧ f ≤ 4
  case neg =>
    rw [decide_eq_false h3] at hf
    rw [decide_eq_false (show ¬ standP _ e f t o n by unfold standP; omega)]
    go_enter Tryz.func75, Tryz.ntmps75
    go_wp2_with (first | (go_at_call 70; refine (hf _).mono ?_; rintro x w1 ⟨rfl, rfl⟩; clear hf))
    go_ret
    exact ⟨by first | rfl | simp, below1 _ _⟩
  case pos =>
  rw [decide_eq_true h3] at hf
  have ht := fun w => within_any t 0 w
  by_cases h4 : 0 ≤ t ∧ t ≤ 0
  case neg =>
    rw [decide_eq_false h4] at ht
    rw [decide_eq_false (show ¬ standP _ e f t o n by unfold standP; omega)]
    go_enter Tryz.func75, Tryz.ntmps75
    go_wp2_with (first | (go_at_call 70; refine (hf _).mono ?_; rintro x w1 ⟨rfl, rfl⟩; clear hf) | (go_at_call 70; refine (ht _).mono ?_; rintro x w1 ⟨rfl, rfl⟩; clear ht))
    go_ret
    exact ⟨by first | rfl | simp, below1 _ _⟩
  case pos =>
  rw [decide_eq_true h4] at ht
  have ho := fun w => within_any o 0 w
  by_cases h5 : 0 ≤ o ∧ o ≤ 0
  case neg =>
    rw [decide_eq_false h5] at ho
    rw [decide_eq_false (show ¬ standP _ e f t o n by unfold standP; omega)]
    go_enter Tryz.func75, Tryz.ntmps75
    go_wp2_with (first | (go_at_call 70; refine (hf _).mono ?_; rintro x w1 ⟨rfl, rfl⟩; clear hf) | (go_at_call 70; refine (ht _).mono ?_; rintro x w1 ⟨rfl, rfl⟩; clear ht) | (go_at_call 70; refine (ho _).mono ?_; rintro x w1 ⟨rfl, rfl⟩; clear ho))
    go_ret
    exact ⟨by first | rfl | simp, below1 _ _⟩
  case pos =>
  rw [decide_eq_true h5] at ho
  rw [decide_eq_true (show standP _ e f t o n by unfold standP; omega)]
  go_enter Tryz.func75, Tryz.ntmps75
  go_wp2_with (first | (go_at_call 70; refine (hf _).mono ?_; rintro x w1 ⟨rfl, rfl⟩; clear hf) | (go_at_call 70; refine (ht _).mono ?_; rintro x w1 ⟨rfl, rfl⟩; clear ht) | (go_at_call 70; refine (ho _).mono ?_; rintro x w1 ⟨rfl, rfl⟩; clear ho))
  go_ret
  exact ⟨by first | rfl | simp, below1 _ _⟩
theorem mayStand_any (r e f t o : Int) (a : Option Addr) (n c : Nat) (w : World) : Calls Tryz.prog 75 #[bVal r e f t o a n c] w fun x w' => x = .returned (.bool (decide (standP r e f t o n))) ∧ Below w.heap.size w w' := by
  by_cases h0 : r = 0
  · subst h0; exact mayStand_0 e f t o a n c w
  by_cases h1 : r = 1
  · subst h1; exact mayStand_1 e f t o a n c w
  by_cases h2 : r = 2
  · subst h2; exact mayStand_2 e f t o a n c w
  by_cases h3 : r = 3
  · subst h3; exact mayStand_3 e f t o a n c w
  by_cases h4 : r = 4
  · subst h4; exact mayStand_4 e f t o a n c w
  rw [decide_eq_false (show ¬ standP r e f t o n by unfold standP; omega)]
  go_enter Tryz.func75, Tryz.ntmps75
  go_wp2
  go_ret
  exact ⟨rfl, below1 _ _⟩
end Go.Proofs.YtcdopnkabbfooaaGreat

namespace Go.Proofs.YtcdopnkabbfooaaGreat
open Go.RowKit

theorem ret_replayed {W : World} {Z : Nat} {ep nx gv : Int} {r l : Value} {ws : Nat → Value} {er : Int} {tmps : Array Value} (q : qBlock W Z ep nx gv r l ws) (t2 : tmps[2]? = some (.pointer (some ⟨Z, 0, none⟩))) (t3 : tmps[3]? = some (.int .i64 er)) :
    (results Tryz.f51 tmps).run Tryz.prog W = .ok (.tuple #[qVal ep nx gv r l ws, .int .i64 er]) W := by
  have h1 := run_loadVar_row (P := Tryz.prog) W Z 92 92 _ (0, 0) _ q Tryz.underlying92 rfl (by rw [qCells_size]; exact Tryz.infoQ)
  simp [results, Tryz.results51, t2, t3, asAddr, h1]
theorem rd_made {w W1 : World} {r e f t o : Int} {a : Option Addr} {n c : Nat} (z1 : qBlock W1 (w.alloc (.cells (bCells r e f t o a n c) 24)).heap.size 0 0 0 (.slice none 0 0) (.slice none 0 0) zeroW)
    (b1 : Below (w.alloc (.cells (bCells r e f t o a n c) 24)).heap.size (w.alloc (.cells (bCells r e f t o a n c) 24)) W1) :
    bBlock W1 w.heap.size r e f t o a n c ∧ qBlock W1 (w.heap.size + 1) 0 0 0 (.slice none 0 0) (.slice none 0 0) zeroW ∧ Below w.heap.size w W1 := by
  rw [show (w.alloc (.cells (bCells r e f t o a n c) 24)).heap.size = w.heap.size + 1 by simp] at z1
  exact ⟨(bBlock.new w r e f t o a n c).next b1, z1, Below.next (below1 _ _) b1⟩
theorem QOut.zero (w w' : World) : QOut w w' St.zero (qVal 0 0 0 (.slice none 0 0) (.slice none 0 0) zeroW) := ⟨none, 0, none, 0, zeroW, rfl, RowK.nil _ _ _, RowK.nil _ _ _, Nat.le_refl _, Nat.le_refl _, fun _ => rfl, fun _ => rfl, zeroWins, fun x hx => (by cases hx), fun x hx => (by cases hx)⟩
/-- what replayed answers. -/
inductive Rb (B : Bt) : St → Int → Prop
  | yes {s : St} (ok : B.Ok) (ans : List An) (ht : Tells B.es s ans) : Rb B s 0
  | no (h : ¬ B.Ok) : Rb B St.zero 6
set_option maxRecDepth 20000 in
set_option maxHeartbeats 4000000 in
theorem replayed_any (B : Bt) (a : Option Addr) (c : Nat) (w : World) (hb : BIn w B a c) :
    Calls Tryz.prog 51 #[bVal B.r B.e B.f B.t B.o a B.es.length c] w fun x w' => ∃ y er s, x = .returned (.tuple #[y, .int .i64 er]) ∧ Rb B s er ∧ QOut w w' s y ∧ Below w.heap.size w w' := by
  have HM := fun w => mayStand_any B.r B.e B.f B.t B.o a B.es.length c w
  have HR : Hid (∀ W, Below w.heap.size w W → Calls Tryz.prog 76 #[.slice a B.es.length c] W fun e w' => ∃ x er s, e = .returned (.tuple #[x, .int .i64 er]) ∧ Rv B.es s er ∧ QOut W w' s x ∧ Below W.heap.size W w') := veil fun W b => replay_all B.es a c W (hb.row.below b)
  clear hb
  by_cases hs : standP B.r B.e B.f B.t B.o B.es.length
  case neg =>
    rw [decide_eq_false hs] at HM
    go_enter Tryz.func51, Tryz.ntmps51
    go_wp2_with (first
      | (refine q_alloc 2 rfl rfl rfl ?_; intro W1 z1 b1; obtain ⟨k1, y1, B1⟩ := rd_made z1 b1; obtain ⟨x0, x1, x2, x3, x4, x5⟩ := k1.cells; have HY := veil y1; have HB := veil B1; clear z1 b1 k1 y1 B1)
      | (go_at_call 75; refine (HM _).mono ?_; rintro x W2 ⟨rfl, b2⟩; clear HM x0 x1 x2 x3 x4 x5; have z2 := (unveil HY).next b2; have HB2 := veil (Below.next (unveil HB) b2); clear HY HB b2)
      | (refine q_build0 rfl rfl ?_)
      | (refine q_store (ra := none) (la := none) (rn := 0) (rc := 0) (ln := 0) (lc := 0) (ws' := zeroW) _ _ rfl rfl rfl rfl z2 zeroWins ?_; intro W4 q4 t4; have HQ4 := veil q4; have HT4 := veil t4; clear q4 t4))
    exact bodyPost_ret (ret_replayed (unveil HQ4) rfl rfl) rfl ⟨_, 6, St.zero, rfl, .no (fun ok => hs ok.stand), QOut.zero _ _, (unveil HT4).under (unveil HB2) (by omega)⟩
  case pos =>
  rw [decide_eq_true hs] at HM
  go_enter Tryz.func51, Tryz.ntmps51
  go_upto_region 4 with (first
    | (refine q_alloc 2 rfl rfl rfl ?_; intro W1 z1 b1; obtain ⟨k1, y1, B1⟩ := rd_made z1 b1; obtain ⟨x0, x1, x2, x3, x4, x5⟩ := k1.cells; have HK := veil k1; have HY := veil y1; have HB := veil B1; clear z1 b1 k1 y1 B1)
    | (go_at_call 75; refine (HM _).mono ?_; rintro x W2 ⟨rfl, b2⟩; clear HM x0 x1 x2 x3 x4 x5; obtain ⟨x0, x1, x2, x3, x4, x5⟩ := ((unveil HK).next b2).cells; have HY2 := veil ((unveil HY).next b2); have B2 := Below.next (unveil HB) b2; have hR := unveil HR W2 B2; have HB2 := veil B2; clear HY HB HR HK b2 B2)
    | (go_at_call 76; refine hR.mono ?_; rintro x W3 ⟨y, er, s, rfl, rv, ⟨⟨a1', c1', a2', c2', ws', rfl, r1, r2, l1', l2', n1, n2, hW', f1, f2⟩⟩, b3⟩; have HV := veil rv; have HY3 := veil ((unveil HY2).next b3); have HB3 := veil (Below.next (unveil HB2) b3); have hw2 := (unveil HB2).size; have hz2 : w.heap.size + 1 < W2.heap.size := (unveil HY2).lt; clear hR rv HY2 x0 x1 x2 x3 x4 x5)
    | (refine q_alloc 4 rfl rfl rfl ?_; intro W4 z4 b4)
    | (refine q_store (ra := a1') (la := a2') (ws' := ws') _ _ rfl rfl rfl rfl z4 hW' ?_; intro W5 q5 t5; have b5 := t5.under b4 (Nat.le_refl _); have HR1 := veil (r1.below b5); have HR2 := veil (r2.below b5); have y5 := (unveil HY3).next b5; have hlt := (unveil HY3).lt; have HB5 := veil (Below.next (unveil HB3) b5); clear z4 b4 t5 b5 HY3 HB3 r1 r2))
  have hne : w.heap.size + 1 ≠ W3.heap.size := by omega
  by_cases h0 : er = 0
  · subst h0
    go_wp2_with (first
      | (refine q_loads _ rfl rfl rfl q5 ?_)
      | (refine q_store (ra := a1') (la := a2') (ws' := ws') _ _ rfl rfl rfl rfl y5 hW' ?_; intro W6 q6 t6; have HQ6 := veil q6; have HT6 := veil t6; clear q6 t6))
    have t6 := unveil HT6
    have ok := ((unveil HV).ok hs).1 rfl
    obtain ⟨s', ans, ht⟩ := ok.told
    obtain ⟨rfl, _⟩ := (unveil HV).one (.told ans ok.len ht)
    have hl3 := (unveil HB2).size
    have hw1 : w.heap.size ≤ W2.heap.size := hl3
    exact bodyPost_ret (ret_replayed (unveil HQ6) rfl rfl) rfl ⟨_, 0, s, rfl, .yes ok ans ht, ⟨a1', c1', a2', c2', ws', rfl, t6.row (unveil HR1) (fun x hx _ => by have := f1 x hx; omega), t6.row (unveil HR2) (fun x hx _ => by have := f2 x hx; omega), l1', l2', n1, n2, hW', fun x hx => Nat.le_trans hw1 (f1 x hx), fun x hx => Nat.le_trans hw1 (f2 x hx)⟩, t6.under (unveil HB5) (by omega)⟩
  · clear q5
    go_wp2_with (first
      | (refine q_build0 rfl rfl ?_)
      | (refine q_store (ra := none) (la := none) (rn := 0) (rc := 0) (ln := 0) (lc := 0) (ws' := zeroW) _ _ rfl rfl rfl rfl y5 zeroWins ?_; intro W6 q6 t6; have HQ6 := veil q6; have HT6 := veil t6; clear q6 t6))
    exact bodyPost_ret (ret_replayed (unveil HQ6) rfl rfl) rfl ⟨_, 6, St.zero, rfl, .no (fun ok => h0 (((unveil HV).ok hs).2 ok)), QOut.zero _ _, (unveil HT6).under (unveil HB5) (by omega)⟩
set_option maxRecDepth 20000 in
set_option maxHeartbeats 4000000 in
theorem bcheck_any (B : Bt) (a : Option Addr) (c : Nat) (w : World) (hb : BIn w B a c) :
    Calls Tryz.prog 28 #[bVal B.r B.e B.f B.t B.o a B.es.length c] w fun x w' => ∃ er, x = .returned (.int .i64 er) ∧ ((er = 0 ∧ B.Ok) ∨ (er = 6 ∧ ¬ B.Ok)) ∧ Below w.heap.size w w' := by
  have HR : Hid (∀ W, Below w.heap.size w W → Calls Tryz.prog 51 #[bVal B.r B.e B.f B.t B.o a B.es.length c] W fun x w' => ∃ y er s, x = .returned (.tuple #[y, .int .i64 er]) ∧ Rb B s er ∧ QOut W w' s y ∧ Below W.heap.size W w') := veil fun W b => replayed_any B a c W (hb.next b)
  clear hb
  go_enter Tryz.func28, Tryz.ntmps28
  go_wp2_with (first
    | (go_at_call 51; refine (unveil HR _ (below1 _ _)).mono ?_; rintro x W3 ⟨y, er, s, rfl, rv, ⟨⟨a1', c1', a2', c2', ws', rfl, r1, r2, l1', l2', n1, n2, hW', f1, f2⟩⟩, b3⟩; have HV := veil rv; have HB3 := veil (Below.next (below1 _ _) b3); clear rv b3)
    | (refine q_alloc 3 rfl rfl rfl ?_; intro W4 z4 b4)
    | (refine q_store (ra := a1') (la := a2') (ws' := ws') _ _ rfl rfl rfl rfl z4 hW' ?_; intro W5 q5 t5; have HB5 := veil (Below.next (unveil HB3) (t5.under b4 (Nat.le_refl _))); clear q5 t5 z4 b4))
  go_ret
  refine ⟨er, rfl, ?_, unveil HB5⟩
  cases unveil HV with
  | yes ok => exact .inl ⟨rfl, ok⟩
  | no h => exact .inr ⟨rfl, h⟩
theorem bcheck_yes (B : Bt) (a : Option Addr) (c : Nat) (w : World) (hb : BIn w B a c) (ok : B.Ok) :
    Calls Tryz.prog 28 #[bVal B.r B.e B.f B.t B.o a B.es.length c] w fun x w' => x = .returned (.int .i64 0) ∧ Below w.heap.size w w' := by
  refine (bcheck_any B a c w hb).mono ?_
  rintro x w' ⟨er, rfl, ⟨rfl, _⟩ | ⟨_, h⟩, b⟩
  · exact ⟨rfl, b⟩
  · exact absurd ok h
theorem bcheck_no (B : Bt) (a : Option Addr) (c : Nat) (w : World) (hb : BIn w B a c) (ok : ¬ B.Ok) :
    Calls Tryz.prog 28 #[bVal B.r B.e B.f B.t B.o a B.es.length c] w fun x w' => x = .returned (.int .i64 6) ∧ Below w.heap.size w w' := by
  refine (bcheck_any B a c w hb).mono ?_
  rintro x w' ⟨er, rfl, ⟨_, h⟩ | ⟨rfl, _⟩, b⟩
  · exact absurd h ok
  · exact ⟨rfl, b⟩
/-- the box of an argument and the zero box of the answer. -/
structure Mb (w wx : World) (B : Bt) (a : Option Addr) (c : Nat) : Prop where
  b : bBlock wx w.heap.size B.r B.e B.f B.t B.o a B.es.length c
  z : bBlock wx (w.heap.size + 1) 0 0 0 0 0 none 0 0
  bel : Below w.heap.size w wx
theorem Mb.next {w wx wy : World} {B : Bt} {a : Option Addr} {c : Nat} (h : Mb w wx B a c) (b : Below wx.heap.size wx wy) : Mb w wy B a c := ⟨h.b.next b, h.z.next b, Below.next h.bel b⟩
theorem Mb.made (w : World) (B : Bt) (a : Option Addr) (c : Nat) : ∃ W, W = (w.alloc (.cells (bCells B.r B.e B.f B.t B.o a B.es.length c) 24)).alloc (.cells (bCells 0 0 0 0 0 none 0 0) 24) ∧ Mb w W B a c := by
  refine ⟨_, rfl, (bBlock.new w _ _ _ _ _ _ _ _).next (below1 _ _), ?_, below2 _ _ _⟩
  have h0 := bBlock.new (w.alloc (.cells (bCells B.r B.e B.f B.t B.o a B.es.length c) 24)) 0 0 0 0 0 none 0 0
  rw [show (w.alloc (.cells (bCells B.r B.e B.f B.t B.o a B.es.length c) 24)).heap.size = w.heap.size + 1 by simp] at h0
  exact h0
theorem ret_bwith {W : World} {R : Nat} {r e f t o : Int} {a : Option Addr} {n c : Nat} {tmps : Array Value} (d : bBlock W R r e f t o a n c) (t4 : tmps[4]? = some (.pointer (some ⟨R, 0, none⟩))) :
    (results Tryz.f45 tmps).run Tryz.prog W = .ok (bVal r e f t o a n c) W := by
  simp [results, Tryz.results45, t4, asAddr, load_berth d]
theorem evFlat_append (A B : List Ev) : evFlat (A ++ B) = evFlat A ++ evFlat B := by simp [evFlat]
/-- some events more. -/
theorem bwith_any (B : Bt) (a : Option Addr) (c : Nat) (l : List Ev) (b : Option Addr) (lb cb : Nat) (w : World) (hb : BIn w B a c) (hl : l.length = lb) (hr : RowK .i64 w b (6 * lb) (evFlat l)) (nb : b = none → cb = 0) (hs : B.es.length + lb ≤ 1000000) :
    Calls Tryz.prog 45 #[bVal B.r B.e B.f B.t B.o a B.es.length c, .slice b lb cb] w fun x w' => ∃ y, x = .returned y ∧ BOut w w' (B.more l) y ∧ Below w.heap.size w w' := by
  have HC : Hid (∀ W, Below w.heap.size w W → Calls Tryz.prog 71 #[.slice a B.es.length c, .slice b lb cb] W fun e w' => ∃ a' c', e = .returned (.slice a' (B.es.length + lb : Nat) c') ∧ RowK .i64 w' a' (6 * (B.es.length + lb)) (evFlat B.es ++ evFlat l) ∧ B.es.length + lb ≤ c' ∧ (a' = none → c' = 0) ∧ (∀ x, a' = some x → W.heap.size ≤ x.block) ∧ Below W.heap.size W w') := veil fun W bb => behind_any a b B.es.length c lb cb (evFlat B.es) (evFlat l) W (hb.row.below bb) (hr.below bb) hb.nil nb hs
  clear hb hr
  obtain ⟨n, hn⟩ : ∃ n, n = B.es.length + lb := ⟨_, rfl⟩
  rw [← hn] at HC
  have HN := veil hn
  clear hn
  go_enter Tryz.func45, Tryz.ntmps45
  go_upto_region 1 with fail
  obtain ⟨W1, hW1, M1⟩ := Mb.made w B a c
  rw [← hW1]
  clear hW1
  have h0 := M1.b.lt
  have h1 := M1.z.lt
  have hC := unveil HC W1 M1.bel
  obtain ⟨x0, x1, x2, x3, x4, x5⟩ := M1.b.cells
  have HM := veil M1
  clear HC M1
  go_upto_region 2 with (go_at_call 71; refine hC.mono ?_; rintro x W2 ⟨a', c', rfl, r2, hc2, n2, u2, b2⟩; have M2 := (unveil HM).next b2; clear hC x0 x1 x2 x3 x4 x5; obtain ⟨x0, x1, x2, x3, x4, x5⟩ := M2.b.cells; have xf := M2.b.free; have HM2 := veil M2; have HR2 := veil r2; have HU2 := veil u2; have hs2 := b2.size; clear M2 r2 u2 b2 HM)
  have M2 := unveil HM2
  obtain ⟨W3, hW3, k3, t3⟩ : ∃ W3, W3 = W2.setCell ⟨w.heap.size, 5, none⟩ (.slice a' n c') ∧ bBlock W3 w.heap.size B.r B.e B.f B.t B.o a' n c' ∧ Turned w.heap.size W2 W3 := by
    refine ⟨_, rfl, ?_, Turned.set _ _ _ _⟩
    have := M2.b
    unfold bBlock at this ⊢
    rw [heap_setB this]
    simp
  rw [← hW3]
  clear hW3
  have z3 := M2.z.turned t3 (by omega)
  have B3 := t3.under M2.bel (Nat.le_refl _)
  have r3 := t3.row (unveil HR2) (fun x hx _ => by have := unveil HU2 x hx; omega)
  obtain ⟨y0, y1, y2, y3, y4, y5⟩ := k3.cells
  obtain ⟨z0, z1, z2, z33, z4, z5⟩ := z3.cells
  have zf := z3.free
  have HZ3 := veil z3
  have HB3 := veil B3
  have HR3 := veil r3
  clear x0 x1 x2 x3 x4 x5 xf M2 z3 B3 r3 k3 t3
  go_wp2
  obtain ⟨W4, hW4, d4, b4, t4⟩ := b_stored (unveil HZ3) (unveil HB3) (show w.heap.size ≤ w.heap.size + 1 by omega) B.r B.e B.f B.t B.o a' n c'
  rw [← hW4]
  have hne : (B.more l).es.length = n := by rw [unveil HN]; simp [Bt.more, hl]
  refine bodyPost_ret (ret_bwith d4 rfl) rfl ⟨_, rfl, ⟨a', c', ?_, ⟨?_, ?_, n2⟩, fun x hx => ?_⟩, b4⟩
  · rw [hne]; rfl
  · rw [hne]
    show RowK .i64 W4 a' (6 * n) (evFlat (B.es ++ l))
    rw [evFlat_append]
    exact t4.row (unveil HR3) (fun x hx _ => by have := unveil HU2 x hx; omega)
  · rw [hne]; exact hc2
  · have := unveil HU2 x hx; omega
theorem Bt.more_nil (B : Bt) : B.more [] = B := by simp [Bt.more]
theorem bwith_none (B : Bt) (a : Option Addr) (c : Nat) (w : World) (hb : BIn w B a c) (hs : B.es.length ≤ 2000) :
    Calls Tryz.prog 45 #[bVal B.r B.e B.f B.t B.o a B.es.length c, .slice none 0 0] w fun x w' => ∃ y, x = .returned y ∧ BOut w w' B y ∧ Below w.heap.size w w' := by
  have := bwith_any B a c [] none 0 0 w hb rfl (RowK.nil _ _ _) (fun _ => rfl) (by omega)
  rw [Bt.more_nil] at this
  exact this
end Go.Proofs.YtcdopnkabbfooaaGreat

namespace Go.Proofs.YtcdopnkabbfooaaGreat
open Go.RowKit

theorem ret_bMake {W : World} {R : Nat} {r e f t o : Int} {a : Option Addr} {n c : Nat} {er : Int} {tmps : Array Value} (d : bBlock W R r e f t o a n c) (t1 : tmps[4]? = some (.pointer (some ⟨R, 0, none⟩))) (t2 : tmps[5]? = some (.int .i64 er)) :
    (results Tryz.f39 tmps).run Tryz.prog W = .ok (.tuple #[bVal r e f t o a n c, .int .i64 er]) W := by
  simp [results, Tryz.results39, t1, t2, asAddr, load_berth d]
set_option maxRecDepth 20000 in
set_option maxHeartbeats 4000000 in
theorem bmake_any (B : Bt) (a : Option Addr) (c : Nat) (ep : Int) (w : World) (hb : BIn w B a c) : Calls Tryz.prog 39 #[bVal B.r B.e B.f B.t B.o a B.es.length c, .int .i64 ep] w fun x w' => ∃ y B' er, x = .returned (.tuple #[y, .int .i64 er]) ∧ makeOf B ep = (B', er) ∧ BOut w w' B' y ∧ Below w.heap.size w w' := by
  have HE := fun w => isEpoch_any ep w
  by_cases ok : B.Ok
  case neg =>
    go_enter Tryz.func39, Tryz.ntmps39
    go_upto_region 1 with fail
    obtain ⟨W1, hW1, M1⟩ := Mb.made w B a c
    rw [← hW1]
    clear hW1
    have HC := bcheck_no B a c W1 (hb.next M1.bel) ok
    obtain ⟨x0, x1, x2, x3, x4, x5⟩ := M1.b.cells
    have HM := veil M1
    clear M1
    go_wp2_with (first | (go_at_call 28; refine HC.mono ?_; rintro x W2 ⟨rfl, b2⟩; clear HC x0 x1 x2 x3 x4 x5; have M2 := (unveil HM).next b2; obtain ⟨x0, x1, x2, x3, x4, x5⟩ := M2.b.cells; have HM2 := veil M2; clear M2 b2 HM) | (go_at_call 42; refine (refuse_any _ _).mono ?_; rintro x W9 ⟨rfl, b9⟩; have M9 := (unveil HM2).next b9; clear x0 x1 x2 x3 x4 x5; obtain ⟨z0, z1, z2, z3, z4, z5⟩ := M9.z.cells; have zf := M9.z.free; have HM9 := veil M9; clear M9 b9 HM2))
    obtain ⟨W4, hW4, d4, b4, _⟩ := b_stored (unveil HM9).z (unveil HM9).bel (show w.heap.size ≤ w.heap.size + 1 by omega) 0 0 0 0 0 none 0 0
    rw [← hW4]
    exact bodyPost_ret (ret_bMake d4 rfl rfl) rfl ⟨_, _, _, rfl, by simp [makeOf, ok], BOut.zero _ _, b4⟩
  case pos =>
  by_cases h1 : 1 ≤ ep ∧ ep ≤ 1048576
  case neg =>
    rw [decide_eq_false h1] at HE
    go_enter Tryz.func39, Tryz.ntmps39
    go_upto_region 1 with fail
    obtain ⟨W1, hW1, M1⟩ := Mb.made w B a c
    rw [← hW1]
    clear hW1
    have HC := bcheck_yes B a c W1 (hb.next M1.bel) ok
    obtain ⟨x0, x1, x2, x3, x4, x5⟩ := M1.b.cells
    have HM := veil M1
    clear M1
    go_wp2_with (first | (go_at_call 28; refine HC.mono ?_; rintro x W2 ⟨rfl, b2⟩; clear HC x0 x1 x2 x3 x4 x5; have M2 := (unveil HM).next b2; obtain ⟨x0, x1, x2, x3, x4, x5⟩ := M2.b.cells; have HM2 := veil M2; clear M2 b2 HM) | (go_at_call 67; refine (HE _).mono ?_; rintro x w3 ⟨rfl, hw3⟩; subst w3) | (go_at_call 42; refine (refuse_any _ _).mono ?_; rintro x W9 ⟨rfl, b9⟩; have M9 := (unveil HM2).next b9; clear x0 x1 x2 x3 x4 x5; obtain ⟨z0, z1, z2, z3, z4, z5⟩ := M9.z.cells; have zf := M9.z.free; have HM9 := veil M9; clear M9 b9 HM2))
    obtain ⟨W4, hW4, d4, b4, _⟩ := b_stored (unveil HM9).z (unveil HM9).bel (show w.heap.size ≤ w.heap.size + 1 by omega) 0 0 0 0 0 none 0 0
    rw [← hW4]
    exact bodyPost_ret (ret_bMake d4 rfl rfl) rfl ⟨_, _, _, rfl, by simp [makeOf, ok, h1], BOut.zero _ _, b4⟩
  case pos =>
  rw [decide_eq_true h1] at HE
  have H1 := veil h1
  clear h1
  by_cases h2 : B.r = 0
  case neg =>
    go_enter Tryz.func39, Tryz.ntmps39
    go_upto_region 1 with fail
    obtain ⟨W1, hW1, M1⟩ := Mb.made w B a c
    rw [← hW1]
    clear hW1
    have HC := bcheck_yes B a c W1 (hb.next M1.bel) ok
    obtain ⟨x0, x1, x2, x3, x4, x5⟩ := M1.b.cells
    have HM := veil M1
    clear M1
    go_wp2_with (first | (go_at_call 28; refine HC.mono ?_; rintro x W2 ⟨rfl, b2⟩; clear HC x0 x1 x2 x3 x4 x5; have M2 := (unveil HM).next b2; obtain ⟨x0, x1, x2, x3, x4, x5⟩ := M2.b.cells; have HM2 := veil M2; clear M2 b2 HM) | (go_at_call 67; refine (HE _).mono ?_; rintro x w3 ⟨rfl, hw3⟩; subst w3) | (go_at_call 42; refine (refuse_any _ _).mono ?_; rintro x W9 ⟨rfl, b9⟩; have M9 := (unveil HM2).next b9; clear x0 x1 x2 x3 x4 x5; obtain ⟨z0, z1, z2, z3, z4, z5⟩ := M9.z.cells; have zf := M9.z.free; have HM9 := veil M9; clear M9 b9 HM2))
    obtain ⟨W4, hW4, d4, b4, _⟩ := b_stored (unveil HM9).z (unveil HM9).bel (show w.heap.size ≤ w.heap.size + 1 by omega) 0 0 0 0 0 none 0 0
    rw [← hW4]
    exact bodyPost_ret (ret_bMake d4 rfl rfl) rfl ⟨_, _, _, rfl, by simp [makeOf, ok, unveil H1, h2], BOut.zero _ _, b4⟩
  case pos =>
  have H2 := veil h2
  by_cases h3 : ep ≤ B.e
  case pos =>
    clear h2
    go_enter Tryz.func39, Tryz.ntmps39
    go_upto_region 1 with fail
    obtain ⟨W1, hW1, M1⟩ := Mb.made w B a c
    rw [← hW1]
    clear hW1
    have HC := bcheck_yes B a c W1 (hb.next M1.bel) ok
    obtain ⟨x0, x1, x2, x3, x4, x5⟩ := M1.b.cells
    have HM := veil M1
    clear M1
    go_upto_region 5 with (first | (go_at_call 28; refine HC.mono ?_; rintro x W2 ⟨rfl, b2⟩; clear HC x0 x1 x2 x3 x4 x5; have M2 := (unveil HM).next b2; obtain ⟨x0, x1, x2, x3, x4, x5⟩ := M2.b.cells; have HM2 := veil M2; clear M2 b2 HM) | (go_at_call 67; refine (HE _).mono ?_; rintro x w3 ⟨rfl, hw3⟩; subst w3))
    have h2 := unveil H2
    go_wp2_with (first | (go_at_call 42; refine (refuse_any _ _).mono ?_; rintro x W9 ⟨rfl, b9⟩; have M9 := (unveil HM2).next b9; clear x0 x1 x2 x3 x4 x5; obtain ⟨z0, z1, z2, z3, z4, z5⟩ := M9.z.cells; have zf := M9.z.free; have HM9 := veil M9; clear M9 b9 HM2))
    obtain ⟨W4, hW4, d4, b4, _⟩ := b_stored (unveil HM9).z (unveil HM9).bel (show w.heap.size ≤ w.heap.size + 1 by omega) 0 0 0 0 0 none 0 0
    rw [← hW4]
    exact bodyPost_ret (ret_bMake d4 rfl rfl) rfl ⟨_, _, _, rfl, by simp [makeOf, ok, unveil H1, h2, h3], BOut.zero _ _, b4⟩
  case neg =>
  clear h2
  go_enter Tryz.func39, Tryz.ntmps39
  go_upto_region 1 with fail
  obtain ⟨W1, hW1, M1⟩ := Mb.made w B a c
  rw [← hW1]
  clear hW1
  have HC := bcheck_yes B a c W1 (hb.next M1.bel) ok
  obtain ⟨x0, x1, x2, x3, x4, x5⟩ := M1.b.cells
  have HM := veil M1
  clear M1
  go_upto_region 5 with (first | (go_at_call 28; refine HC.mono ?_; rintro x W2 ⟨rfl, b2⟩; clear HC x0 x1 x2 x3 x4 x5; have M2 := (unveil HM).next b2; obtain ⟨x0, x1, x2, x3, x4, x5⟩ := M2.b.cells; have HM2 := veil M2; clear M2 b2 HM) | (go_at_call 67; refine (HE _).mono ?_; rintro x w3 ⟨rfl, hw3⟩; subst w3))
  have h2 := unveil H2
  go_upto_region 9 with fail
  clear x0 x1 x2 x3 x4 x5
  obtain ⟨z0, z1, z2, z3, z4, z5⟩ := (unveil HM2).z.cells
  have zf := (unveil HM2).z.free
  go_wp2
  obtain ⟨W4, hW4, d4, b4, _⟩ := b_stored (unveil HM2).z (unveil HM2).bel (show w.heap.size ≤ w.heap.size + 1 by omega) 1 ep 0 0 0 none 0 0
  rw [← hW4]
  exact bodyPost_ret (ret_bMake d4 rfl rfl) rfl ⟨_, ⟨1, ep, 0, 0, 0, []⟩, 0, rfl, by simp [makeOf, ok, unveil H1, h2, h3], ⟨none, 0, rfl, ⟨RowK.nil _ _ _, Nat.le_refl _, fun _ => rfl⟩, fun x hx => by cases hx⟩, b4⟩
theorem ret_bGo {W : World} {R : Nat} {r e f t o : Int} {a : Option Addr} {n c : Nat} {er : Int} {tmps : Array Value} (d : bBlock W R r e f t o a n c) (t1 : tmps[4]? = some (.pointer (some ⟨R, 0, none⟩))) (t2 : tmps[5]? = some (.int .i64 er)) :
    (results Tryz.f20 tmps).run Tryz.prog W = .ok (.tuple #[bVal r e f t o a n c, .int .i64 er]) W := by
  simp [results, Tryz.results20, t1, t2, asAddr, load_berth d]
set_option maxRecDepth 20000 in
set_option maxHeartbeats 4000000 in
theorem bgo_any (B : Bt) (a : Option Addr) (c : Nat) (nd : Int) (w : World) (hb : BIn w B a c) : Calls Tryz.prog 20 #[bVal B.r B.e B.f B.t B.o a B.es.length c, .int .i64 nd] w fun x w' => ∃ y B' er, x = .returned (.tuple #[y, .int .i64 er]) ∧ goesOf B nd = (B', er) ∧ BOut w w' B' y ∧ Below w.heap.size w w' := by
  have HN := fun w => isBerthNode_any nd w
  have HS := fun w => isSource_any B.r B.e B.f B.t B.o a B.es.length c w
  by_cases ok : B.Ok
  case neg =>
    go_enter Tryz.func20, Tryz.ntmps20
    go_upto_region 1 with fail
    obtain ⟨W1, hW1, M1⟩ := Mb.made w B a c
    rw [← hW1]
    clear hW1
    have HC := bcheck_no B a c W1 (hb.next M1.bel) ok
    obtain ⟨x0, x1, x2, x3, x4, x5⟩ := M1.b.cells
    have HM := veil M1
    clear M1
    go_wp2_with (first | (go_at_call 28; refine HC.mono ?_; rintro x W2 ⟨rfl, b2⟩; clear HC x0 x1 x2 x3 x4 x5; have M2 := (unveil HM).next b2; obtain ⟨x0, x1, x2, x3, x4, x5⟩ := M2.b.cells; have HM2 := veil M2; clear M2 b2 HM) | (go_at_call 42; refine (refuse_any _ _).mono ?_; rintro x W9 ⟨rfl, b9⟩; have M9 := (unveil HM2).next b9; clear x0 x1 x2 x3 x4 x5; obtain ⟨z0, z1, z2, z3, z4, z5⟩ := M9.z.cells; have zf := M9.z.free; have HM9 := veil M9; clear M9 b9 HM2))
    obtain ⟨W4, hW4, d4, b4, _⟩ := b_stored (unveil HM9).z (unveil HM9).bel (show w.heap.size ≤ w.heap.size + 1 by omega) 0 0 0 0 0 none 0 0
    rw [← hW4]
    exact bodyPost_ret (ret_bGo d4 rfl rfl) rfl ⟨_, _, _, rfl, by simp [goesOf, ok], BOut.zero _ _, b4⟩
  case pos =>
  by_cases h1 : 0 ≤ nd ∧ nd ≤ 4
  case neg =>
    rw [decide_eq_false h1] at HN
    go_enter Tryz.func20, Tryz.ntmps20
    go_upto_region 1 with fail
    obtain ⟨W1, hW1, M1⟩ := Mb.made w B a c
    rw [← hW1]
    clear hW1
    have HC := bcheck_yes B a c W1 (hb.next M1.bel) ok
    obtain ⟨x0, x1, x2, x3, x4, x5⟩ := M1.b.cells
    have HM := veil M1
    clear M1
    go_wp2_with (first | (go_at_call 28; refine HC.mono ?_; rintro x W2 ⟨rfl, b2⟩; clear HC x0 x1 x2 x3 x4 x5; have M2 := (unveil HM).next b2; obtain ⟨x0, x1, x2, x3, x4, x5⟩ := M2.b.cells; have HM2 := veil M2; clear M2 b2 HM) | (go_at_call 43; refine (HN _).mono ?_; rintro x w3 ⟨rfl, hw3⟩; subst w3) | (go_at_call 42; refine (refuse_any _ _).mono ?_; rintro x W9 ⟨rfl, b9⟩; have M9 := (unveil HM2).next b9; clear x0 x1 x2 x3 x4 x5; obtain ⟨z0, z1, z2, z3, z4, z5⟩ := M9.z.cells; have zf := M9.z.free; have HM9 := veil M9; clear M9 b9 HM2))
    obtain ⟨W4, hW4, d4, b4, _⟩ := b_stored (unveil HM9).z (unveil HM9).bel (show w.heap.size ≤ w.heap.size + 1 by omega) 0 0 0 0 0 none 0 0
    rw [← hW4]
    exact bodyPost_ret (ret_bGo d4 rfl rfl) rfl ⟨_, _, _, rfl, by simp [goesOf, ok, h1], BOut.zero _ _, b4⟩
  case pos =>
  rw [decide_eq_true h1] at HN
  have H1 := veil h1
  clear h1
  by_cases h2 : B.r = 2 ∨ B.r = 3
  case pos =>
    rw [decide_eq_true h2] at HS
    have H2 := veil h2
    clear h2
    go_enter Tryz.func20, Tryz.ntmps20
    go_upto_region 1 with fail
    obtain ⟨W1, hW1, M1⟩ := Mb.made w B a c
    rw [← hW1]
    clear hW1
    have HC := bcheck_yes B a c W1 (hb.next M1.bel) ok
    obtain ⟨x0, x1, x2, x3, x4, x5⟩ := M1.b.cells
    have HM := veil M1
    clear M1
    go_wp2_with (first | (go_at_call 28; refine HC.mono ?_; rintro x W2 ⟨rfl, b2⟩; clear HC x0 x1 x2 x3 x4 x5; have M2 := (unveil HM).next b2; obtain ⟨x0, x1, x2, x3, x4, x5⟩ := M2.b.cells; have HM2 := veil M2; clear M2 b2 HM) | (go_at_call 43; refine (HN _).mono ?_; rintro x w3 ⟨rfl, hw3⟩; subst w3) | (go_at_call 44; refine (HS _).mono ?_; rintro x W3 ⟨rfl, b3⟩; have M3 := (unveil HM2).next b3; clear HM2 x0 x1 x2 x3 x4 x5; obtain ⟨x0, x1, x2, x3, x4, x5⟩ := M3.b.cells; have HM2 := veil M3; clear M3 b3 HS) | (go_at_call 42; refine (refuse_any _ _).mono ?_; rintro x W9 ⟨rfl, b9⟩; have M9 := (unveil HM2).next b9; clear x0 x1 x2 x3 x4 x5; obtain ⟨z0, z1, z2, z3, z4, z5⟩ := M9.z.cells; have zf := M9.z.free; have HM9 := veil M9; clear M9 b9 HM2))
    obtain ⟨W4, hW4, d4, b4, _⟩ := b_stored (unveil HM9).z (unveil HM9).bel (show w.heap.size ≤ w.heap.size + 1 by omega) 0 0 0 0 0 none 0 0
    rw [← hW4]
    exact bodyPost_ret (ret_bGo d4 rfl rfl) rfl ⟨_, _, _, rfl, by simp only [goesOf]; rw [if_neg (fun h => h ok), if_neg (fun h => h (unveil H1)), if_pos (unveil H2)], BOut.zero _ _, b4⟩
  case neg =>
  rw [decide_eq_false h2] at HS
  have H2 := veil h2
  clear h2
  by_cases h3 : B.r = 1
  case neg =>
    go_enter Tryz.func20, Tryz.ntmps20
    go_upto_region 1 with fail
    obtain ⟨W1, hW1, M1⟩ := Mb.made w B a c
    rw [← hW1]
    clear hW1
    have HC := bcheck_yes B a c W1 (hb.next M1.bel) ok
    obtain ⟨x0, x1, x2, x3, x4, x5⟩ := M1.b.cells
    have HM := veil M1
    clear M1
    go_wp2_with (first | (go_at_call 28; refine HC.mono ?_; rintro x W2 ⟨rfl, b2⟩; clear HC x0 x1 x2 x3 x4 x5; have M2 := (unveil HM).next b2; obtain ⟨x0, x1, x2, x3, x4, x5⟩ := M2.b.cells; have HM2 := veil M2; clear M2 b2 HM) | (go_at_call 43; refine (HN _).mono ?_; rintro x w3 ⟨rfl, hw3⟩; subst w3) | (go_at_call 44; refine (HS _).mono ?_; rintro x W3 ⟨rfl, b3⟩; have M3 := (unveil HM2).next b3; clear HM2 x0 x1 x2 x3 x4 x5; obtain ⟨x0, x1, x2, x3, x4, x5⟩ := M3.b.cells; have HM2 := veil M3; clear M3 b3 HS) | (go_at_call 42; refine (refuse_any _ _).mono ?_; rintro x W9 ⟨rfl, b9⟩; have M9 := (unveil HM2).next b9; clear x0 x1 x2 x3 x4 x5; obtain ⟨z0, z1, z2, z3, z4, z5⟩ := M9.z.cells; have zf := M9.z.free; have HM9 := veil M9; clear M9 b9 HM2))
    obtain ⟨W4, hW4, d4, b4, _⟩ := b_stored (unveil HM9).z (unveil HM9).bel (show w.heap.size ≤ w.heap.size + 1 by omega) 0 0 0 0 0 none 0 0
    rw [← hW4]
    exact bodyPost_ret (ret_bGo d4 rfl rfl) rfl ⟨_, _, _, rfl, by simp only [goesOf]; rw [if_neg (fun h => h ok), if_neg (fun h => h (unveil H1)), if_neg (unveil H2), if_pos h3], BOut.zero _ _, b4⟩
  case pos =>
  have H3 := veil h3
  clear h3
  by_cases h4 : B.e = 1048576
  case pos =>
    have H4 := veil h4
    clear h4
    go_enter Tryz.func20, Tryz.ntmps20
    go_upto_region 1 with fail
    obtain ⟨W1, hW1, M1⟩ := Mb.made w B a c
    rw [← hW1]
    clear hW1
    have HC := bcheck_yes B a c W1 (hb.next M1.bel) ok
    obtain ⟨x0, x1, x2, x3, x4, x5⟩ := M1.b.cells
    have HM := veil M1
    clear M1
    go_upto_region 7 with (first | (go_at_call 28; refine HC.mono ?_; rintro x W2 ⟨rfl, b2⟩; clear HC x0 x1 x2 x3 x4 x5; have M2 := (unveil HM).next b2; obtain ⟨x0, x1, x2, x3, x4, x5⟩ := M2.b.cells; have HM2 := veil M2; clear M2 b2 HM) | (go_at_call 43; refine (HN _).mono ?_; rintro x w3 ⟨rfl, hw3⟩; subst w3) | (go_at_call 44; refine (HS _).mono ?_; rintro x W3 ⟨rfl, b3⟩; have M3 := (unveil HM2).next b3; clear HM2 x0 x1 x2 x3 x4 x5; obtain ⟨x0, x1, x2, x3, x4, x5⟩ := M3.b.cells; have HM2 := veil M3; clear M3 b3 HS))
    have h3 := unveil H3
    have h4 := unveil H4
    go_wp2_with (first | (go_at_call 42; refine (refuse_any _ _).mono ?_; rintro x W9 ⟨rfl, b9⟩; have M9 := (unveil HM2).next b9; clear x0 x1 x2 x3 x4 x5; obtain ⟨z0, z1, z2, z3, z4, z5⟩ := M9.z.cells; have zf := M9.z.free; have HM9 := veil M9; clear M9 b9 HM2))
    obtain ⟨W4, hW4, d4, b4, _⟩ := b_stored (unveil HM9).z (unveil HM9).bel (show w.heap.size ≤ w.heap.size + 1 by omega) 0 0 0 0 0 none 0 0
    rw [← hW4]
    exact bodyPost_ret (ret_bGo d4 rfl rfl) rfl ⟨_, _, _, rfl, by simp only [goesOf]; rw [if_neg (fun h => h ok), if_neg (fun h => h (unveil H1)), if_neg (unveil H2), if_neg (fun h => h h3), if_pos h4], BOut.zero _ _, b4⟩
  case neg =>
  go_enter Tryz.func20, Tryz.ntmps20
  go_upto_region 1 with fail
  obtain ⟨W1, hW1, M1⟩ := Mb.made w B a c
  rw [← hW1]
  clear hW1
  have HC := bcheck_yes B a c W1 (hb.next M1.bel) ok
  obtain ⟨x0, x1, x2, x3, x4, x5⟩ := M1.b.cells
  have HM := veil M1
  clear M1
  go_upto_region 7 with (first | (go_at_call 28; refine HC.mono ?_; rintro x W2 ⟨rfl, b2⟩; clear HC x0 x1 x2 x3 x4 x5; have M2 := (unveil HM).next b2; obtain ⟨x0, x1, x2, x3, x4, x5⟩ := M2.b.cells; have HM2 := veil M2; clear M2 b2 HM) | (go_at_call 43; refine (HN _).mono ?_; rintro x w3 ⟨rfl, hw3⟩; subst w3) | (go_at_call 44; refine (HS _).mono ?_; rintro x W3 ⟨rfl, b3⟩; have M3 := (unveil HM2).next b3; clear HM2 x0 x1 x2 x3 x4 x5; obtain ⟨x0, x1, x2, x3, x4, x5⟩ := M3.b.cells; have HM2 := veil M3; clear M3 b3 HS))
  have h3 := unveil H3
  go_upto_region 11 with fail
  clear h3
  have xf := (unveil HM2).b.free
  go_upto_region 12 with fail
  obtain ⟨W6, hW6, k3, t3⟩ : ∃ W6, W6 = (W3.setCell ⟨w.heap.size, 0, none⟩ (.int .i64 2)).setCell ⟨w.heap.size, 3, none⟩ (.int .i64 nd) ∧ bBlock W6 w.heap.size 2 B.e B.f nd B.o a B.es.length c ∧ Turned w.heap.size W3 W6 := by
    refine ⟨_, rfl, ?_, (Turned.set _ _ _ _).trans (Turned.set _ _ _ _)⟩
    have := (unveil HM2).b
    unfold bBlock at this ⊢
    rw [heap_setB (heap_setB this)]
    simp
  rw [← hW6]
  have z3 := (unveil HM2).z.turned t3 (by omega)
  have B3 := t3.under (unveil HM2).bel (Nat.le_refl _)
  have hlt := hb.row
  have i3 : BIn W6 ⟨2, B.e, B.f, nd, B.o, B.es⟩ a c := ⟨t3.row (hb.row.below (unveil HM2).bel) (fun x hx h0 => by have := hb.row.blk_lt x hx h0; omega), hb.cap, hb.nil⟩
  have HW := bwith_none ⟨2, B.e, B.f, nd, B.o, B.es⟩ a c W6 i3 ok.len
  obtain ⟨y0, y1, y2, y3, y4, y5⟩ := k3.cells
  have HZ := veil z3
  have HB := veil B3
  clear hW6 x0 x1 x2 x3 x4 x5 xf k3 t3 z3 B3 i3 hlt
  go_wp2_with (go_at_call 45; refine HW.mono ?_; rintro x W5 ⟨y, rfl, ⟨⟨a', c', rfl, i5, u5⟩⟩, b5⟩; have z5 := (unveil HZ).next b5; obtain ⟨z0, z1, z2, z3, z4, z5'⟩ := z5.cells; have zf := z5.free; have HZ5 := veil z5; have HB5 := veil (Below.next (unveil HB) b5); have HI5 := veil i5; have HU5 := veil u5; have hs5 := (unveil HB).size; clear HW y0 y1 y2 y3 y4 y5 z5 b5 i5 u5)
  obtain ⟨W4, hW4, d4, b4, t4⟩ := b_stored (unveil HZ5) (unveil HB5) (show w.heap.size ≤ w.heap.size + 1 by omega) 2 B.e B.f nd B.o a' B.es.length c'
  rw [← hW4]
  have h3 := unveil H3
  have hz := (unveil HZ).lt
  exact bodyPost_ret (ret_bGo d4 rfl rfl) rfl ⟨_, ⟨2, B.e, B.f, nd, B.o, B.es⟩, 0, rfl, by simp only [goesOf]; rw [if_neg (fun h => h ok), if_neg (fun h => h (unveil H1)), if_neg (unveil H2), if_neg (fun h => h h3), if_neg h4], ⟨a', c', rfl, (unveil HI5).turned t4 (fun x hx _ => by have := unveil HU5 x hx; omega), fun x hx => by have := unveil HU5 x hx; omega⟩, b4⟩
end Go.Proofs.YtcdopnkabbfooaaGreat

namespace Go.Proofs.YtcdopnkabbfooaaGreat
open Go.RowKit

theorem row_ev (W : World) (k p i b he hn : Int) (hw : ∀ u ∈ [k, p, i, b, he, hn], (Lit.int .i64 u).wf = true) : RowK .i64 (W.alloc (.cells #[.int .i64 k, .int .i64 p, .int .i64 i, .int .i64 b, .int .i64 he, .int .i64 hn] 28)) (some ⟨W.heap.size, 0, none⟩) 6 [k, p, i, b, he, hn] := by
  have h := heap_alloc_new W (.cells #[.int .i64 k, .int .i64 p, .int .i64 i, .int .i64 b, .int .i64 he, .int .i64 hn] 28)
  generalize W.alloc (.cells #[.int .i64 k, .int .i64 p, .int .i64 i, .int .i64 b, .int .i64 he, .int .i64 hn] 28) = W' at h ⊢
  refine ⟨rfl, hw, fun j hj => ⟨W.heap.size, 0, rfl, block_lt h, ?_⟩⟩
  have hj' : j = 0 ∨ j = 1 ∨ j = 2 ∨ j = 3 ∨ j = 4 ∨ j = 5 := by omega
  rcases hj' with rfl | rfl | rfl | rfl | rfl | rfl <;> simp [World.cell?, h]
theorem row_brk (W : World) : RowK .i64 (W.alloc (.cells #[.int .i64 4, .int .i64 0, .int .i64 0, .int .i64 0, .int .i64 0, .int .i64 0] 28)) (some ⟨W.heap.size, 0, none⟩) 6 [4, 0, 0, 0, 0, 0] := row_ev W 4 0 0 0 0 0 (by decide)
theorem ret_broken {W : World} {R : Nat} {r e f t o : Int} {a : Option Addr} {n c : Nat} {tmps : Array Value} (d : bBlock W R r e f t o a n c) (t2 : tmps[2]? = some (.pointer (some ⟨R, 0, none⟩))) :
    (results Tryz.f74 tmps).run Tryz.prog W = .ok (bVal r e f t o a n c) W := by
  simp [results, Tryz.results74, t2, asAddr, load_berth d]
set_option maxRecDepth 20000 in
set_option maxHeartbeats 4000000 in
theorem broken_any (B : Bt) (a : Option Addr) (c : Nat) (w : World) (hb : BIn w B a c) (hs : B.es.length ≤ 900000) :
    Calls Tryz.prog 74 #[bVal B.r B.e B.f B.t B.o a B.es.length c] w fun x w' => ∃ y, x = .returned y ∧ BOut w w' B.broken y ∧ Below w.heap.size w w' := by
  have HC : Hid (∀ W g, Below w.heap.size w W → RowK .i64 W (some ⟨g, 0, none⟩) 6 [4, 0, 0, 0, 0, 0] → Calls Tryz.prog 71 #[.slice a B.es.length c, .slice (some ⟨g, 0, none⟩) 1 1] W fun e w' => ∃ a' c', e = .returned (.slice a' (B.es.length + 1 : Nat) c') ∧ RowK .i64 w' a' (6 * (B.es.length + 1)) (evFlat B.es ++ [4, 0, 0, 0, 0, 0]) ∧ B.es.length + 1 ≤ c' ∧ (a' = none → c' = 0) ∧ (∀ x, a' = some x → W.heap.size ≤ x.block) ∧ Below W.heap.size W w') := veil fun W g bb hr => behind_any a (some ⟨g, 0, none⟩) B.es.length c 1 1 (evFlat B.es) [4, 0, 0, 0, 0, 0] W (hb.row.below bb) hr hb.nil (fun h => by cases h) (by omega)
  clear hb
  obtain ⟨n, hn⟩ : ∃ n, n = B.es.length + 1 := ⟨_, rfl⟩
  rw [← hn] at HC
  have HN := veil hn
  clear hn
  go_enter Tryz.func74, Tryz.ntmps74
  go_upto_region 1 with fail
  obtain ⟨W1, hW1, M1⟩ := Mb.made w B a c
  rw [← hW1]
  clear hW1
  have h0 := M1.b.lt
  have h1 := M1.z.lt
  have hne : w.heap.size ≠ W1.heap.size := by omega
  obtain ⟨x0, x1, x2, x3, x4, x5⟩ := M1.b.cells
  have HM := veil M1
  clear M1
  refine wp_region_held_drew (S := fun v => bBlock v w.heap.size B.r B.e B.f B.t B.o a B.es.length c) (by kernel_rfl) ((unveil HM).b.next (below_drew W1)) (fun hHeld => ?_)
  refine wpAnyH_take (i := 0) (v := .pointer (some ⟨w.heap.size, 1, none⟩)) rfl (by kernel_rfl) (by kernel_rfl) (by kernel_rfl) (fun _ _ _ h => h) (Or.inl ⟨by rfl, fun _ _ => by go_simp⟩) hHeld ?_
  simp only [List.getElem_toArray, List.getElem_cons_zero, Act.put, List.setIfInBounds_toArray, List.set_cons_zero, List.set_cons_succ]
  refine wpAnyH_take (i := 1) (v := .int .i64 B.e) rfl (by kernel_rfl) (by kernel_rfl) (by kernel_rfl) (fun _ _ _ h => h) (Or.inl ⟨by rfl, fun v b => by obtain ⟨y0, y1, y2, y3, y4, y5⟩ := bBlock.cells b; go_simp⟩) hHeld ?_
  simp only [List.getElem_toArray, List.getElem_cons_zero, List.getElem_cons_succ, Act.put, List.setIfInBounds_toArray, List.set_cons_zero, List.set_cons_succ]
  refine wpAnyH_take (i := 2) (v := .pointer (some ⟨w.heap.size, 5, none⟩)) rfl (by kernel_rfl) (by kernel_rfl) (by kernel_rfl) (fun _ _ _ h => h) (Or.inl ⟨by rfl, fun _ _ => by go_simp⟩) hHeld ?_
  simp only [List.getElem_toArray, List.getElem_cons_zero, List.getElem_cons_succ, Act.put, List.setIfInBounds_toArray, List.set_cons_zero, List.set_cons_succ]
  refine wpAnyH_take (i := 3) (v := .slice a B.es.length c) rfl (by kernel_rfl) (by kernel_rfl) (by kernel_rfl) (fun _ _ _ h => h) (Or.inl ⟨by rfl, fun v b => by obtain ⟨y0, y1, y2, y3, y4, y5⟩ := bBlock.cells b; go_simp⟩) hHeld ?_
  simp only [List.getElem_toArray, List.getElem_cons_zero, List.getElem_cons_succ, Act.put, List.setIfInBounds_toArray, List.set_cons_zero, List.set_cons_succ]
  refine wpAnyH_take (i := 4) (v := .agg #[.int .i64 4, .int .i64 0, .int .i64 0, .int .i64 0, .int .i64 0, .int .i64 0]) rfl (by kernel_rfl) (by kernel_rfl) (by kernel_rfl) (fun _ _ _ h => h) (Or.inl ⟨by rfl, fun _ _ => by go_simp⟩) hHeld ?_
  simp only [List.getElem_toArray, List.getElem_cons_zero, List.getElem_cons_succ, Act.put, List.setIfInBounds_toArray, List.set_cons_zero, List.set_cons_succ]
  have M0 : Mb w W1.drew B a c := (unveil HM).next (below_drew W1)
  have hs0 : W1.heap.size = W1.drew.heap.size := rfl
  obtain ⟨W0, hW0⟩ : ∃ W0, W0 = W1.drew := ⟨_, rfl⟩
  have bW0 := below_drew W1
  rw [← hW0] at M0 hs0 bW0 hHeld ⊢
  clear hW0
  refine wpAnyH_ready (rs := [5]) (by kernel_rfl) (by simp) ?_
  refine AllReadyH.cons rfl (fun K hK => ?_) AllReadyH.nil
  simp only [List.getElem_toArray, List.getElem_cons_zero, List.getElem_cons_succ]
  go_simp
  have r5 := row_brk W0
  have b5 := below1 W0 (.cells #[.int .i64 4, .int .i64 0, .int .i64 0, .int .i64 0, .int .i64 0, .int .i64 0] 28)
  have M5 := M0.next b5
  have bW5 := Below.next bW0 b5
  generalize W0.alloc (.cells #[.int .i64 4, .int .i64 0, .int .i64 0, .int .i64 0, .int .i64 0, .int .i64 0] 28) = W5 at r5 b5 M5 bW5 ⊢
  refine hK.out _ _ M5.b (fun hHeld => ?_)
  clear hK K M0
  refine wpAnyH_ready (rs := [6]) (by kernel_rfl) (by simp) ?_
  refine AllReadyH.cons rfl (fun K hK => ?_) AllReadyH.nil
  simp only [List.getElem_toArray, List.getElem_cons_zero, List.getElem_cons_succ]
  go_simp
  refine (unveil HC W5 W0.heap.size M5.bel r5).mono ?_
  rintro x W6 ⟨a', c', rfl, r6, hc6, n6, u6, b6⟩
  have M6 := M5.next b6
  have bW6 := Below.next bW5 b6
  refine hK.out _ _ M6.b (fun hHeld => ?_)
  clear hK K
  refine wpAnyH_take (i := 7) (v := bVal 1 B.e 0 0 0 a' n c') rfl (by kernel_rfl) (by kernel_rfl) (by kernel_rfl) (fun _ _ _ h => h) (Or.inl ⟨by rfl, fun _ _ => by go_simp⟩) hHeld ?_
  simp only [List.getElem_toArray, List.getElem_cons_zero, List.getElem_cons_succ, Act.put, List.setIfInBounds_toArray, List.set_cons_zero, List.set_cons_succ]
  refine wpAnyH_ready (rs := [8]) (by kernel_rfl) (by simp) ?_
  refine AllReadyH.cons rfl (fun K hK => ?_) AllReadyH.nil
  simp only [List.getElem_toArray, List.getElem_cons_zero, List.getElem_cons_succ]
  obtain ⟨z0, z1, z2, z3, z4, z5⟩ := M6.z.cells
  have zf := M6.z.free
  go_simp
  obtain ⟨W7, hW7, d7, b7, t7⟩ := b_stored M6.z M6.bel (show w.heap.size ≤ w.heap.size + 1 by omega) 1 B.e 0 0 0 a' n c'
  rw [← hW7]
  clear hW7
  have hu6 : ∀ x, a' = some x → W1.heap.size ≤ x.block := fun x hx => by have := u6 x hx; have := b5.size; omega
  have r7 := t7.row r6 (fun x hx _ => by have := hu6 x hx; omega)
  have k7 := M6.b.turned t7 (by omega)
  have HD7 := veil d7
  have HR7 := veil r7
  have HB7 := veil b7
  have HU6 := veil hu6
  refine hK.out _ _ k7 (fun hHeld => ?_)
  clear hK K
  refine wpAnyH_done (by kernel_rfl) ?_ _
  clear z0 z1 z2 z3 z4 z5 zf M6 M5 d7 r7 b7 t7 k7 hHeld x0 x1 x2 x3 x4 x5
  go_wp2
  have hne : B.broken.es.length = n := by rw [unveil HN]; simp [Bt.broken]
  refine bodyPost_ret (ret_broken (unveil HD7) rfl) rfl ⟨_, rfl, ⟨a', c', ?_, ⟨?_, ?_, n6⟩, fun x hx => ?_⟩, unveil HB7⟩
  · rw [hne]; rfl
  · rw [hne]
    show RowK .i64 W7 a' (6 * n) (evFlat (B.es ++ [Ev.brk]))
    rw [evFlat_append]
    exact unveil HR7
  · rw [hne]; exact hc6
  · have := unveil HU6 x hx; omega
theorem one_b (w : World) (B : Bt) (a : Option Addr) (c : Nat) : ∃ W, W = w.alloc (.cells (bCells B.r B.e B.f B.t B.o a B.es.length c) 24) ∧ bBlock W w.heap.size B.r B.e B.f B.t B.o a B.es.length c ∧ Below w.heap.size w W := ⟨_, rfl, bBlock.new _ _ _ _ _ _ _ _ _, below1 _ _⟩

set_option maxRecDepth 20000 in
set_option maxHeartbeats 4000000 in
theorem mayTell_any (B : Bt) (a : Option Addr) (c : Nat) (hv : Int) (w : World) (hb : BIn w B a c) : Calls Tryz.prog 46 #[bVal B.r B.e B.f B.t B.o a B.es.length c, .int .i64 hv] w fun x w' => x = .returned (.int .i64 (tellOf B hv)) ∧ Below w.heap.size w w' := by
  have HS := fun w => isSource_any B.r B.e B.f B.t B.o a B.es.length c w
  have HW := fun w => within_any hv B.es.length w
  by_cases ok : B.Ok
  case neg =>
    rw [show tellOf B hv = 6 by simp [tellOf, ok]]
    go_enter Tryz.func46, Tryz.ntmps46
    go_upto_region 1 with fail
    obtain ⟨W1, hW1, k1, b1⟩ := one_b w B a c
    rw [← hW1]
    clear hW1
    have HC := bcheck_no B a c W1 (hb.next b1) ok
    obtain ⟨x0, x1, x2, x3, x4, x5⟩ := k1.cells
    have HK := veil k1
    clear k1
    go_wp2_with (first | (go_at_call 28; refine HC.mono ?_; rintro x W2 ⟨rfl, b2⟩; clear HC x0 x1 x2 x3 x4 x5; have k2 := (unveil HK).next b2; obtain ⟨x0, x1, x2, x3, x4, x5⟩ := k2.cells; have HK2 := veil k2; clear k2))
    go_ret
    exact ⟨rfl, Below.next b1 b2⟩
  case pos =>
  by_cases h1 : B.r = 2 ∨ B.r = 3
  case neg =>
    rw [show tellOf B hv = 7 by unfold tellOf; rw [if_neg (fun h => h ok), if_pos h1]]
    rw [decide_eq_false h1] at HS
    clear h1
    go_enter Tryz.func46, Tryz.ntmps46
    go_upto_region 1 with fail
    obtain ⟨W1, hW1, k1, b1⟩ := one_b w B a c
    rw [← hW1]
    clear hW1
    have HC := bcheck_yes B a c W1 (hb.next b1) ok
    obtain ⟨x0, x1, x2, x3, x4, x5⟩ := k1.cells
    have HK := veil k1
    clear k1
    go_wp2_with (first | (go_at_call 28; refine HC.mono ?_; rintro x W2 ⟨rfl, b2⟩; clear HC x0 x1 x2 x3 x4 x5; have k2 := (unveil HK).next b2; obtain ⟨x0, x1, x2, x3, x4, x5⟩ := k2.cells; have HK2 := veil k2; clear k2) | (go_at_call 44; refine (HS _).mono ?_; rintro x W3 ⟨rfl, b3⟩; clear x0 x1 x2 x3 x4 x5; have k3 := (unveil HK2).next b3; obtain ⟨x0, x1, x2, x3, x4, x5⟩ := k3.cells; clear k3 HS))
    go_ret
    exact ⟨rfl, Below.next (Below.next b1 b2) b3⟩
  case pos =>
  by_cases h2 : 0 ≤ hv ∧ hv ≤ B.es.length
  case neg =>
    rw [show tellOf B hv = 2 by unfold tellOf; rw [if_neg (fun h => h ok), if_neg (fun h => h h1), if_pos h2]]
    rw [decide_eq_true h1] at HS
    rw [decide_eq_false h2] at HW
    clear h1 h2
    go_enter Tryz.func46, Tryz.ntmps46
    go_upto_region 1 with fail
    obtain ⟨W1, hW1, k1, b1⟩ := one_b w B a c
    rw [← hW1]
    clear hW1
    have HC := bcheck_yes B a c W1 (hb.next b1) ok
    obtain ⟨x0, x1, x2, x3, x4, x5⟩ := k1.cells
    have HK := veil k1
    clear k1
    go_wp2_with (first | (go_at_call 28; refine HC.mono ?_; rintro x W2 ⟨rfl, b2⟩; clear HC x0 x1 x2 x3 x4 x5; have k2 := (unveil HK).next b2; obtain ⟨x0, x1, x2, x3, x4, x5⟩ := k2.cells; have HK2 := veil k2; clear k2) | (go_at_call 44; refine (HS _).mono ?_; rintro x W3 ⟨rfl, b3⟩; clear x0 x1 x2 x3 x4 x5; have k3 := (unveil HK2).next b3; obtain ⟨x0, x1, x2, x3, x4, x5⟩ := k3.cells; clear k3 HS) | (go_at_call 70; refine (HW _).mono ?_; rintro x w4 ⟨rfl, hw4⟩; subst w4))
    go_ret
    exact ⟨rfl, Below.next (Below.next b1 b2) b3⟩
  case pos =>
  rw [show tellOf B hv = 0 by unfold tellOf; rw [if_neg (fun h => h ok), if_neg (fun h => h h1), if_neg (fun h => h h2)]]
  rw [decide_eq_true h1] at HS
  rw [decide_eq_true h2] at HW
  clear h1 h2
  go_enter Tryz.func46, Tryz.ntmps46
  go_upto_region 1 with fail
  obtain ⟨W1, hW1, k1, b1⟩ := one_b w B a c
  rw [← hW1]
  clear hW1
  have HC := bcheck_yes B a c W1 (hb.next b1) ok
  obtain ⟨x0, x1, x2, x3, x4, x5⟩ := k1.cells
  have HK := veil k1
  clear k1
  go_wp2_with (first | (go_at_call 28; refine HC.mono ?_; rintro x W2 ⟨rfl, b2⟩; clear HC x0 x1 x2 x3 x4 x5; have k2 := (unveil HK).next b2; obtain ⟨x0, x1, x2, x3, x4, x5⟩ := k2.cells; have HK2 := veil k2; clear k2) | (go_at_call 44; refine (HS _).mono ?_; rintro x W3 ⟨rfl, b3⟩; clear x0 x1 x2 x3 x4 x5; have k3 := (unveil HK2).next b3; obtain ⟨x0, x1, x2, x3, x4, x5⟩ := k3.cells; clear k3 HS) | (go_at_call 70; refine (HW _).mono ?_; rintro x w4 ⟨rfl, hw4⟩; subst w4))
  go_ret
  exact ⟨rfl, Below.next (Below.next b1 b2) b3⟩
theorem tell_zero {B : Bt} {hv : Int} (h : tellOf B hv = 0) : B.Ok ∧ (B.r = 2 ∨ B.r = 3) ∧ 0 ≤ hv ∧ hv ≤ B.es.length := by
  unfold tellOf at h
  by_cases ok : B.Ok
  · rw [if_neg (fun h => h ok)] at h
    by_cases h1 : B.r = 2 ∨ B.r = 3
    · rw [if_neg (fun h => h h1)] at h
      by_cases h2 : 0 ≤ hv ∧ hv ≤ B.es.length
      · exact ⟨ok, h1, h2⟩
      · rw [if_pos h2] at h; omega
    · rw [if_pos h1] at h; omega
  · rw [if_pos ok] at h; omega
theorem ret_bCaught {W : World} {R : Nat} {r e f t o : Int} {a : Option Addr} {n c : Nat} {er : Int} {tmps : Array Value} (d : bBlock W R r e f t o a n c) (t1 : tmps[4]? = some (.pointer (some ⟨R, 0, none⟩))) (t2 : tmps[5]? = some (.int .i64 er)) :
    (results Tryz.f21 tmps).run Tryz.prog W = .ok (.tuple #[bVal r e f t o a n c, .int .i64 er]) W := by
  simp [results, Tryz.results21, t1, t2, asAddr, load_berth d]
set_option maxRecDepth 20000 in
set_option maxHeartbeats 4000000 in
theorem bcaught_any (B : Bt) (a : Option Addr) (c : Nat) (hv : Int) (w : World) (hb : BIn w B a c) : Calls Tryz.prog 21 #[bVal B.r B.e B.f B.t B.o a B.es.length c, .int .i64 hv] w fun x w' => ∃ y B' er, x = .returned (.tuple #[y, .int .i64 er]) ∧ caughtOf B hv = (B', er) ∧ BOut w w' B' y ∧ Below w.heap.size w w' := by
  obtain ⟨g, hg⟩ : ∃ g, tellOf B hv = g := ⟨_, rfl⟩
  have HG := veil hg
  go_enter Tryz.func21, Tryz.ntmps21
  go_upto_region 1 with fail
  obtain ⟨W1, hW1, M1⟩ := Mb.made w B a c
  rw [← hW1]
  clear hW1
  have HT := mayTell_any B a c hv W1 (hb.next M1.bel)
  rw [hg] at HT
  clear hg
  obtain ⟨x0, x1, x2, x3, x4, x5⟩ := M1.b.cells
  have HM := veil M1
  clear M1
  go_upto_region 2 with (first | (go_at_call 46; refine HT.mono ?_; rintro x W2 ⟨rfl, b2⟩; clear HT x0 x1 x2 x3 x4 x5; have M2 := (unveil HM).next b2; obtain ⟨x0, x1, x2, x3, x4, x5⟩ := M2.b.cells; have HM2 := veil M2; clear M2 b2 HM))
  by_cases h0 : g = 0
  case neg =>
    go_wp2_with (first | (go_at_call 42; refine (refuse_any _ _).mono ?_; rintro x W9 ⟨rfl, b9⟩; have M9 := (unveil HM2).next b9; clear x0 x1 x2 x3 x4 x5; obtain ⟨z0, z1, z2, z3, z4, z5⟩ := M9.z.cells; have zf := M9.z.free; have HM9 := veil M9; clear M9 b9 HM2))
    obtain ⟨W4, hW4, d4, b4, _⟩ := b_stored (unveil HM9).z (unveil HM9).bel (show w.heap.size ≤ w.heap.size + 1 by omega) 0 0 0 0 0 none 0 0
    rw [← hW4]
    exact bodyPost_ret (ret_bCaught d4 rfl rfl) rfl ⟨_, _, _, rfl, by unfold caughtOf; rw [unveil HG, if_pos h0], BOut.zero _ _, b4⟩
  case pos =>
  subst h0
  obtain ⟨ok, h1, h2, h3⟩ := tell_zero (unveil HG)
  have HV := veil (And.intro h2 h3)
  clear h2 h3
  have hst := ok.stand
  have h4 : B.r = 3 ∨ (¬ B.r = 3 ∧ 0 ≤ B.o ∧ B.o ≤ 4) := by unfold Bt.Stand standP at hst; omega
  clear hst h1
  rcases h4 with h4 | ⟨h4, h5, h6⟩
  · have H4 := veil h4
    clear h4
    go_upto_region 5 with fail
    have h4 := unveil H4
    go_upto_region 8 with fail
    clear h4
    obtain ⟨W6, hW6⟩ : ∃ W6, W6 = W2 := ⟨_, rfl⟩
    have k6 := (unveil HM2).b
    have z6 := (unveil HM2).z
    have B6 := (unveil HM2).bel
    rw [← hW6] at k6 z6 B6 ⊢
    have i6 : BIn W6 B a c := hb.next B6
    have HW := bwith_none B a c W6 i6 ok.len
    obtain ⟨y0, y1, y2, y3, y4, y5⟩ := k6.cells
    have HZ := veil z6
    have HB := veil B6
    clear hW6 x0 x1 x2 x3 x4 x5 k6 z6 B6 i6
    go_wp2_with (go_at_call 45; refine HW.mono ?_; rintro x W5 ⟨y, rfl, ⟨⟨a', c', rfl, i5, u5⟩⟩, b5⟩; have z5 := (unveil HZ).next b5; obtain ⟨z0, z1, z2, z3, z4, z5'⟩ := z5.cells; have zf := z5.free; have HZ5 := veil z5; have HB5 := veil (Below.next (unveil HB) b5); have HI5 := veil i5; have HU5 := veil u5; have hs5 := (unveil HB).size; clear HW y0 y1 y2 y3 y4 y5 z5 b5 i5 u5)
    obtain ⟨W4, hW4, d4, b4, t4⟩ := b_stored (unveil HZ5) (unveil HB5) (show w.heap.size ≤ w.heap.size + 1 by omega) (B.r) (B.e) (B.f) (B.t) (B.o) a' B.es.length c'
    rw [← hW4]
    have hz := (unveil HZ).lt
    exact bodyPost_ret (ret_bCaught d4 rfl rfl) rfl ⟨_, B, 0, rfl, by unfold caughtOf; rw [unveil HG, if_neg (fun h => h rfl), if_pos (unveil H4)], ⟨a', c', rfl, (unveil HI5).turned t4 (fun x hx _ => by have := unveil HU5 x hx; omega), fun x hx => by have := unveil HU5 x hx; omega⟩, b4⟩
  · by_cases h7 : hv = B.es.length
    case pos =>
      have H7 := veil h7
      clear h7
      go_upto_region 6 with fail
      have h7 := unveil H7
      have xf := (unveil HM2).b.free
      go_upto_region 8 with fail
      clear h7 xf
      obtain ⟨W6, hW6, k6, t6⟩ : ∃ W6, W6 = ((W2.setCell ⟨w.heap.size, 0, none⟩ (.int .i64 (3))).setCell ⟨w.heap.size, 4, none⟩ (.int .i64 (0))) ∧ bBlock W6 w.heap.size (3) (B.e) (B.f) (B.t) (0) a B.es.length c ∧ Turned w.heap.size W2 W6 := by
        refine ⟨_, rfl, ?_, (Turned.set _ _ _ _).trans (Turned.set _ _ _ _)⟩
        have := (unveil HM2).b
        unfold bBlock at this ⊢
        rw [heap_setB (heap_setB this)]
        simp
      rw [← hW6]
      have z6 := (unveil HM2).z.turned t6 (by omega)
      have B6 := t6.under (unveil HM2).bel (Nat.le_refl _)
      have i6 : BIn W6 ⟨3, B.e, B.f, B.t, 0, B.es⟩ a c := ⟨t6.row (hb.row.below (unveil HM2).bel) (fun x hx h0 => by have := hb.row.blk_lt x hx h0; omega), hb.cap, hb.nil⟩
      have HW := bwith_none ⟨3, B.e, B.f, B.t, 0, B.es⟩ a c W6 i6 ok.len
      obtain ⟨y0, y1, y2, y3, y4, y5⟩ := k6.cells
      have HZ := veil z6
      have HB := veil B6
      clear hW6 x0 x1 x2 x3 x4 x5 k6 t6 z6 B6 i6
      go_wp2_with (go_at_call 45; refine HW.mono ?_; rintro x W5 ⟨y, rfl, ⟨⟨a', c', rfl, i5, u5⟩⟩, b5⟩; have z5 := (unveil HZ).next b5; obtain ⟨z0, z1, z2, z3, z4, z5'⟩ := z5.cells; have zf := z5.free; have HZ5 := veil z5; have HB5 := veil (Below.next (unveil HB) b5); have HI5 := veil i5; have HU5 := veil u5; have hs5 := (unveil HB).size; clear HW y0 y1 y2 y3 y4 y5 z5 b5 i5 u5)
      obtain ⟨W4, hW4, d4, b4, t4⟩ := b_stored (unveil HZ5) (unveil HB5) (show w.heap.size ≤ w.heap.size + 1 by omega) (3) (B.e) (B.f) (B.t) (0) a' B.es.length c'
      rw [← hW4]
      have hz := (unveil HZ).lt
      exact bodyPost_ret (ret_bCaught d4 rfl rfl) rfl ⟨_, ⟨3, B.e, B.f, B.t, 0, B.es⟩, 0, rfl, by unfold caughtOf; rw [unveil HG, if_neg (fun h => h rfl), if_neg h4, if_pos (Or.inl (unveil H7))], ⟨a', c', rfl, (unveil HI5).turned t4 (fun x hx _ => by have := unveil HU5 x hx; omega), fun x hx => by have := unveil HU5 x hx; omega⟩, b4⟩
    case neg =>
    by_cases h8 : B.o = 4
    case pos =>
      have H8 := veil h8
      clear h8
      go_upto_region 6 with fail
      have h8 := unveil H8
      have xf := (unveil HM2).b.free
      go_upto_region 8 with fail
      clear h8 xf
      obtain ⟨W6, hW6, k6, t6⟩ : ∃ W6, W6 = ((W2.setCell ⟨w.heap.size, 0, none⟩ (.int .i64 (3))).setCell ⟨w.heap.size, 4, none⟩ (.int .i64 (0))) ∧ bBlock W6 w.heap.size (3) (B.e) (B.f) (B.t) (0) a B.es.length c ∧ Turned w.heap.size W2 W6 := by
        refine ⟨_, rfl, ?_, (Turned.set _ _ _ _).trans (Turned.set _ _ _ _)⟩
        have := (unveil HM2).b
        unfold bBlock at this ⊢
        rw [heap_setB (heap_setB this)]
        simp
      rw [← hW6]
      have z6 := (unveil HM2).z.turned t6 (by omega)
      have B6 := t6.under (unveil HM2).bel (Nat.le_refl _)
      have i6 : BIn W6 ⟨3, B.e, B.f, B.t, 0, B.es⟩ a c := ⟨t6.row (hb.row.below (unveil HM2).bel) (fun x hx h0 => by have := hb.row.blk_lt x hx h0; omega), hb.cap, hb.nil⟩
      have HW := bwith_none ⟨3, B.e, B.f, B.t, 0, B.es⟩ a c W6 i6 ok.len
      obtain ⟨y0, y1, y2, y3, y4, y5⟩ := k6.cells
      have HZ := veil z6
      have HB := veil B6
      clear hW6 x0 x1 x2 x3 x4 x5 k6 t6 z6 B6 i6
      go_wp2_with (go_at_call 45; refine HW.mono ?_; rintro x W5 ⟨y, rfl, ⟨⟨a', c', rfl, i5, u5⟩⟩, b5⟩; have z5 := (unveil HZ).next b5; obtain ⟨z0, z1, z2, z3, z4, z5'⟩ := z5.cells; have zf := z5.free; have HZ5 := veil z5; have HB5 := veil (Below.next (unveil HB) b5); have HI5 := veil i5; have HU5 := veil u5; have hs5 := (unveil HB).size; clear HW y0 y1 y2 y3 y4 y5 z5 b5 i5 u5)
      obtain ⟨W4, hW4, d4, b4, t4⟩ := b_stored (unveil HZ5) (unveil HB5) (show w.heap.size ≤ w.heap.size + 1 by omega) (3) (B.e) (B.f) (B.t) (0) a' B.es.length c'
      rw [← hW4]
      have hz := (unveil HZ).lt
      exact bodyPost_ret (ret_bCaught d4 rfl rfl) rfl ⟨_, ⟨3, B.e, B.f, B.t, 0, B.es⟩, 0, rfl, by unfold caughtOf; rw [unveil HG, if_neg (fun h => h rfl), if_neg h4, if_pos (Or.inr (unveil H8))], ⟨a', c', rfl, (unveil HI5).turned t4 (fun x hx _ => by have := unveil HU5 x hx; omega), fun x hx => by have := unveil HU5 x hx; omega⟩, b4⟩
    case neg =>
    have hw : IntKind.i64.wrap (B.o + 1) = B.o + 1 := by rw [IntKind.wrap_i64]; omega
    have xf := (unveil HM2).b.free
    have e7 : (hv == (B.es.length : Int)) = false := by simpa using h7
    have e8 : (B.o == 4) = false := by simpa using h8
    go_upto_region 8 with fail
    clear xf hw e7 e8
    obtain ⟨W6, hW6, k6, t6⟩ : ∃ W6, W6 = (W2.setCell ⟨w.heap.size, 4, none⟩ (.int .i64 (B.o + 1))) ∧ bBlock W6 w.heap.size (B.r) (B.e) (B.f) (B.t) (B.o + 1) a B.es.length c ∧ Turned w.heap.size W2 W6 := by
      refine ⟨_, rfl, ?_, Turned.set _ _ _ _⟩
      have := (unveil HM2).b
      unfold bBlock at this ⊢
      rw [heap_setB this]
      simp
    rw [← hW6]
    have z6 := (unveil HM2).z.turned t6 (by omega)
    have B6 := t6.under (unveil HM2).bel (Nat.le_refl _)
    have i6 : BIn W6 ⟨B.r, B.e, B.f, B.t, B.o + 1, B.es⟩ a c := ⟨t6.row (hb.row.below (unveil HM2).bel) (fun x hx h0 => by have := hb.row.blk_lt x hx h0; omega), hb.cap, hb.nil⟩
    have HW := bwith_none ⟨B.r, B.e, B.f, B.t, B.o + 1, B.es⟩ a c W6 i6 ok.len
    obtain ⟨y0, y1, y2, y3, y4, y5⟩ := k6.cells
    have HZ := veil z6
    have HB := veil B6
    clear hW6 x0 x1 x2 x3 x4 x5 k6 t6 z6 B6 i6
    go_wp2_with (go_at_call 45; refine HW.mono ?_; rintro x W5 ⟨y, rfl, ⟨⟨a', c', rfl, i5, u5⟩⟩, b5⟩; have z5 := (unveil HZ).next b5; obtain ⟨z0, z1, z2, z3, z4, z5'⟩ := z5.cells; have zf := z5.free; have HZ5 := veil z5; have HB5 := veil (Below.next (unveil HB) b5); have HI5 := veil i5; have HU5 := veil u5; have hs5 := (unveil HB).size; clear HW y0 y1 y2 y3 y4 y5 z5 b5 i5 u5)
    obtain ⟨W4, hW4, d4, b4, t4⟩ := b_stored (unveil HZ5) (unveil HB5) (show w.heap.size ≤ w.heap.size + 1 by omega) (B.r) (B.e) (B.f) (B.t) (B.o + 1) a' B.es.length c'
    rw [← hW4]
    have hz := (unveil HZ).lt
    exact bodyPost_ret (ret_bCaught d4 rfl rfl) rfl ⟨_, ⟨B.r, B.e, B.f, B.t, B.o + 1, B.es⟩, 0, rfl, by unfold caughtOf; rw [unveil HG, if_neg (fun h => h rfl), if_neg h4, if_neg (fun h => h.elim h7 h8)], ⟨a', c', rfl, (unveil HI5).turned t4 (fun x hx _ => by have := unveil HU5 x hx; omega), fun x hx => by have := unveil HU5 x hx; omega⟩, b4⟩
end Go.Proofs.YtcdopnkabbfooaaGreat

namespace Go.Proofs.YtcdopnkabbfooaaGreat
open Go.RowKit

theorem ret_bBegin {W : World} {R : Nat} {r e f t o : Int} {a : Option Addr} {n c : Nat} {er : Int} {tmps : Array Value} (d : bBlock W R r e f t o a n c) (t1 : tmps[6]? = some (.pointer (some ⟨R, 0, none⟩))) (t2 : tmps[7]? = some (.int .i64 er)) :
    (results Tryz.f47 tmps).run Tryz.prog W = .ok (.tuple #[bVal r e f t o a n c, .int .i64 er]) W := by
  simp [results, Tryz.results47, t1, t2, asAddr, load_berth d]
set_option maxRecDepth 20000 in
set_option maxHeartbeats 4000000 in
theorem bbegin_any (B : Bt) (a : Option Addr) (c : Nat) (ep fr : Int) (w : World) (hb : BIn w B a c) : Calls Tryz.prog 47 #[bVal B.r B.e B.f B.t B.o a B.es.length c, .int .i64 ep, .int .i64 fr] w fun x w' => ∃ y B' er, x = .returned (.tuple #[y, .int .i64 er]) ∧ beginOf B ep fr = (B', er) ∧ BOut w w' B' y ∧ Below w.heap.size w w' := by
  have HE := fun w => isEpoch_any ep w
  have HN := fun w => isBerthNode_any fr w
  have HS := fun w => serves_any B.r B.e B.f B.t B.o a B.es.length c w
  by_cases ok : B.Ok
  case neg =>
    go_enter Tryz.func47, Tryz.ntmps47
    go_upto_region 1 with fail
    obtain ⟨W1, hW1, M1⟩ := Mb.made w B a c
    rw [← hW1]
    clear hW1
    have HC := bcheck_no B a c W1 (hb.next M1.bel) ok
    obtain ⟨x0, x1, x2, x3, x4, x5⟩ := M1.b.cells
    have HM := veil M1
    clear M1
    go_wp2_with (first | (go_at_call 28; refine HC.mono ?_; rintro x W2 ⟨rfl, b2⟩; clear HC x0 x1 x2 x3 x4 x5; have M2 := (unveil HM).next b2; obtain ⟨x0, x1, x2, x3, x4, x5⟩ := M2.b.cells; have HM2 := veil M2; clear M2 b2 HM) | (go_at_call 42; refine (refuse_any _ _).mono ?_; rintro x W9 ⟨rfl, b9⟩; have M9 := (unveil HM2).next b9; clear x0 x1 x2 x3 x4 x5; obtain ⟨z0, z1, z2, z3, z4, z5⟩ := M9.z.cells; have zf := M9.z.free; have HM9 := veil M9; clear M9 b9 HM2))
    obtain ⟨W4, hW4, d4, b4, _⟩ := b_stored (unveil HM9).z (unveil HM9).bel (show w.heap.size ≤ w.heap.size + 1 by omega) 0 0 0 0 0 none 0 0
    rw [← hW4]
    exact bodyPost_ret (ret_bBegin d4 rfl rfl) rfl ⟨_, _, _, rfl, by unfold beginOf; rw [if_pos ok], BOut.zero _ _, b4⟩
  case pos =>
  by_cases h1 : 1 ≤ ep ∧ ep ≤ 1048576
  case neg =>
    rw [decide_eq_false h1] at HE
    go_enter Tryz.func47, Tryz.ntmps47
    go_upto_region 1 with fail
    obtain ⟨W1, hW1, M1⟩ := Mb.made w B a c
    rw [← hW1]
    clear hW1
    have HC := bcheck_yes B a c W1 (hb.next M1.bel) ok
    obtain ⟨x0, x1, x2, x3, x4, x5⟩ := M1.b.cells
    have HM := veil M1
    clear M1
    go_wp2_with (first | (go_at_call 28; refine HC.mono ?_; rintro x W2 ⟨rfl, b2⟩; clear HC x0 x1 x2 x3 x4 x5; have M2 := (unveil HM).next b2; obtain ⟨x0, x1, x2, x3, x4, x5⟩ := M2.b.cells; have HM2 := veil M2; clear M2 b2 HM) | (go_at_call 67; refine (HE _).mono ?_; rintro x w3 ⟨rfl, hw3⟩; subst w3) | (go_at_call 42; refine (refuse_any _ _).mono ?_; rintro x W9 ⟨rfl, b9⟩; have M9 := (unveil HM2).next b9; clear x0 x1 x2 x3 x4 x5; obtain ⟨z0, z1, z2, z3, z4, z5⟩ := M9.z.cells; have zf := M9.z.free; have HM9 := veil M9; clear M9 b9 HM2))
    obtain ⟨W4, hW4, d4, b4, _⟩ := b_stored (unveil HM9).z (unveil HM9).bel (show w.heap.size ≤ w.heap.size + 1 by omega) 0 0 0 0 0 none 0 0
    rw [← hW4]
    exact bodyPost_ret (ret_bBegin d4 rfl rfl) rfl ⟨_, _, _, rfl, by unfold beginOf; rw [if_neg (fun h => h ok), if_pos (fun h => h1 h.1)], BOut.zero _ _, b4⟩
  case pos =>
  rw [decide_eq_true h1] at HE
  by_cases h2 : 0 ≤ fr ∧ fr ≤ 4
  case neg =>
    rw [decide_eq_false h2] at HN
    clear h1
    go_enter Tryz.func47, Tryz.ntmps47
    go_upto_region 1 with fail
    obtain ⟨W1, hW1, M1⟩ := Mb.made w B a c
    rw [← hW1]
    clear hW1
    have HC := bcheck_yes B a c W1 (hb.next M1.bel) ok
    obtain ⟨x0, x1, x2, x3, x4, x5⟩ := M1.b.cells
    have HM := veil M1
    clear M1
    go_wp2_with (first | (go_at_call 28; refine HC.mono ?_; rintro x W2 ⟨rfl, b2⟩; clear HC x0 x1 x2 x3 x4 x5; have M2 := (unveil HM).next b2; obtain ⟨x0, x1, x2, x3, x4, x5⟩ := M2.b.cells; have HM2 := veil M2; clear M2 b2 HM) | (go_at_call 67; refine (HE _).mono ?_; rintro x w3 ⟨rfl, hw3⟩; subst w3) | (go_at_call 43; refine (HN _).mono ?_; rintro x w3 ⟨rfl, hw3⟩; subst w3) | (go_at_call 42; refine (refuse_any _ _).mono ?_; rintro x W9 ⟨rfl, b9⟩; have M9 := (unveil HM2).next b9; clear x0 x1 x2 x3 x4 x5; obtain ⟨z0, z1, z2, z3, z4, z5⟩ := M9.z.cells; have zf := M9.z.free; have HM9 := veil M9; clear M9 b9 HM2))
    obtain ⟨W4, hW4, d4, b4, _⟩ := b_stored (unveil HM9).z (unveil HM9).bel (show w.heap.size ≤ w.heap.size + 1 by omega) 0 0 0 0 0 none 0 0
    rw [← hW4]
    exact bodyPost_ret (ret_bBegin d4 rfl rfl) rfl ⟨_, _, _, rfl, by unfold beginOf; rw [if_neg (fun h => h ok), if_pos (fun h => h2 h.2)], BOut.zero _ _, b4⟩
  case pos =>
  rw [decide_eq_true h2] at HN
  have H1 := veil (And.intro h1 h2)
  clear h1 h2
  by_cases h3 : B.r = 1 ∨ B.r = 2
  case pos =>
    rw [decide_eq_true h3] at HS
    have H3 := veil h3
    clear h3
    go_enter Tryz.func47, Tryz.ntmps47
    go_upto_region 1 with fail
    obtain ⟨W1, hW1, M1⟩ := Mb.made w B a c
    rw [← hW1]
    clear hW1
    have HC := bcheck_yes B a c W1 (hb.next M1.bel) ok
    obtain ⟨x0, x1, x2, x3, x4, x5⟩ := M1.b.cells
    have HM := veil M1
    clear M1
    go_wp2_with (first | (go_at_call 28; refine HC.mono ?_; rintro x W2 ⟨rfl, b2⟩; clear HC x0 x1 x2 x3 x4 x5; have M2 := (unveil HM).next b2; obtain ⟨x0, x1, x2, x3, x4, x5⟩ := M2.b.cells; have HM2 := veil M2; clear M2 b2 HM) | (go_at_call 67; refine (HE _).mono ?_; rintro x w3 ⟨rfl, hw3⟩; subst w3) | (go_at_call 43; refine (HN _).mono ?_; rintro x w3 ⟨rfl, hw3⟩; subst w3) | (go_at_call 72; refine (HS _).mono ?_; rintro x W3 ⟨rfl, b3⟩; have M3 := (unveil HM2).next b3; clear HM2 x0 x1 x2 x3 x4 x5; obtain ⟨x0, x1, x2, x3, x4, x5⟩ := M3.b.cells; have HM2 := veil M3; clear M3 b3 ) | (go_at_call 42; refine (refuse_any _ _).mono ?_; rintro x W9 ⟨rfl, b9⟩; have M9 := (unveil HM2).next b9; clear x0 x1 x2 x3 x4 x5; obtain ⟨z0, z1, z2, z3, z4, z5⟩ := M9.z.cells; have zf := M9.z.free; have HM9 := veil M9; clear M9 b9 HM2))
    obtain ⟨W4, hW4, d4, b4, _⟩ := b_stored (unveil HM9).z (unveil HM9).bel (show w.heap.size ≤ w.heap.size + 1 by omega) 0 0 0 0 0 none 0 0
    rw [← hW4]
    exact bodyPost_ret (ret_bBegin d4 rfl rfl) rfl ⟨_, _, _, rfl, by unfold beginOf; rw [if_neg (fun h => h ok), if_neg (fun h => h (unveil H1)), if_pos (by have := unveil H3; omega)], BOut.zero _ _, b4⟩
  case neg =>
  have H3 := veil h3
  clear h3
  by_cases h4 : B.r = 3
  case pos =>
    have H4 := veil h4
    clear h4
    go_enter Tryz.func47, Tryz.ntmps47
    go_upto_region 1 with fail
    obtain ⟨W1, hW1, M1⟩ := Mb.made w B a c
    rw [← hW1]
    clear hW1
    have HC := bcheck_yes B a c W1 (hb.next M1.bel) ok
    obtain ⟨x0, x1, x2, x3, x4, x5⟩ := M1.b.cells
    have HM := veil M1
    clear M1
    go_upto_region 5 with (first | (go_at_call 28; refine HC.mono ?_; rintro x W2 ⟨rfl, b2⟩; clear HC x0 x1 x2 x3 x4 x5; have M2 := (unveil HM).next b2; obtain ⟨x0, x1, x2, x3, x4, x5⟩ := M2.b.cells; have HM2 := veil M2; clear M2 b2 HM) | (go_at_call 67; refine (HE _).mono ?_; rintro x w3 ⟨rfl, hw3⟩; subst w3) | (go_at_call 43; refine (HN _).mono ?_; rintro x w3 ⟨rfl, hw3⟩; subst w3))
    clear HS
    have h4 := unveil H4
    go_wp2_with (first | (go_at_call 72; refine (serves_any _ _ _ _ _ _ _ _ _).mono ?_; rintro x W3 ⟨rfl, b3⟩; have M3 := (unveil HM2).next b3; clear HM2 x0 x1 x2 x3 x4 x5; obtain ⟨x0, x1, x2, x3, x4, x5⟩ := M3.b.cells; have HM2 := veil M3; clear M3 b3 ) | (go_at_call 42; refine (refuse_any _ _).mono ?_; rintro x W9 ⟨rfl, b9⟩; have M9 := (unveil HM2).next b9; clear x0 x1 x2 x3 x4 x5; obtain ⟨z0, z1, z2, z3, z4, z5⟩ := M9.z.cells; have zf := M9.z.free; have HM9 := veil M9; clear M9 b9 HM2))
    obtain ⟨W4, hW4, d4, b4, _⟩ := b_stored (unveil HM9).z (unveil HM9).bel (show w.heap.size ≤ w.heap.size + 1 by omega) 0 0 0 0 0 none 0 0
    rw [← hW4]
    exact bodyPost_ret (ret_bBegin d4 rfl rfl) rfl ⟨_, _, _, rfl, by unfold beginOf; rw [if_neg (fun h => h ok), if_neg (fun h => h (unveil H1)), if_pos (by have := unveil H4; omega)], BOut.zero _ _, b4⟩
  case neg =>
  rw [decide_eq_false (unveil H3)] at HS
  have H5 : Hid (¬ (B.r = 1 ∨ B.r = 2 ∨ B.r = 3)) := veil (by have := unveil H3; omega)
  go_enter Tryz.func47, Tryz.ntmps47
  go_upto_region 1 with fail
  obtain ⟨W1, hW1, M1⟩ := Mb.made w B a c
  rw [← hW1]
  clear hW1
  have HC := bcheck_yes B a c W1 (hb.next M1.bel) ok
  obtain ⟨x0, x1, x2, x3, x4, x5⟩ := M1.b.cells
  have HM := veil M1
  clear M1
  have e4 : (B.r == 3) = false := by simpa using h4
  go_upto_region 7 with (first | (go_at_call 28; refine HC.mono ?_; rintro x W2 ⟨rfl, b2⟩; clear HC x0 x1 x2 x3 x4 x5; have M2 := (unveil HM).next b2; obtain ⟨x0, x1, x2, x3, x4, x5⟩ := M2.b.cells; have HM2 := veil M2; clear M2 b2 HM) | (go_at_call 67; refine (HE _).mono ?_; rintro x w3 ⟨rfl, hw3⟩; subst w3) | (go_at_call 43; refine (HN _).mono ?_; rintro x w3 ⟨rfl, hw3⟩; subst w3) | (go_at_call 72; refine (HS _).mono ?_; rintro x W3 ⟨rfl, b3⟩; have M3 := (unveil HM2).next b3; clear HM2 x0 x1 x2 x3 x4 x5; obtain ⟨x0, x1, x2, x3, x4, x5⟩ := M3.b.cells; have HM2 := veil M3; clear M3 b3 ))
  clear e4 h4 HE HN
  by_cases h6 : B.r = 4 ∧ B.e = ep ∧ B.f = fr
  case pos =>
    have H6 := veil h6
    obtain ⟨h7, h8, h9⟩ := h6
    go_upto_region 8 with fail
    clear h7 h8 h9
    obtain ⟨W6, hW6⟩ : ∃ W6, W6 = W3 := ⟨_, rfl⟩
    have k6 := (unveil HM2).b
    have z6 := (unveil HM2).z
    have B6 := (unveil HM2).bel
    rw [← hW6] at k6 z6 B6 ⊢
    have i6 : BIn W6 B a c := hb.next B6
    have HW := bwith_none B a c W6 i6 ok.len
    obtain ⟨y0, y1, y2, y3, y4, y5⟩ := k6.cells
    have HZ := veil z6
    have HB := veil B6
    clear hW6 x0 x1 x2 x3 x4 x5 k6 z6 B6 i6
    go_wp2_with (go_at_call 45; refine HW.mono ?_; rintro x W5 ⟨y, rfl, ⟨⟨a', c', rfl, i5, u5⟩⟩, b5⟩; have z5 := (unveil HZ).next b5; obtain ⟨z0, z1, z2, z3, z4, z5'⟩ := z5.cells; have zf := z5.free; have HZ5 := veil z5; have HB5 := veil (Below.next (unveil HB) b5); have HI5 := veil i5; have HU5 := veil u5; have hs5 := (unveil HB).size; clear HW y0 y1 y2 y3 y4 y5 z5 b5 i5 u5)
    obtain ⟨W4, hW4, d4, b4, t4⟩ := b_stored (unveil HZ5) (unveil HB5) (show w.heap.size ≤ w.heap.size + 1 by omega) (B.r) (B.e) (B.f) (B.t) (B.o) a' B.es.length c'
    rw [← hW4]
    have hz := (unveil HZ).lt
    exact bodyPost_ret (ret_bBegin d4 rfl rfl) rfl ⟨_, B, 0, rfl, by unfold beginOf; rw [if_neg (fun h => h ok), if_neg (fun h => h (unveil H1)), if_neg (unveil H5), if_pos (unveil H6)], ⟨a', c', rfl, (unveil HI5).turned t4 (fun x hx _ => by have := unveil HU5 x hx; omega), fun x hx => by have := unveil HU5 x hx; omega⟩, b4⟩
  case neg =>
  have h6' : ((B.r == 4) = false) ∨ ((B.r == 4) = true ∧ (B.e == ep) = false) ∨ ((B.r == 4) = true ∧ (B.e == ep) = true ∧ (B.f == fr) = false) := by
    by_cases g1 : B.r = 4
    · by_cases g2 : B.e = ep
      · by_cases g3 : B.f = fr
        · exact absurd ⟨g1, g2, g3⟩ h6
        · exact .inr (.inr ⟨by simpa using g1, by simpa using g2, by simpa using g3⟩)
      · exact .inr (.inl ⟨by simpa using g1, by simpa using g2⟩)
    · exact .inl (by simpa using g1)
  by_cases h7 : ep ≤ B.e
  case pos =>
    have H6 := veil h6
    clear h6
    rcases h6' with g1 | ⟨g1, g2⟩ | ⟨g1, g2, g3⟩
    all_goals
      go_wp2_with (first | (go_at_call 42; refine (refuse_any _ _).mono ?_; rintro x W9 ⟨rfl, b9⟩; have M9 := (unveil HM2).next b9; clear x0 x1 x2 x3 x4 x5; obtain ⟨z0, z1, z2, z3, z4, z5⟩ := M9.z.cells; have zf := M9.z.free; have HM9 := veil M9; clear M9 b9 HM2))
      obtain ⟨W4, hW4, d4, b4, _⟩ := b_stored (unveil HM9).z (unveil HM9).bel (show w.heap.size ≤ w.heap.size + 1 by omega) 0 0 0 0 0 none 0 0
      rw [← hW4]
      exact bodyPost_ret (ret_bBegin d4 rfl rfl) rfl ⟨_, _, _, rfl, by unfold beginOf; rw [if_neg (fun h => h ok), if_neg (fun h => h (unveil H1)), if_neg (unveil H5), if_neg (unveil H6), if_pos h7], BOut.zero _ _, b4⟩
  case neg =>
  have H6 := veil h6
  clear h6
  have zf := (unveil HM2).z.free
  obtain ⟨z0, z1, z2, z3, z4, z5⟩ := (unveil HM2).z.cells
  rcases h6' with g1 | ⟨g1, g2⟩ | ⟨g1, g2, g3⟩
  all_goals
    go_wp2
    obtain ⟨W4, hW4, d4, b4, _⟩ := b_stored (unveil HM2).z (unveil HM2).bel (show w.heap.size ≤ w.heap.size + 1 by omega) 4 ep fr 0 0 none 0 0
    rw [← hW4]
    exact bodyPost_ret (ret_bBegin d4 rfl rfl) rfl ⟨_, ⟨4, ep, fr, 0, 0, []⟩, 0, rfl, by unfold beginOf; rw [if_neg (fun h => h ok), if_neg (fun h => h (unveil H1)), if_neg (unveil H5), if_neg (unveil H6), if_neg (by omega)], ⟨none, 0, rfl, ⟨RowK.nil _ _ _, Nat.le_refl _, fun _ => rfl⟩, fun x hx => by cases hx⟩, b4⟩
end Go.Proofs.YtcdopnkabbfooaaGreat
