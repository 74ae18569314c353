/- Walks of pack.Decode and of the function that it defers. -/
import Derived.Test.YtlfecmkpafgcmaaPkJ
import Derived.Defers
import Derived.Recover
namespace Go.Proofs.Ytlfecmkpafgcmaa
open Go.RowKit

theorem recBlock.zero {w : World} {R : Nat} {zs : List Int} (h : recBlock w R zs) :
    recBlock ((((((((((w.setCell ⟨R, 0, none⟩ (.int .i64 0)).setCell ⟨R, 1, none⟩ (.int .i64 0)).setCell ⟨R, 2, none⟩ (.int .i64 0)).setCell ⟨R, 3, none⟩ (.int .i64 0)).setCell ⟨R, 4, none⟩ (.int .i64 0)).setCell ⟨R, 5, none⟩ (.int .i64 0)).setCell ⟨R, 6, none⟩ (.int .i64 0)).setCell ⟨R, 7, none⟩ (.int .i64 0)).setCell ⟨R, 8, none⟩ (.int .i64 0)).setCell ⟨R, 9, none⟩ (.int .i64 0)) R [0, 0, 0, 0, 0, 0, 0, 0, 0, 0] := by
  have hl := h.1
  match zs, hl, h with
  | [_, _, _, _, _, _, _, _, _, _], _, h => exact (((((((((h.set 0 0).set 1 0).set 2 0).set 3 0).set 4 0).set 5 0).set 6 0).set 7 0).set 8 0).set 9 0
theorem SameBut.zero (w : World) (R : Nat) :
    SameBut R w ((((((((((w.setCell ⟨R, 0, none⟩ (.int .i64 0)).setCell ⟨R, 1, none⟩ (.int .i64 0)).setCell ⟨R, 2, none⟩ (.int .i64 0)).setCell ⟨R, 3, none⟩ (.int .i64 0)).setCell ⟨R, 4, none⟩ (.int .i64 0)).setCell ⟨R, 5, none⟩ (.int .i64 0)).setCell ⟨R, 6, none⟩ (.int .i64 0)).setCell ⟨R, 7, none⟩ (.int .i64 0)).setCell ⟨R, 8, none⟩ (.int .i64 0)).setCell ⟨R, 9, none⟩ (.int .i64 0)) :=
  (((((((((SameBut.set R 0 w _).trans (SameBut.set R 1 _ _)).trans (SameBut.set R 2 _ _)).trans (SameBut.set R 3 _ _)).trans (SameBut.set R 4 _ _)).trans (SameBut.set R 5 _ _)).trans (SameBut.set R 6 _ _)).trans (SameBut.set R 7 _ _)).trans (SameBut.set R 8 _ _)).trans (SameBut.set R 9 _ _)
theorem SameBut.below {R B : Nat} {w w' : World} (h : SameBut R w w') (hB : B ≤ R) : Below B w w' :=
  ⟨h.os, h.tape, h.output, by rw [h.size]; exact Nat.le_refl _, fun k hk => h.block k (by omega)⟩

theorem recBlock.other {w : World} {R E : Nat} {zs : List Int} (h : recBlock w R zs) (hne : R ≠ E) (o : Nat) (v : Value) : recBlock (w.setCell ⟨E, o, none⟩ v) R zs :=
  ⟨h.1, (Below.heap_setCell w _ v R hne).trans h.2⟩

theorem zeroed (R E : Nat) (zs : List Int) (x y : Int) (t : TypeId) (w : World) (hR : recBlock w R zs) (hE : w.heap[E]? = some (.cells #[.int .i64 y] t (0, 0))) (hne : R ≠ E) :
    recBlock (((((((((((w.setCell ⟨R, 0, none⟩ (.int .i64 0)).setCell ⟨R, 1, none⟩ (.int .i64 0)).setCell ⟨R, 2, none⟩ (.int .i64 0)).setCell ⟨R, 3, none⟩ (.int .i64 0)).setCell ⟨R, 4, none⟩ (.int .i64 0)).setCell ⟨R, 5, none⟩ (.int .i64 0)).setCell ⟨R, 6, none⟩ (.int .i64 0)).setCell ⟨R, 7, none⟩ (.int .i64 0)).setCell ⟨R, 8, none⟩ (.int .i64 0)).setCell ⟨R, 9, none⟩ (.int .i64 0)).setCell ⟨E, 0, none⟩ (.int .i64 x)).drew R [0, 0, 0, 0, 0, 0, 0, 0, 0, 0] ∧
    (((((((((((w.setCell ⟨R, 0, none⟩ (.int .i64 0)).setCell ⟨R, 1, none⟩ (.int .i64 0)).setCell ⟨R, 2, none⟩ (.int .i64 0)).setCell ⟨R, 3, none⟩ (.int .i64 0)).setCell ⟨R, 4, none⟩ (.int .i64 0)).setCell ⟨R, 5, none⟩ (.int .i64 0)).setCell ⟨R, 6, none⟩ (.int .i64 0)).setCell ⟨R, 7, none⟩ (.int .i64 0)).setCell ⟨R, 8, none⟩ (.int .i64 0)).setCell ⟨R, 9, none⟩ (.int .i64 0)).setCell ⟨E, 0, none⟩ (.int .i64 x)).drew.cell? ⟨E, 0, none⟩ = some (.int .i64 x) ∧
    Below (min R E) w (((((((((((w.setCell ⟨R, 0, none⟩ (.int .i64 0)).setCell ⟨R, 1, none⟩ (.int .i64 0)).setCell ⟨R, 2, none⟩ (.int .i64 0)).setCell ⟨R, 3, none⟩ (.int .i64 0)).setCell ⟨R, 4, none⟩ (.int .i64 0)).setCell ⟨R, 5, none⟩ (.int .i64 0)).setCell ⟨R, 6, none⟩ (.int .i64 0)).setCell ⟨R, 7, none⟩ (.int .i64 0)).setCell ⟨R, 8, none⟩ (.int .i64 0)).setCell ⟨R, 9, none⟩ (.int .i64 0)).setCell ⟨E, 0, none⟩ (.int .i64 x)).drew := by
  have h1 := hR.zero
  have h2 := SameBut.zero w R
  generalize ((((((((((w.setCell ⟨R, 0, none⟩ (.int .i64 0)).setCell ⟨R, 1, none⟩ (.int .i64 0)).setCell ⟨R, 2, none⟩ (.int .i64 0)).setCell ⟨R, 3, none⟩ (.int .i64 0)).setCell ⟨R, 4, none⟩ (.int .i64 0)).setCell ⟨R, 5, none⟩ (.int .i64 0)).setCell ⟨R, 6, none⟩ (.int .i64 0)).setCell ⟨R, 7, none⟩ (.int .i64 0)).setCell ⟨R, 8, none⟩ (.int .i64 0)).setCell ⟨R, 9, none⟩ (.int .i64 0)) = W at h1 h2
  have hE' : W.heap[E]? = some (.cells #[.int .i64 y] t (0, 0)) := (h2.block E (Ne.symm hne)).trans hE
  refine ⟨h1.other hne 0 _, ?_, ((h2.below (Nat.min_le_left _ _)).setCell (p := ⟨E, 0, none⟩) (Nat.min_le_right _ _) _).drew⟩
  show (W.setCell ⟨E, 0, none⟩ (.int .i64 x)).cell? ⟨E, 0, none⟩ = _
  rw [World.cell?_of_block (w := W.setCell ⟨E, 0, none⟩ (.int .i64 x)) rfl]
  have := setCell_eq_setRow W E 0 _ _ (0, 0) (.int .i64 x) hE'
  rw [this]
  simp [World.cell?, setRow_heap W E _ _ _ _ hE']

theorem catch_panicking (R E : Nat) (zs : List Int) (x y : Int) (t : TypeId) (w : World) (hR : recBlock w R zs) (hE : w.heap[E]? = some (.cells #[.int .i64 y] t (0, 0))) (hne : R ≠ E) :
    CallsD Try.prog 68 #[.pointer (some ⟨R, 0, none⟩), .pointer (some ⟨E, 0, none⟩)] (.panicking [{ v := .iface 24 (.int .i64 x), recovered := false }]) w fun e u' w' =>
      e = .returned (.tuple #[]) ∧ u' = .panicking [{ v := .iface 24 (.int .i64 x), recovered := true }] ∧ recBlock w' R [0, 0, 0, 0, 0, 0, 0, 0, 0, 0] ∧ w'.cell? ⟨E, 0, none⟩ = some (.int .i64 x) ∧ Below (min R E) w w' := by
  refine callsD_of_wpS Try.func68 rfl fun c₀ cs hu => ?_
  apply wpS_seq
  apply wpS_region
  simp [wpOpsS, go_sem, recoverD, hu, Try.ntmps68, Exit.thenS]
  have ht : #[Value.pointer (some ⟨R, 0, none⟩), Value.pointer (some ⟨E, 0, none⟩)] ++ (((Array.replicate 7 undef).setIfInBounds 1 (Value.iface 24 (.int .i64 x))).setIfInBounds 0 (Value.iface 24 (.int .i64 x))) =
      #[.pointer (some ⟨R, 0, none⟩), .pointer (some ⟨E, 0, none⟩), .iface 24 (.int .i64 x), .iface 24 (.int .i64 x), undef, undef, undef, undef, undef] := rfl
  rw [ht]
  refine wpS_of_wp ?_
  have k0 := hR.cell 0 (by omega)
  have k1 := hR.cell 1 (by omega)
  have k2 := hR.cell 2 (by omega)
  have k3 := hR.cell 3 (by omega)
  have k4 := hR.cell 4 (by omega)
  have k5 := hR.cell 5 (by omega)
  have k6 := hR.cell 6 (by omega)
  have k7 := hR.cell 7 (by omega)
  have k8 := hR.cell 8 (by omega)
  have k9 := hR.cell 9 (by omega)
  have kf := hR.free
  have ke : w.cell? ⟨E, 0, none⟩ = some (.int .i64 y) := by simp [World.cell?, hE]
  have kef : w.frozen? ⟨E, 0, none⟩ = false := by simp [World.frozen?, hE]
  have ta : ∀ W : World, (Instr.typeAssert (.iface 24 (.int .i64 x)) 20 24 false).run Try.prog W = .ok (.int .i64 x) W := fun _ => by kernel_rfl
  go_wp2
  go_region
  show bodyPostS _ _ _ _ _ _ _ _ _
  have Z := zeroed R E zs x y t w hR hE hne
  generalize (((((((((((w.setCell ⟨R, 0, none⟩ (.int .i64 0)).setCell ⟨R, 1, none⟩ (.int .i64 0)).setCell ⟨R, 2, none⟩ (.int .i64 0)).setCell ⟨R, 3, none⟩ (.int .i64 0)).setCell ⟨R, 4, none⟩ (.int .i64 0)).setCell ⟨R, 5, none⟩ (.int .i64 0)).setCell ⟨R, 6, none⟩ (.int .i64 0)).setCell ⟨R, 7, none⟩ (.int .i64 0)).setCell ⟨R, 8, none⟩ (.int .i64 0)).setCell ⟨R, 9, none⟩ (.int .i64 0)).setCell ⟨E, 0, none⟩ (.int .i64 x)).drew = W at Z
  clear k0 k1 k2 k3 k4 k5 k6 k7 k8 k9 kf ke kef ta hR hE
  simp [bodyPostS, results, Try.results68]
  exact Z

theorem catch_idle (p q : Addr) (w : World) :
    CallsD Try.prog 68 #[.pointer (some p), .pointer (some q)] .returning w fun e u' w' => e = .returned (.tuple #[]) ∧ u' = .returning ∧ w = w' := by
  refine callsD_of_wpS Try.func68 rfl fun c₀ cs hu => ?_
  apply wpS_seq
  apply wpS_region
  simp [wpOpsS, go_sem, recoverD, hu, Try.ntmps68, Exit.thenS]
  have ht : #[Value.pointer (some p), Value.pointer (some q)] ++ (((Array.replicate 7 undef).setIfInBounds 1 Value.nilIface).setIfInBounds 0 Value.nilIface) =
      #[.pointer (some p), .pointer (some q), .nilIface, .nilIface, undef, undef, undef, undef, undef] := rfl
  rw [ht]
  refine wpS_of_wp ?_
  go_wp2
  show bodyPostS _ _ _ _ _ _ _ _ _
  cases c₀
  simp_all [bodyPostS, results, Try.results68]

theorem recBlock.below {w w' : World} {R B : Nat} {zs : List Int} (h : recBlock w R zs) (hb : Below B w w') (hR : R < B) : recBlock w' R zs := ⟨h.1, (hb.block R hR).trans h.2⟩

/-- the first error among the numbers from the place s on. -/
def firstErr (l : List Int) : Nat → Nat → Int
  | _, 0 => 0
  | s, n + 1 => if errAt l s = 0 then firstErr l (s + 1) n else errAt l s

def hasEv (k : Int) : Bool := decide (k = 2 ∨ k = 5)
def numsOf (l : List Int) : List Int :=
  [numAt l 0, numAt l 1, numAt l 2, numAt l 3] ++ (if hasEv (numAt l 0) then [numAt l 4, numAt l 5, numAt l 6, numAt l 7, numAt l 8, numAt l 9] else [0, 0, 0, 0, 0, 0])
def faultOf (l : List Int) : Int := recordFault (numAt l 0) (numAt l 1) (numAt l 2) (numAt l 3) ((numsOf l).getD 4 0) ((numsOf l).getD 5 0) ((numsOf l).getD 6 0) ((numsOf l).getD 7 0) ((numsOf l).getD 8 0) ((numsOf l).getD 9 0)
def zeros : List Int := [0, 0, 0, 0, 0, 0, 0, 0, 0, 0]

/-- what bytes are decoded to: ten numbers, and the error. -/
def decodeOf (l : List Int) : List Int × Int :=
  if ¬ firstErr l 0 4 = 0 then (zeros, firstErr l 0 4)
  else if hasEv (numAt l 0) = true ∧ ¬ firstErr l 4 6 = 0 then (zeros, firstErr l 4 6)
  else if ¬ l.length = 4 * (if hasEv (numAt l 0) then 10 else 4) ∨ ¬ faultOf l = 0 then (zeros, 3)
  else (numsOf l, 0)

def recVal (zs : List Int) : Value := .agg (zs.map (Value.int .i64)).toArray


theorem firstErr_some (l : List Int) : ∀ (n s t : Nat), t < n → (∀ u, u < t → errAt l (s + u) = 0) → errAt l (s + t) ≠ 0 → firstErr l s n = errAt l (s + t)
  | 0, _, _, h, _, _ => by omega
  | n + 1, s, 0, _, _, h => by simp only [firstErr]; rw [if_neg (by simpa using h)]; rfl
  | n + 1, s, t + 1, ht, hu, h => by
    simp only [firstErr]
    rw [if_pos (by simpa using hu 0 (by omega)), firstErr_some l n (s + 1) t (by omega) (fun u hlt => by have := hu (u + 1) (by omega); rw [show s + 1 + u = s + (u + 1) by omega]; exact this) (by rw [show s + 1 + t = s + (t + 1) by omega]; exact h)]
    rw [show s + 1 + t = s + (t + 1) by omega]
theorem firstErr_none (l : List Int) : ∀ (n s : Nat), (∀ u, u < n → errAt l (s + u) = 0) → firstErr l s n = 0
  | 0, _, _ => rfl
  | n + 1, s, h => by
    simp only [firstErr]
    rw [if_pos (by simpa using h 0 (by omega))]
    exact firstErr_none l n (s + 1) (fun u hu => by rw [show s + 1 + u = s + (u + 1) by omega]; exact h (u + 1) (by omega))

theorem errAt_drop (l : List Int) (t : Nat) : errAt (l.drop (4 * 4)) t = errAt l (4 + t) := by
  unfold errAt; rw [List.drop_drop, show 4 * 4 + 4 * t = 4 * (4 + t) by omega]
theorem numAt_drop (l : List Int) (t : Nat) : numAt (l.drop (4 * 4)) t = numAt l (4 + t) := by
  unfold numAt; rw [List.drop_drop, show 4 * 4 + 4 * t = 4 * (4 + t) by omega]

theorem decode_first {l : List Int} {t : Nat} (ht : t < 4) (hu : ∀ u, u < t → errAt l u = 0) (h : errAt l t ≠ 0) : decodeOf l = (zeros, errAt l t) := by
  have h1 := firstErr_some l 4 0 t ht (fun u hlt => by rw [Nat.zero_add]; exact hu u hlt) (by rw [Nat.zero_add]; exact h)
  rw [Nat.zero_add] at h1
  unfold decodeOf
  rw [h1, if_pos h]
theorem decode_second {l : List Int} {t : Nat} (h0 : ∀ u, u < 4 → errAt l u = 0) (hk : numAt l 0 = 2 ∨ numAt l 0 = 5) (ht : t < 6) (hu : ∀ u, u < t → errAt l (4 + u) = 0) (h : errAt l (4 + t) ≠ 0) : decodeOf l = (zeros, errAt l (4 + t)) := by
  have h1 := firstErr_none l 4 0 (fun u hlt => by rw [Nat.zero_add]; exact h0 u hlt)
  have h2 := firstErr_some l 6 4 t ht hu h
  unfold decodeOf
  rw [h1, if_neg (by simp), h2, if_pos ⟨by simp [hasEv, hk], h⟩]
theorem decode_ev {l : List Int} (h0 : ∀ u, u < 4 → errAt l u = 0) (hk : numAt l 0 = 2 ∨ numAt l 0 = 5) (h4 : ∀ u, u < 6 → errAt l (4 + u) = 0) : decodeOf l = if ¬ l.length = 40 ∨ ¬ faultOf l = 0 then (zeros, 3) else (numsOf l, 0) := by
  have h1 := firstErr_none l 4 0 (fun u hlt => by rw [Nat.zero_add]; exact h0 u hlt)
  have h2 := firstErr_none l 6 4 h4
  have h3 : hasEv (numAt l 0) = true := by simp [hasEv, hk]
  unfold decodeOf
  rw [h1, if_neg (by simp), h2, if_neg (by simp), h3]
  rfl
theorem decode_bare {l : List Int} (h0 : ∀ u, u < 4 → errAt l u = 0) (hk : ¬ (numAt l 0 = 2 ∨ numAt l 0 = 5)) : decodeOf l = if ¬ l.length = 16 ∨ ¬ faultOf l = 0 then (zeros, 3) else (numsOf l, 0) := by
  have h1 := firstErr_none l 4 0 (fun u hlt => by rw [Nat.zero_add]; exact h0 u hlt)
  have h3 : hasEv (numAt l 0) = false := by simp only [hasEv, decide_eq_false_iff_not]; exact hk
  unfold decodeOf
  rw [h1, if_neg (by simp), h3, if_neg (by simp)]
  rfl


theorem len_of_err {l : List Int} {n : Nat} (h : ∀ u, u < n + 1 → errAt l u = 0) : 4 * (n + 1) ≤ l.length := by
  have h1 := h n (by omega)
  rcases Nat.lt_or_ge (l.drop (4 * n)).length 4 with h' | h'
  · unfold errAt at h1
    rw [takenOf_short h'] at h1
    simp at h1
  · simp at h'; omega

theorem cell_setCell_one (W : World) (E : Nat) (y x : Int) (t : TypeId) (hE : W.heap[E]? = some (.cells #[.int .i64 y] t (0, 0))) : (W.setCell ⟨E, 0, none⟩ (.int .i64 x)).cell? ⟨E, 0, none⟩ = some (.int .i64 x) := by
  have := setCell_eq_setRow W E 0 _ _ (0, 0) (.int .i64 x) hE
  rw [this]
  simp [World.cell?, setRow_heap W E _ _ _ _ hE]

theorem recBlock.ten {W : World} {R : Nat} {zs : List Int} (v0 v1 v2 v3 v4 v5 v6 v7 v8 v9 : Int) (h : recBlock W R zs) : recBlock ((((((((((W.setCell ⟨R, 0, none⟩ (.int .i64 v0)).setCell ⟨R, 1, none⟩ (.int .i64 v1)).setCell ⟨R, 2, none⟩ (.int .i64 v2)).setCell ⟨R, 3, none⟩ (.int .i64 v3)).setCell ⟨R, 4, none⟩ (.int .i64 v4)).setCell ⟨R, 5, none⟩ (.int .i64 v5)).setCell ⟨R, 6, none⟩ (.int .i64 v6)).setCell ⟨R, 7, none⟩ (.int .i64 v7)).setCell ⟨R, 8, none⟩ (.int .i64 v8)).setCell ⟨R, 9, none⟩ (.int .i64 v9)) R [v0, v1, v2, v3, v4, v5, v6, v7, v8, v9] := by
  have hl := h.1
  match zs, hl, h with
  | [_, _, _, _, _, _, _, _, _, _], _, h => exact (((((((((h.set 0 v0).set 1 v1).set 2 v2).set 3 v3).set 4 v4).set 5 v5).set 6 v6).set 7 v7).set 8 v8).set 9 v9
theorem SameBut.ten (W : World) (R : Nat) (v0 v1 v2 v3 v4 v5 v6 v7 v8 v9 : Int) : SameBut R W ((((((((((W.setCell ⟨R, 0, none⟩ (.int .i64 v0)).setCell ⟨R, 1, none⟩ (.int .i64 v1)).setCell ⟨R, 2, none⟩ (.int .i64 v2)).setCell ⟨R, 3, none⟩ (.int .i64 v3)).setCell ⟨R, 4, none⟩ (.int .i64 v4)).setCell ⟨R, 5, none⟩ (.int .i64 v5)).setCell ⟨R, 6, none⟩ (.int .i64 v6)).setCell ⟨R, 7, none⟩ (.int .i64 v7)).setCell ⟨R, 8, none⟩ (.int .i64 v8)).setCell ⟨R, 9, none⟩ (.int .i64 v9)) :=
  (((((((((SameBut.set R 0 W _).trans (SameBut.set R 1 _ _)).trans (SameBut.set R 2 _ _)).trans (SameBut.set R 3 _ _)).trans (SameBut.set R 4 _ _)).trans (SameBut.set R 5 _ _)).trans (SameBut.set R 6 _ _)).trans (SameBut.set R 7 _ _)).trans (SameBut.set R 8 _ _)).trans (SameBut.set R 9 _ _)

theorem stored_ten {w W : World} {zs : List Int} {y : Int} {t : TypeId} (v0 v1 v2 v3 v4 v5 v6 v7 v8 v9 x : Int) (hR : recBlock W w.heap.size zs) (hE : W.heap[w.heap.size + 1]? = some (.cells #[.int .i64 y] t (0, 0))) (hB : Below w.heap.size w W) :
    recBlock (((((((((((W.setCell ⟨w.heap.size, 0, none⟩ (.int .i64 v0)).setCell ⟨w.heap.size, 1, none⟩ (.int .i64 v1)).setCell ⟨w.heap.size, 2, none⟩ (.int .i64 v2)).setCell ⟨w.heap.size, 3, none⟩ (.int .i64 v3)).setCell ⟨w.heap.size, 4, none⟩ (.int .i64 v4)).setCell ⟨w.heap.size, 5, none⟩ (.int .i64 v5)).setCell ⟨w.heap.size, 6, none⟩ (.int .i64 v6)).setCell ⟨w.heap.size, 7, none⟩ (.int .i64 v7)).setCell ⟨w.heap.size, 8, none⟩ (.int .i64 v8)).setCell ⟨w.heap.size, 9, none⟩ (.int .i64 v9)).setCell ⟨w.heap.size + 1, 0, none⟩ (.int .i64 x)) w.heap.size [v0, v1, v2, v3, v4, v5, v6, v7, v8, v9] ∧
    (((((((((((W.setCell ⟨w.heap.size, 0, none⟩ (.int .i64 v0)).setCell ⟨w.heap.size, 1, none⟩ (.int .i64 v1)).setCell ⟨w.heap.size, 2, none⟩ (.int .i64 v2)).setCell ⟨w.heap.size, 3, none⟩ (.int .i64 v3)).setCell ⟨w.heap.size, 4, none⟩ (.int .i64 v4)).setCell ⟨w.heap.size, 5, none⟩ (.int .i64 v5)).setCell ⟨w.heap.size, 6, none⟩ (.int .i64 v6)).setCell ⟨w.heap.size, 7, none⟩ (.int .i64 v7)).setCell ⟨w.heap.size, 8, none⟩ (.int .i64 v8)).setCell ⟨w.heap.size, 9, none⟩ (.int .i64 v9)).setCell ⟨w.heap.size + 1, 0, none⟩ (.int .i64 x)).cell? ⟨w.heap.size + 1, 0, none⟩ = some (.int .i64 x) ∧
    Below w.heap.size w (((((((((((W.setCell ⟨w.heap.size, 0, none⟩ (.int .i64 v0)).setCell ⟨w.heap.size, 1, none⟩ (.int .i64 v1)).setCell ⟨w.heap.size, 2, none⟩ (.int .i64 v2)).setCell ⟨w.heap.size, 3, none⟩ (.int .i64 v3)).setCell ⟨w.heap.size, 4, none⟩ (.int .i64 v4)).setCell ⟨w.heap.size, 5, none⟩ (.int .i64 v5)).setCell ⟨w.heap.size, 6, none⟩ (.int .i64 v6)).setCell ⟨w.heap.size, 7, none⟩ (.int .i64 v7)).setCell ⟨w.heap.size, 8, none⟩ (.int .i64 v8)).setCell ⟨w.heap.size, 9, none⟩ (.int .i64 v9)).setCell ⟨w.heap.size + 1, 0, none⟩ (.int .i64 x)) := by
  have h1 := hR.ten v0 v1 v2 v3 v4 v5 v6 v7 v8 v9
  have h2 := SameBut.ten W w.heap.size v0 v1 v2 v3 v4 v5 v6 v7 v8 v9
  generalize ((((((((((W.setCell ⟨w.heap.size, 0, none⟩ (.int .i64 v0)).setCell ⟨w.heap.size, 1, none⟩ (.int .i64 v1)).setCell ⟨w.heap.size, 2, none⟩ (.int .i64 v2)).setCell ⟨w.heap.size, 3, none⟩ (.int .i64 v3)).setCell ⟨w.heap.size, 4, none⟩ (.int .i64 v4)).setCell ⟨w.heap.size, 5, none⟩ (.int .i64 v5)).setCell ⟨w.heap.size, 6, none⟩ (.int .i64 v6)).setCell ⟨w.heap.size, 7, none⟩ (.int .i64 v7)).setCell ⟨w.heap.size, 8, none⟩ (.int .i64 v8)).setCell ⟨w.heap.size, 9, none⟩ (.int .i64 v9)) = V at h1 h2
  have hE' : V.heap[w.heap.size + 1]? = some (.cells #[.int .i64 y] t (0, 0)) := (h2.block _ (by omega)).trans hE
  exact ⟨h1.other (by omega) 0 _, cell_setCell_one V _ y x t hE', ((hB.trans (h2.below (Nat.le_refl _))).setCell (p := ⟨w.heap.size + 1, 0, none⟩) (by simp) _)⟩

set_option maxRecDepth 20000 in
set_option maxHeartbeats 400000 in
theorem leaves_end {w W : World} {zs : List Int} {x : Int} {tmps : Array Value} (h1 : recBlock W w.heap.size zs) (h2 : W.cell? ⟨w.heap.size + 1, 0, none⟩ = some (.int .i64 x)) (h3 : Below w.heap.size w W)
    (t2 : tmps[2]? = some (.pointer (some ⟨w.heap.size, 0, none⟩))) (t3 : tmps[3]? = some (.pointer (some ⟨w.heap.size + 1, 0, none⟩))) :
    Leaves Try.prog Try.f50 tmps (fun e w' => e = .returned (.tuple #[recVal zs, .int .i64 x]) ∧ Below w.heap.size w w') [] .returning W := by
  have hl := h1.1
  have k0 := h1.cell 0 (by omega)
  have k1 := h1.cell 1 (by omega)
  have k2 := h1.cell 2 (by omega)
  have k3 := h1.cell 3 (by omega)
  have k4 := h1.cell 4 (by omega)
  have k5 := h1.cell 5 (by omega)
  have k6 := h1.cell 6 (by omega)
  have k7 := h1.cell 7 (by omega)
  have k8 := h1.cell 8 (by omega)
  have k9 := h1.cell 9 (by omega)
  clear h1
  match zs, hl with
  | [y0, y1, y2, y3, y4, y5, y6, y7, y8, y9], _ =>
    simp at k0 k1 k2 k3 k4 k5 k6 k7 k8 k9
    simp [Leaves, results, Try.results50, go_sem, k0, k1, k2, k3, k4, k5, k6, k7, k8, k9, h2, recVal, t2, t3, h3]
end Go.Proofs.Ytlfecmkpafgcmaa
