/- Walks of plan.check, tally and heaviest. -/
import Derived.Test.YtmkbidglfnpgjaaPnC
import Derived.Deep.RegionHeld3
import Derived.Deep.RegionLaw
namespace Go.Proofs.Ytmkbidglfnpgjaa
open Go.RowKit

/-- three cells of a row. -/
theorem RowK.three {w : World} {b off n : Nat} {l : List Ld} (h : RowK .i64 w (some ⟨b, off, none⟩) (3 * n) (ldFlat l)) (k : Nat) (hk : k < n) :
    w.cell? ⟨b, off + k * 3, none⟩ = some (.int .i64 (ldAt l k).q) ∧ w.cell? ⟨b, off + k * 3 + 1, none⟩ = some (.int .i64 (ldAt l k).n) ∧ w.cell? ⟨b, off + k * 3 + 2, none⟩ = some (.int .i64 (ldAt l k).w) := by
  obtain ⟨e0, e1, e2⟩ := ldFlat_at l k
  rw [Nat.mul_comm k 3, ← e0, ← e1, ← e2]
  exact ⟨h.at (3 * k) (by omega), h.at (3 * k + 1) (by omega), h.at (3 * k + 2) (by omega)⟩
/-- a load in memory. -/
def ldBlock (w : World) (R : Nat) (x : Ld) : Prop := w.heap[R]? = some (.cells #[.int .i64 x.q, .int .i64 x.n, .int .i64 x.w] 41 (0, 0))
theorem ldBlock.cells {w : World} {R : Nat} {x : Ld} (h : ldBlock w R x) : w.cell? ⟨R, 0, none⟩ = some (.int .i64 x.q) ∧ w.cell? ⟨R, 1, none⟩ = some (.int .i64 x.n) ∧ w.cell? ⟨R, 2, none⟩ = some (.int .i64 x.w) := by
  unfold ldBlock at h; simp [World.cell?, h]
theorem ldBlock.lt {w : World} {R : Nat} {x : Ld} (h : ldBlock w R x) : R < w.heap.size := by
  unfold ldBlock at h
  rcases Nat.lt_or_ge R w.heap.size with h' | h'
  · exact h'
  · simp [Array.getElem?_eq_none h'] at h
theorem ldBlock.next {w w' : World} {R : Nat} {x : Ld} (h : ldBlock w R x) (hb : Below w.heap.size w w') : ldBlock w' R x := by
  have := h.lt
  unfold ldBlock at h ⊢; rw [← h]; exact hb.block R this
def aboveOf (l : List Ld) : Nat → Int
  | 0 => 0
  | k + 1 => (ldAt l k).q + 1
structure RiseTo (nodes : Int) (l : List Ld) (k : Nat) : Prop where
  ok : ∀ j, j < k → LdOk nodes (ldAt l j)
  up : ∀ j, j + 1 < k → (ldAt l j).q < (ldAt l (j + 1)).q
theorem RiseTo.all {nodes : Int} {l : List Ld} (h : RiseTo nodes l l.length) : Rise nodes l := ⟨h.ok, h.up⟩
theorem RiseTo.none (nodes : Int) (l : List Ld) : RiseTo nodes l 0 := ⟨fun _ hj => absurd hj (Nat.not_lt_zero _), fun _ hj => absurd hj (Nat.not_lt_zero _)⟩
theorem RiseTo.next {nodes : Int} {l : List Ld} {k : Nat} (h : RiseTo nodes l k) (h1 : LdOk nodes (ldAt l k)) (h2 : ¬ (ldAt l k).q < aboveOf l k) : RiseTo nodes l (k + 1) := by
  refine ⟨fun j hj => ?_, fun j hj => ?_⟩
  · by_cases e : j < k
    · exact h.ok j e
    · obtain rfl : j = k := by omega
      exact h1
  · by_cases e : j + 1 < k
    · exact h.up j e
    · obtain rfl : k = j + 1 := by omega
      simp only [aboveOf] at h2
      omega
theorem Rise.not_low {nodes : Int} {l : List Ld} {k : Nat} (h : Rise nodes l) (hk : k < l.length) : ¬ (ldAt l k).q < aboveOf l k := by
  cases k with
  | zero => have := (h.ok 0 hk).q0; simp only [aboveOf]; omega
  | succ k => have := h.up k hk; simp only [aboveOf]; omega
open Classical in
/-- what both calls refuse ahead of all else. -/
noncomputable def loadsOf (nodes : Int) (l : List Ld) : Int := if 1 ≤ nodes ∧ nodes ≤ 5 then if Rise nodes l then 0 else 6 else 2
theorem loadsOf_yes {nodes : Int} {l : List Ld} (h1 : 1 ≤ nodes) (h5 : nodes ≤ 5) (h : Rise nodes l) : loadsOf nodes l = 0 := by unfold loadsOf; rw [if_pos ⟨h1, h5⟩, if_pos h]
theorem loadsOf_no {nodes : Int} {l : List Ld} (h1 : 1 ≤ nodes) (h5 : nodes ≤ 5) (h : ¬ Rise nodes l) : loadsOf nodes l = 6 := by unfold loadsOf; rw [if_pos ⟨h1, h5⟩, if_neg h]
theorem loadsOf_range {nodes : Int} {l : List Ld} (h : ¬ (1 ≤ nodes ∧ nodes ≤ 5)) : loadsOf nodes l = 2 := by unfold loadsOf; rw [if_neg h]

set_option maxRecDepth 20000 in
theorem check_any (nodes : Int) (a : Option Addr) (c : Nat) (l : List Ld) (w : World) (hA : RowK .i64 w a (3 * l.length) (ldFlat l)) (hl : l.length ≤ 9223372036854775806) :
    Calls Try.prog 19 #[.slice a l.length c, .int .i64 nodes] w fun e w' => e = .returned (.int .i64 (loadsOf nodes l)) ∧ Below w.heap.size w w' := by
  by_cases h1 : 1 ≤ nodes
  case neg =>
    rw [loadsOf_range (fun h => h1 h.1)]
    go_enter Try.func19, Try.ntmps19
    go_wp2
    go_ret
    exact ⟨rfl, Below.refl _ _⟩
  by_cases h5 : nodes ≤ 5
  case neg =>
    rw [loadsOf_range (fun h => h5 h.2)]
    go_enter Try.func19, Try.ntmps19
    go_wp2
    go_ret
    exact ⟨rfl, Below.refl _ _⟩
  have HM := fun x w => mayStand_ld x nodes w h1 h5
  have HY := veil (fun h => loadsOf_yes (l := l) h1 h5 h)
  have HX := veil (fun h => loadsOf_no (l := l) h1 h5 h)
  have HL := veil (fun k (hk : k < l.length) (h : Rise nodes l) => h.not_low hk)
  have HO := veil (fun k (hk : k < l.length) (h : Rise nodes l) => h.ok k hk)
  have HA := veil (fun (h : RiseTo nodes l l.length) => h.all)
  generalize loadsOf nodes l = res at *
  generalize hN : l.length = n at *
  have HN := veil hN
  clear hN
  go_enter Try.func19, Try.ntmps19
  go_wp2
  go_loopw [5, 16] (fun v t wr => ∃ k : Nat, k ≤ n ∧ t = .int .i64 k ∧ v = .int .i64 (aboveOf l k) ∧ Below w.heap.size w wr ∧ Hid (RiseTo nodes l k)) (fun _ t _ => n - (intOf t).toNat)
  case atStart => exact ⟨0, Nat.zero_le _, rfl, rfl, Below.refl _ _, veil (RiseTo.none _ _)⟩
  case round =>
    obtain ⟨k, hk, rfl, rfl, bel, HR⟩ := hrel
    by_cases hlt : k < n
    · have rA := hA.below bel
      obtain ⟨b, off, rfl⟩ := hA.form (by omega)
      obtain ⟨x0, x1, x2⟩ := rA.three k hlt
      have hbl : b < wr.heap.size := rA.lt (by omega)
      have hbn : b ≠ wr.heap.size := by omega
      have HL1 := veil (unveil HL k hlt)
      have HO1 := veil (unveil HO k hlt)
      have HE : Hid (aboveOf l (k + 1) = (ldAt l k).q + 1) := veil rfl
      have HNX := veil (fun h1 h2 => (unveil HR).next h1 h2)
      have BH := veil bel
      have B1 := veil (bel.trans ((below1 wr (.cells #[.int .i64 (ldAt l k).q, .int .i64 (ldAt l k).n, .int .i64 (ldAt l k).w] 41)).mono bel.size))
      have nb : ldBlock (wr.alloc (.cells #[.int .i64 (ldAt l k).q, .int .i64 (ldAt l k).n, .int .i64 (ldAt l k).w] 41)) wr.heap.size (ldAt l k) := heap_alloc_new wr _
      have NB := veil nb
      have HA2 := veil hA
      clear rA nb hA bel
      generalize ldAt l k = x at *
      generalize aboveOf l k = ab at *
      by_cases hq : x.q < ab
      · have hres : res = 6 := unveil HX (fun h => by have := unveil HL1 h; omega)
        have HRES := veil hres
        clear hres HM
        go_wp2
        go_ret
        exact ⟨congrArg (fun z => Ending.returned (.int .i64 z)) (unveil HRES).symm, unveil B1⟩
      · cases hb : ldB nodes x with
        | false =>
          have hres : res = 6 := unveil HX (fun h => by have := (ldB_iff nodes x).2 (unveil HO1 h); rw [hb] at this; cases this)
          have HRES := veil hres
          have HM1 := fun w => HM x w
          rw [hb] at HM1
          clear hres HM hb
          go_wp2_with (go_at_call 30; refine (HM1 _).mono ?_; rintro _ w1 ⟨rfl, b1⟩; have BB := veil ((unveil B1).trans (b1.mono (unveil B1).size)); clear b1)
          go_ret
          exact ⟨congrArg (fun z => Ending.returned (.int .i64 z)) (unveil HRES).symm, unveil BB⟩
        | true =>
          have ho := (ldB_iff nodes x).1 hb
          have hq0 := ho.q0
          have hq3 := ho.q3
          have HR1 := veil (unveil HNX ho hq)
          have HM1 := fun w => HM x w
          rw [hb] at HM1
          clear HM hb ho
          go_wp2_with (go_at_call 30; refine (HM1 _).mono ?_; rintro _ w1 ⟨rfl, b1⟩; have BB := veil ((unveil B1).trans (b1.mono (unveil B1).size)); obtain ⟨y0, _, _⟩ := ((unveil NB).next b1).cells; clear b1)
          go_roundw
          case rel => exact ⟨k + 1, by omega, by go_num, by rw [unveil HE], unveil BB, HR1⟩
          case measure => simp [intOf]; omega
    · have hres : res = 0 := unveil HY (unveil HA (by have : k = n := by omega
                                                      rw [← this]; exact unveil HR))
      have HRES := veil hres
      have BH := veil bel
      clear hres bel hA
      go_wp2
      go_ret
      exact ⟨congrArg (fun z => Ending.returned (.int .i64 z)) (unveil HRES).symm, unveil BH⟩
end Go.Proofs.Ytmkbidglfnpgjaa
