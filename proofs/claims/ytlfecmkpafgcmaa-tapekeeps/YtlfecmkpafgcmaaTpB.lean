/- Walks of tape.mayBe, tape.joined and of the document's answer's TapeMay and Octets: which tapes may be; bytes in new memory. -/
import Derived.Test.YtlfecmkpafgcmaaPkH
import Derived.Test.YtlfecmkpafgcmaaTpA
namespace Go.Proofs.Ytlfecmkpafgcmaa
open Go.RowKit

theorem mayBe_yes (a : Option Addr) (len cap : Nat) (s : Int) (w : World) (h1 : len ≤ 100000) (h2 : 0 ≤ s) (h3 : s ≤ len) :
    Calls Try.prog 30 #[.agg #[.slice a len cap, .int .i64 s]] w fun e w' => e = .returned (.bool true) ∧ Below w.heap.size w w' := by
  have d1 : (len : Int) ≤ 100000 := by omega
  go_enter Try.func30, Try.ntmps30
  go_wp2
  go_ret
  exact ⟨rfl, below1 _ _⟩
theorem mayBe_no (a : Option Addr) (len cap : Nat) (s : Int) (w : World) (hm : len ≤ 140737488351232) (h : ¬ (len ≤ 100000 ∧ 0 ≤ s ∧ s ≤ len)) :
    Calls Try.prog 30 #[.agg #[.slice a len cap, .int .i64 s]] w fun e w' => e = .returned (.bool false) ∧ Below w.heap.size w w' := by
  by_cases h1 : len ≤ 100000
  · have d1 : (len : Int) ≤ 100000 := by omega
    by_cases h2 : 0 ≤ s
    · have d2 : ¬ s ≤ (len : Int) := by omega
      clear h
      go_enter Try.func30, Try.ntmps30
      go_wp2
      go_ret
      exact ⟨rfl, below1 _ _⟩
    · clear h
      go_enter Try.func30, Try.ntmps30
      go_wp2
      go_ret
      exact ⟨rfl, below1 _ _⟩
  · have d1 : ¬ (len : Int) ≤ 100000 := by omega
    clear h
    go_enter Try.func30, Try.ntmps30
    go_wp2
    go_ret
    exact ⟨rfl, below1 _ _⟩
/-- a slice of bytes among others. -/
structure Part where
  a : Option Addr
  len : Nat
  cap : Nat
  l : List Int
def noPart : Part := ⟨none, 0, 0, []⟩
def sizes (ps : List Part) : Nat := (ps.map (·.len)).sum
def jointly (ps : List Part) : List Int := ps.flatMap (·.l)
theorem snocPart (ps : List Part) (k : Nat) (h : k < ps.length) : ps.take (k + 1) = ps.take k ++ [ps.getD k noPart] := by
  rw [List.take_succ_eq_append_getElem h]; simp [h]
theorem sizes_snoc (ps : List Part) (k : Nat) (h : k < ps.length) : sizes (ps.take (k + 1)) = sizes (ps.take k) + (ps.getD k noPart).len := by
  rw [snocPart ps k h]; simp [sizes]
theorem jointly_snoc (ps : List Part) (k : Nat) (h : k < ps.length) : jointly (ps.take (k + 1)) = jointly (ps.take k) ++ (ps.getD k noPart).l := by
  rw [snocPart ps k h]; simp [jointly]
theorem sizes_take (ps : List Part) (k : Nat) : sizes (ps.take k) ≤ sizes ps := by
  have h : sizes (ps.take k ++ ps.drop k) = sizes (ps.take k) + sizes (ps.drop k) := by simp only [sizes, List.map_append, List.sum_append]
  rw [List.take_append_drop] at h
  omega

set_option maxRecDepth 20000 in
set_option maxHeartbeats 400000 in
theorem joined_own (b off cap : Nat) (ps : List Part) (w : World) (hlen : ps.length ≤ 1000) (hb : b < w.heap.size) (hs : sizes ps ≤ 1000000)
    (hc : ∀ k, k < ps.length → w.cell? ⟨b, off + k, none⟩ = some (.slice (ps.getD k noPart).a (ps.getD k noPart).len (ps.getD k noPart).cap))
    (hr : ∀ k, k < ps.length → RowK .u8 w (ps.getD k noPart).a (ps.getD k noPart).len (ps.getD k noPart).l ∧ ((ps.getD k noPart).a = none → (ps.getD k noPart).cap = 0)) :
    Calls Try.prog 34 #[.slice (some ⟨b, off, none⟩) ps.length cap] w fun e w' =>
      ∃ a' cap', e = .returned (.slice a' (sizes ps) cap') ∧ RowK .u8 w' a' (sizes ps) (jointly ps) ∧ sizes ps ≤ cap' ∧ (a' = none → cap' = 0) ∧ cap' ≤ 9223372036854775807 ∧ (∀ x, a' = some x → w.heap.size ≤ x.block) ∧ Below w.heap.size w w' ∧ w'.ownsRow w.heap.size 5 1 (.slice a' (sizes ps) cap') (sizes ps) ((jointly ps).map (Value.int .u8)) := by
  obtain ⟨i0, hi, hz0, hz1, hz2⟩ := info_parts Try.info5
  have HC := hide hc
  have HR := hide hr
  clear hc hr
  go_enter Try.func34, Try.ntmps34
  go_wp2
  go_loopw [3, 11] (fun v t wr => ∃ j : Nat, j ≤ ps.length ∧ t = .int .i64 j ∧ v = .int .i64 (sizes (ps.take j)) ∧ w = wr) (fun _ t _ => ps.length - (intOf t).toNat)
  case atStart => exact ⟨0, Nat.zero_le _, rfl, rfl, rfl⟩
  case round =>
    obtain ⟨j, hj, rfl, rfl, rfl⟩ := hrel
    have ht := sizes_take ps j
    by_cases hlt : j < ps.length
    · have kq := unhide HC j hlt
      have HX : Hid (sizes (ps.take (j + 1)) = sizes (ps.take j) + (ps.getD j noPart).len) := sizes_snoc ps j hlt
      have ht2 := sizes_take ps (j + 1)
      rw [unhide HX] at ht2
      generalize ps.getD j noPart = p at kq HX ht2
      obtain ⟨pa, pl, pc, pb⟩ := p
      generalize sizes (ps.take j) = z at HX ht ht2
      simp only at kq ht2
      go_wp2
      go_roundw
      case rel => exact ⟨j + 1, by omega, by go_num, by rw [unhide HX]; go_num, by first | rfl | trivial⟩
      case measure => simp [intOf]; omega
    · have hj' : j = ps.length := by omega
      subst hj'
      rw [List.take_length] at *
      go_wp2_with (at_make; refine wpList_make_own _ rfl _ _ 52 rfl w.heap.size 5 i0 (.int .u8 0) 1 Try.underlying52 hi hz0 hz1 _ _ _ (sizes ps) rfl rfl (by omega) (by rw [hz2]; omega) (by unfold maxLen; omega) (Nat.le_refl _) ?_; intro w1 hown1 hgrow1)
      have hb1 : Below w.heap.size w w1 := (Below.refl _ _).grown hgrow1 (Nat.le_refl _) (by simp)
      go_loopw [6, 24] (fun v t wr => ∃ j : Nat, j ≤ ps.length ∧ t = .int .i64 j ∧ wr.ownsRow w.heap.size 5 1 v (sizes (ps.take j)) ((jointly (ps.take j)).map (Value.int .u8)) ∧ Below w.heap.size w wr) (fun _ t _ => ps.length - (intOf t).toNat)
      case atStart => exact ⟨0, Nat.zero_le _, rfl, by simpa [sizes, jointly] using hown1, hb1⟩
      case round =>
        obtain ⟨j, hj, rfl, hown, hbel⟩ := hrel
        have ht := sizes_take ps j
        by_cases hlt : j < ps.length
        · have kq := (hbel.cell hb).trans (unhide HC j hlt)
          have hrow := (unhide HR j hlt).1.below hbel
          have hnil := (unhide HR j hlt).2
          have HX : Hid (sizes (ps.take (j + 1)) = sizes (ps.take j) + (ps.getD j noPart).len) := sizes_snoc ps j hlt
          have HY : Hid (jointly (ps.take (j + 1)) = jointly (ps.take j) ++ (ps.getD j noPart).l) := jointly_snoc ps j hlt
          have ht2 := sizes_take ps (j + 1)
          rw [unhide HX] at ht2
          generalize ps.getD j noPart = p at kq HX ht2 hrow hnil HY
          obtain ⟨pa, pl, pc, pb⟩ := p
          simp only at kq ht2 hrow hnil
          have hsz := hbel.size
          go_wp2_with (at_builtin; refine wpList_append_row rfl _ _ 52 rfl w.heap.size 5 i0 (.int .u8 0) 1 Try.underlying52 hi hz0 hz1 hz2 rfl .u8 _ _ _ rfl hown pa pl pc pb rfl hrow hnil (by unfold maxLen; omega) (by omega) (by omega) ?_; intro v' w4 hown4 hgrow4)
          have R1 : Hid (w4.ownsRow w.heap.size 5 1 v' (sizes (ps.take (j + 1))) ((jointly (ps.take (j + 1))).map (Value.int .u8))) := by
            rw [unhide HX, unhide HY]; exact hown4
          have R2 : Below w.heap.size w w4 := hbel.grown hgrow4 (by omega) (by intro t ht; exact (hown.lt t ht).1)
          clear hown4 hgrow4 hown kq hrow
          go_wp2
          go_roundw
          case rel => exact ⟨j + 1, by omega, by go_num, R1.out, R2⟩
          case measure => simp [intOf]; omega
        · have hj' : j = ps.length := by omega
          subst hj'
          rw [List.take_length] at *
          obtain ⟨a', cap', rfl, hr, hc', hm', hn', hx'⟩ := RowK.ofOwns hown (by
            intro u hu
            simp only [jointly, List.mem_flatMap] at hu
            obtain ⟨p, hp, hu⟩ := hu
            obtain ⟨k, hk, hpk⟩ := List.getElem_of_mem hp
            have := (unhide HR k hk).1.wf u
            rw [List.getD_eq_getElem?_getD, List.getElem?_eq_getElem hk] at this
            exact this (by simpa [hpk] using hu))
          have HO := hide hown
          clear hown
          go_wp2
          go_ret
          exact ⟨a', cap', rfl, hr, hc', hn', by unfold maxLen at hm'; exact hm', hx', hbel, unhide HO⟩
theorem joined_any (b off cap : Nat) (ps : List Part) (w : World) (hlen : ps.length ≤ 1000) (hb : b < w.heap.size) (hs : sizes ps ≤ 1000000)
    (hc : ∀ k, k < ps.length → w.cell? ⟨b, off + k, none⟩ = some (.slice (ps.getD k noPart).a (ps.getD k noPart).len (ps.getD k noPart).cap))
    (hr : ∀ k, k < ps.length → RowK .u8 w (ps.getD k noPart).a (ps.getD k noPart).len (ps.getD k noPart).l ∧ ((ps.getD k noPart).a = none → (ps.getD k noPart).cap = 0)) :
    Calls Try.prog 34 #[.slice (some ⟨b, off, none⟩) ps.length cap] w fun e w' =>
      ∃ a' cap', e = .returned (.slice a' (sizes ps) cap') ∧ RowK .u8 w' a' (sizes ps) (jointly ps) ∧ sizes ps ≤ cap' ∧ (a' = none → cap' = 0) ∧ cap' ≤ 9223372036854775807 ∧ (∀ x, a' = some x → w.heap.size ≤ x.block) ∧ Below w.heap.size w w' := by
  refine (joined_own b off cap ps w hlen hb hs hc hr).mono ?_
  rintro e w' ⟨a', cap', h1, h2, h3, h4, h5, h6, h7, _⟩
  exact ⟨a', cap', h1, h2, h3, h4, h5, h6, h7⟩
end Go.Proofs.Ytlfecmkpafgcmaa
