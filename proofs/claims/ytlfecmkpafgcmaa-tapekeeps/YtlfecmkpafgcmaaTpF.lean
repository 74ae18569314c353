/- Walks of tape.sum and tape.frame and of the document's answer's framed: the frame of a record's bytes. -/
import Derived.Test.YtlfecmkpafgcmaaTpE
import Derived.Test.YtlfecmkpafgcmaaPkI
namespace Go.Proofs.Ytlfecmkpafgcmaa
open Go.RowKit

/-- bytes with their number ahead. -/
def headOf (l : List Int) : List Int := [(l.length : Int) / 256, (l.length : Int) % 256] ++ l
/-- a frame. -/
def frameOf (l : List Int) : List Int := headOf l ++ four (sumOf (headOf l))

theorem headOf_len (l : List Int) : (headOf l).length = l.length + 2 := by simp [headOf]
theorem frameOf_len (l : List Int) : (frameOf l).length = l.length + 6 := by simp [frameOf, headOf, four]
theorem four_wf32 (n : Int) (h0 : 0 ≤ n) (h1 : n < 4294967296) : ∀ u ∈ four n, (Lit.int .u8 u).wf = true := by
  intro u hu
  simp only [four, List.mem_cons, List.not_mem_nil, or_false] at hu
  rcases hu with rfl | rfl | rfl | rfl <;> exact WalkArith.wf_u8 (by omega)
theorem sum_wf (l : List Int) : ∀ u ∈ four (sumOf l), (Lit.int .u8 u).wf = true := four_wf32 _ (sumOf_bounds l).1 (by have := (sumOf_bounds l).2; omega)
theorem head2_wf (n : Nat) (h : n ≤ 65535) : ∀ u ∈ [(n : Int) / 256, (n : Int) % 256], (Lit.int .u8 u).wf = true := by
  intro u hu
  simp only [List.mem_cons, List.not_mem_nil, or_false] at hu
  rcases hu with rfl | rfl <;> exact WalkArith.wf_u8 (by omega)

theorem alloc_size (w : World) (o : Obj) : (w.alloc o).heap.size = w.heap.size + 1 := by simp

set_option maxRecDepth 20000 in
set_option maxHeartbeats 400000 in
theorem sum4_any (a : Option Addr) (len cap : Nat) (l : List Int) (w : World) (h : RowK .u8 w a len l) (hm : len ≤ 1000000) :
    Calls Try.prog 48 #[.slice a len cap] w fun e w' =>
      e = .returned (.slice (some ⟨w.heap.size, 0, none⟩) 4 4) ∧ RowK .u8 w' (some ⟨w.heap.size, 0, none⟩) 4 (four (sumOf l)) ∧ Below w.heap.size w w' := by
  go_enter Try.func48, Try.ntmps48
  go_wp2_with fail
  refine (sum_any a len cap l _ h (by omega)).mono ?_
  rintro e w1 ⟨rfl, rfl⟩
  have hw := sum_wf l
  obtain ⟨s0, s1⟩ := sumOf_bounds l
  obtain ⟨s, hs⟩ : ∃ s, sumOf l = s := ⟨_, rfl⟩
  rw [hs] at hw s0 s1
  rw [hs]
  have HS := hide hs
  have hw := hide hw
  clear hs
  go_wp2
  go_ret
  rw [unhide HS]
  exact ⟨rfl, RowK.ofOwn (World.ownsRow_lit (base := w.heap.size) (e := 5) (size := 1) w ((four s).map (Value.int .u8)).toArray 4 (Nat.le_refl _) (by decide) rfl) rfl (unhide hw), below1 _ _⟩

set_option maxRecDepth 20000 in
set_option maxHeartbeats 1000000 in
theorem frame_any (a : Option Addr) (len cap : Nat) (l : List Int) (w : World) (h : RowK .u8 w a len l) (hn : a = none → cap = 0) (hm : len ≤ 65535) :
    Calls Try.prog 33 #[.slice a len cap] w fun e w' =>
      ∃ a' cap', e = .returned (.slice a' (len + 6) cap') ∧ RowK .u8 w' a' (len + 6) (frameOf l) ∧ len + 6 ≤ cap' ∧ (a' = none → cap' = 0) ∧ cap' ≤ 9223372036854775807 ∧ (∀ x, a' = some x → w.heap.size ≤ x.block) ∧ Below w.heap.size w w' := by
  obtain ⟨i0, hi, hz0, hz1, hz2⟩ := info_parts Try.info5
  have hl := h.len_eq
  go_enter Try.func33, Try.ntmps33
  go_wp2_with fail
  refine (joined_own (w.heap.size + 1) 0 2 [⟨some ⟨w.heap.size, 0, none⟩, 2, 2, [(len : Int) / 256, (len : Int) % 256]⟩, ⟨a, len, cap, l⟩] _ (by simp) (by simp) (by simp [sizes]; omega) ?_ ?_).mono ?_
  · intro k hk
    match k, hk with
    | 0, _ => simp
    | 1, _ => simp
  · intro k hk
    match k, hk with
    | 0, _ => exact ⟨(RowK.ofOwn (World.ownsRow_lit (base := w.heap.size) (e := 5) (size := 1) w ([(len : Int) / 256, (len : Int) % 256].map (Value.int .u8)).toArray 2 (Nat.le_refl _) (by decide) rfl) rfl (head2_wf len hm)).below (below1 _ _), by simp⟩
    | 1, _ => exact ⟨h.below (below2 _ _ _), hn⟩
  rintro e w1 ⟨a1, cap1, rfl, r1, c1, n1, m1, x1, b1, o1⟩
  have e1 : sizes [⟨some ⟨w.heap.size, 0, none⟩, 2, 2, [(len : Int) / 256, (len : Int) % 256]⟩, ⟨a, len, cap, l⟩] = len + 2 := by simp [sizes]; omega
  have e2 : jointly [⟨some ⟨w.heap.size, 0, none⟩, 2, 2, [(len : Int) / 256, (len : Int) % 256]⟩, ⟨a, len, cap, l⟩] = headOf l := by simp [jointly, headOf, hl]
  rw [e1, e2] at r1 o1
  rw [e1] at c1 ⊢
  clear e1 e2
  have B1 := hide (below2t b1)
  have z1 : w.heap.size + 2 ≤ w1.heap.size := by have := b1.size; rw [alloc_size, alloc_size] at this; omega
  rw [alloc_size, alloc_size] at o1
  clear b1 x1
  go_wp2_with fail
  refine (sum4_any a1 (len + 2) cap1 (headOf l) _ r1 (by omega)).mono ?_
  rintro e w2 ⟨rfl, r2, b2⟩
  have o2 := own_below o1 b2
  have z2 := b2.size
  go_wp2_with (at_builtin; refine wpList_append_row rfl _ _ 52 rfl _ 5 i0 (.int .u8 0) 1 Try.underlying52 hi hz0 hz1 hz2 rfl .u8 _ _ _ rfl o2 _ 4 4 _ rfl r2 (by simp) (by unfold maxLen; omega) (by omega) (by omega) ?_; intro v' w3 hown3 hgrow3)
  have hlt := o2.lt
  obtain ⟨a', cap', rfl, hr, hc', hm', hn', hx'⟩ := RowK.ofOwns hown3 (fun u hu => by
    rcases List.mem_append.1 hu with hu | hu
    · exact r1.wf u hu
    · exact r2.wf u hu)
  have B3 : Hid (Below w.heap.size w w3) := (Below.next (unhide B1) b2).grown hgrow3 (by omega) (by intro t ht; have := (hlt t ht).1; omega)
  have HR : Hid (RowK .u8 w3 a' (len + 6) (frameOf l)) := hr
  clear hown3 hgrow3 o1 o2 r2 hr hlt
  go_wp2
  go_ret
  exact ⟨a', cap', rfl, unhide HR, hc', hn', by unfold maxLen at hm'; exact hm', fun x hx => by have := hx' x hx; omega, unhide B3⟩

end Go.Proofs.Ytlfecmkpafgcmaa
