/- The walk of berthshiftkeep.some: the first bytes of a slice, in new memory. -/
import Derived.Test.YthbjnjbcmcollabTpE
import Derived.Test.YthbjnjbcmcollabKpF
namespace Go.Proofs.Ythbjnjbcmcollab
open Go.RowKit

set_option maxHeartbeats 400000 in
theorem some_any (a : Option Addr) (len cap most : Nat) (l : List Int) (w : World) (h : RowK .u8 w a len l) (hc : len ≤ cap) (hn : a = none → cap = 0) (hm : len ≤ 140737488351232) (hz : most ≤ 1000000) :
    Calls Try.prog 18 #[.slice a len cap, .int .i64 most] w fun e w' =>
      ∃ a' cap', e = .returned (.slice a' (min len most) cap') ∧ RowK .u8 w' a' (min len most) (l.take (min len most)) ∧ min len most ≤ cap' ∧ (a' = none → cap' = 0) ∧ cap' ≤ 9223372036854775807 ∧ (∀ x, a' = some x → w.heap.size ≤ x.block) ∧ Below w.heap.size w w' ∧
        w'.ownsRow w.heap.size 5 1 (.slice a' (min len most) cap') (min len most) ((l.take (min len most)).map (Value.int .u8)) := by
  obtain ⟨i0, hi, hz0, hz1, hz2⟩ := info_parts Try.info5
  have ht : ∀ n, n ≤ len → RowK .u8 w a n (l.take n) := fun n hn => h.take n hn
  by_cases hle : len ≤ most
  · have hd : ¬ (most : Int) < (len : Int) := by omega
    have hmin : min len most = len := by omega
    rw [hmin]
    have r0 := ht len (Nat.le_refl _)
    clear ht hmin
    go_enter Try.func18, Try.ntmps18
    go_wp2_with (at_builtin; refine wpList_append_row rfl _ _ 33 rfl w.heap.size 5 i0 (.int .u8 0) 1 Try.underlying33 hi hz0 hz1 hz2 rfl .u8 (.slice none 0 0) 0 [] rfl (World.ownsRow_nil _ _ _ _) a len cap (l.take len) rfl r0 hn (by unfold maxLen; omega) (by omega) (Nat.le_refl _) ?_; intro v' w1 hown hgrow)
    rw [Nat.zero_add, List.nil_append] at hown
    obtain ⟨a', cap', rfl, hr, hc', hm', hn', hx'⟩ := RowK.ofOwns hown r0.wf
    have HO := hide hown
    have HR := hide hr
    have HB : Hid (Below w.heap.size w w1) := (Below.refl _ _).grown hgrow (Nat.le_refl _) (by simp [Value.ownBlock])
    clear hown hgrow hr
    go_wp2
    go_ret
    exact ⟨a', cap', rfl, unhide HR, hc', hn', by unfold maxLen at hm'; exact hm', hx', unhide HB, by first | exact unhide HO | (rw [← List.map_take]; exact unhide HO)⟩
  · have hd : (most : Int) < (len : Int) := by omega
    have hd2 : (most : Int) ≤ (cap : Int) := by omega
    have hmin : min len most = most := by omega
    rw [hmin]
    have r0 := ht most (by omega)
    clear ht hmin
    go_enter Try.func18, Try.ntmps18
    go_wp2_with (at_builtin; refine wpList_append_row rfl _ _ 33 rfl w.heap.size 5 i0 (.int .u8 0) 1 Try.underlying33 hi hz0 hz1 hz2 rfl .u8 (.slice none 0 0) 0 [] rfl (World.ownsRow_nil _ _ _ _) a most cap (l.take most) rfl r0 hn (by unfold maxLen; omega) (by omega) (Nat.le_refl _) ?_; intro v' w1 hown hgrow)
    rw [Nat.zero_add, List.nil_append] at hown
    obtain ⟨a', cap', rfl, hr, hc', hm', hn', hx'⟩ := RowK.ofOwns hown r0.wf
    have HO := hide hown
    have HR := hide hr
    have HB : Hid (Below w.heap.size w w1) := (Below.refl _ _).grown hgrow (Nat.le_refl _) (by simp [Value.ownBlock])
    clear hown hgrow hr
    go_wp2
    go_ret
    exact ⟨a', cap', rfl, unhide HR, hc', hn', by unfold maxLen at hm'; exact hm', hx', unhide HB, by first | exact unhide HO | (rw [← List.map_take]; exact unhide HO)⟩
end Go.Proofs.Ythbjnjbcmcollab
