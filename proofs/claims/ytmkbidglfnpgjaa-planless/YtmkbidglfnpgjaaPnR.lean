/- Walks of the keep package's loads and busy. -/
import Derived.Test.YtmkbidglfnpgjaaPnQ
import Derived.Test.YtmkbidglfnpgjaaKpP
namespace Go.Proofs.Ytmkbidglfnpgjaa
open Go.RowKit

/-- loads of raw numbers. -/
def kLd (D : List Int) (nodes : Int) (k : Nat) : Ld := ⟨k, pickedOf (D.getD (2 * k) 0) nodes, pickedOf (D.getD (2 * k + 1) 0) 100⟩
def kLds (D : List Int) (nodes : Int) : Nat → List Ld
  | 0 => []
  | k + 1 => kLds D nodes k ++ [kLd D nodes k]
theorem kLds_len (D : List Int) (nodes : Int) : ∀ n, (kLds D nodes n).length = n
  | 0 => rfl
  | n + 1 => by rw [kLds, List.length_append, kLds_len D nodes n]; rfl
theorem kLds_at (D : List Int) (nodes : Int) : ∀ n k, k < n → ldAt (kLds D nodes n) k = kLd D nodes k
  | 0, k, h => absurd h (Nat.not_lt_zero _)
  | n + 1, k, h => by
    have hl := kLds_len D nodes n
    rw [kLds, ldAt, List.getD_eq_getElem?_getD]
    by_cases e : k < n
    · rw [List.getElem?_append_left (by omega)]
      have := kLds_at D nodes n k e
      rwa [ldAt, List.getD_eq_getElem?_getD] at this
    · obtain rfl : k = n := by omega
      rw [List.getElem?_append_right (by omega), hl, Nat.sub_self]
      rfl
theorem kLds_rise (D : List Int) (nodes : Int) (hn : 1 ≤ nodes) (n : Nat) (h4 : n ≤ 4) : Rise nodes (kLds D nodes n) := by
  refine ⟨fun k hk => ?_, fun k hk => ?_⟩
  · rw [kLds_len] at hk
    rw [kLds_at D nodes n k hk]
    have h1 := pickedOf_range (D.getD (2 * k) 0) nodes (by omega)
    have h2 := pickedOf_range (D.getD (2 * k + 1) 0) 100 (by omega)
    exact ⟨by show (0 : Int) ≤ (k : Int); omega, by show (k : Int) ≤ 3; omega, h1.1, h1.2, h2.1, by show pickedOf _ 100 ≤ 1073741824; omega⟩
  · rw [kLds_len] at hk
    rw [kLds_at D nodes n k (by omega), kLds_at D nodes n (k + 1) hk]
    show (k : Int) < ((k + 1 : Nat) : Int)
    omega
set_option maxRecDepth 20000 in
set_option maxHeartbeats 4000000 in
theorem keepLoads_any (a : Option Addr) (len cap : Nat) (D : List Int) (nodes : Nat) (w : World) (hA : RowK .i64 w a (2 * len) D) (hl : len ≤ 9223372036854775806) (h1 : 1 ≤ nodes) (h5 : nodes ≤ 5) :
    Calls Try.prog 16 #[.slice a len cap, .int .i64 nodes] w fun e w' => ∃ v, e = .returned v ∧ ldOwn w' w.heap.size v (kLds D nodes (min len 4)) ∧ Below w.heap.size w w' := by
  obtain ⟨i3, hi3, hz30, hz31, hz32⟩ := info_ofP Try.infoLoad
  have hw := hA.wf
  have hDl := hA.len_eq
  go_enter Try.func16, Try.ntmps16
  go_wp2
  go_loopw [5, 6] (fun v t wr => ∃ k : Nat, ∃ aN cN, k ≤ min len 4 ∧ t = .int .i64 k ∧ v = .slice aN k cN ∧ wr.ownsRow w.heap.size 41 3 v k ((ldFlat (kLds D nodes k)).map (Value.int .i64)) ∧ Below w.heap.size w wr) (fun _ t _ => 4 - (intOf t).toNat)
  case atStart => exact ⟨0, _, _, Nat.zero_le _, rfl, rfl, World.ownsRow_nil _ _ _ _, Below.refl _ _⟩
  case round =>
    obtain ⟨k, aN, cN, hk, rfl, rfl, ow, bel⟩ := hrel
    by_cases hlt : k < len
    · by_cases h4 : k < 4
      · have rA := hA.below bel
        obtain ⟨b, off, rfl⟩ := hA.form (by omega)
        have x0 := rA.at (2 * k) (by omega)
        have x1 := rA.at (2 * k + 1) (by omega)
        rw [← Nat.add_assoc] at x1
        rw [Nat.mul_comm 2 k] at x0 x1
        have hbl : b < wr.heap.size := rA.lt (by omega)
        have hbn : b ≠ wr.heap.size := by omega
        have w0 : (Lit.int .i64 (D.getD (k * 2) 0)).wf = true := hw _ (by rw [List.getD_eq_getElem?_getD, List.getElem?_eq_getElem (show k * 2 < D.length by omega)]; exact List.getElem_mem _)
        have w1 : (Lit.int .i64 (D.getD (k * 2 + 1) 0)).wf = true := hw _ (by rw [List.getD_eq_getElem?_getD, List.getElem?_eq_getElem (show k * 2 + 1 < D.length by omega)]; exact List.getElem_mem _)
        have hT : Hid (ldFlat (kLds D nodes k) ++ [(k : Int), pickedOf (D.getD (k * 2) 0) nodes, pickedOf (D.getD (k * 2 + 1) 0) 100] = ldFlat (kLds D nodes (k + 1))) := veil (by rw [kLds, ldFlat_append, kLd, Nat.mul_comm 2 k]; rfl)
        have P1 := fun w => (picked_any (D.getD (k * 2) 0) nodes w w0 (by omega) (by omega)).mono (fun _ _ h => (⟨h.1, h.2.symm⟩ : _ ∧ _ = w))
        have P2 := fun w => (picked_any (D.getD (k * 2 + 1) 0) 100 w w1 (by omega) (by omega)).mono (fun _ _ h => (⟨h.1, h.2.symm⟩ : _ ∧ _ = w))
        have hws : w.heap.size ≤ wr.heap.size := bel.size
        generalize pickedOf (D.getD (k * 2) 0) nodes = p0 at *
        generalize pickedOf (D.getD (k * 2 + 1) 0) 100 = p1 at *
        generalize D.getD (k * 2) 0 = r0 at *
        generalize D.getD (k * 2 + 1) 0 = r1 at *
        have b5 : Below wr.heap.size wr (wr.drew.alloc (.cells #[.int .i64 k, .int .i64 p0, .int .i64 p1] 41)) := Below.next (Below.refl _ _).drew (below1 _ _)
        have HO5 : Hid ((wr.drew.alloc (.cells #[.int .i64 k, .int .i64 p0, .int .i64 p1] 41)).ownsRow w.heap.size 41 3 (.slice aN k cN) k ((ldFlat (kLds D nodes k)).map (Value.int .i64))) := veil (own_still ow (fun g _ hg => b5.block g hg))
        have HG : Hid (∀ w4, (wr.drew.alloc (.cells #[.int .i64 k, .int .i64 p0, .int .i64 p1] 41)).grownBy w4 (Value.slice aN k cN).ownBlock → Below w.heap.size w w4) := veil fun w4 g => (bel.trans (b5.mono bel.size)).grown g (by have := b5.size; omega) (fun q hq => (ow.lt q hq).1)
        have HA := veil hA
        have HDl := veil hDl
        have Hw := veil hw
        clear rA hA ow bel b5 hDl hw w0 w1
        go_wp2_with fail
        go_region_law (first
          | (refine step_append_many rfl (.tmp 17) (.tmp 33) 22 rfl w.heap.size 41 i3 _ 3 24 Try.underlying22 hi3 hz30 hz31 hz32 rfl (by decide) (.slice aN k cN) k (ldFlat (kLds D nodes k)) rfl (unveil HO5) ⟨wr.heap.size, 0, none⟩ 1 1 [(k : Int), p0, p1] rfl rfl (news3 _ _ _ _ _) (by unfold maxLen; omega) (by omega) (by simp; omega) ?_; intro v' w4 own4 grow4; obtain ⟨a', cap', rfl⟩ := own_form own4; rw [unveil hT] at own4; have HO4 := veil own4; have HB4 := veil (unveil HG w4 grow4); clear own4 grow4)
          | (go_simp; go_wp2_with (go_at_call 15; first | (refine (P1 _).mono ?_; rintro _ w2 ⟨rfl, rfl⟩; clear P1) | (refine (P2 _).mono ?_; rintro _ w2 ⟨rfl, rfl⟩; clear P2))))
        all_goals (try go_wp2_with fail)
        all_goals (go_roundw <;> first | exact ⟨k + 1, _, _, by omega, by go_num, rfl, unveil HO4, unveil HB4⟩ | (simp [intOf]; omega))
      · have hkm : min len 4 = k := by omega
        have OW := veil ow
        have BL := veil bel
        clear hA ow bel hw
        go_wp2
        go_ret
        exact ⟨_, rfl, by unfold ldOwn; rw [hkm, kLds_len]; exact unveil OW, unveil BL⟩
    · have hkm : min len 4 = k := by omega
      have OW := veil ow
      have BL := veil bel
      clear hA ow bel hw
      go_wp2
      go_ret
      exact ⟨_, rfl, by unfold ldOwn; rw [hkm, kLds_len]; exact unveil OW, unveil BL⟩
end Go.Proofs.Ytmkbidglfnpgjaa
