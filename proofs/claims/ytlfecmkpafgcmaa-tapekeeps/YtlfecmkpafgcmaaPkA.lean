/- Walks of pack.put, pack.Number and their kin: what each call returns and leaves. -/
import Derived.Test.YtlfecmkpafgcmaaProg
import Derived.Test.YtlfecmkpafgcmaaBase
namespace Go.Proofs.Ytlfecmkpafgcmaa
open Go.RowKit

theorem getD_mem (zs : List Int) (k : Nat) (h : k < zs.length) : zs.getD k 0 ∈ zs := by
  rw [List.getD_eq_getElem?_getD, List.getElem?_eq_getElem h]; exact List.getElem_mem h
theorem Try.info5 : (Try.prog.info? 5).map (fun i => (i.zero, i.size, i.bytes)) = some (some (.int .u8 0), 1, 1) := by kernel_rfl

/-- the four bytes of a number, the highest one first. -/
def four (n : Int) : List Int := [n / 16777216, n / 65536 % 256, n / 256 % 256, n % 256]
def fours (l : List Int) : List Int := l.flatMap four

theorem fours_snoc (zs : List Int) (k : Nat) (h : k < zs.length) : fours (zs.take (k + 1)) = fours (zs.take k) ++ four (zs.getD k 0) := by
  rw [List.take_succ_eq_append_getElem h]
  simp only [fours, List.flatMap_append, List.flatMap_cons, List.flatMap_nil, List.append_nil]
  simp [h]

theorem fours_len (zs : List Int) : (fours zs).length = 4 * zs.length := by
  induction zs with
  | nil => rfl
  | cons z zs ih => simp only [fours, List.flatMap_cons, List.length_append, List.length_cons] at *; rw [ih]; simp [four]; omega
theorem four_wf (n : Int) (h0 : 0 ≤ n) (h1 : n ≤ 2147483647) : ∀ u ∈ four n, (Lit.int .u8 u).wf = true := by
  intro u hu
  simp only [four, List.mem_cons, List.not_mem_nil, or_false] at hu
  rcases hu with rfl | rfl | rfl | rfl <;> exact WalkArith.wf_u8 (by omega)
theorem fours_wf (zs : List Int) (hr : ∀ n ∈ zs, 0 ≤ n ∧ n ≤ 2147483647) : ∀ u ∈ fours zs, (Lit.int .u8 u).wf = true := by
  intro u hu
  simp only [fours, List.mem_flatMap] at hu
  obtain ⟨n, hn, hu⟩ := hu
  exact four_wf n (hr n hn).1 (hr n hn).2 u hu

set_option maxHeartbeats 400000 in
theorem put_any (b off cap : Nat) (zs : List Int) (w : World) (hb : b < w.heap.size) (hlen : zs.length ≤ 1000)
    (hr : ∀ n ∈ zs, 0 ≤ n ∧ n ≤ 2147483647)
    (hc : ∀ k, k < zs.length → w.cell? ⟨b, off + k, none⟩ = some (.int .i64 (zs.getD k 0))) :
    Calls Try.prog 47 #[.slice (some ⟨b, off, none⟩) zs.length cap] w fun e w' =>
      e = .returned (.slice (some ⟨w.heap.size, 0, none⟩) (4 * zs.length) (4 * zs.length)) ∧
      RowK .u8 w' (some ⟨w.heap.size, 0, none⟩) (4 * zs.length) (fours zs) ∧
      Below w.heap.size w w' := by
  obtain ⟨i0, hi, hz0, hz1, hz2⟩ := info_parts Try.info5
  go_enter Try.func47, Try.ntmps47
  go_wp2_with (at_make; refine wpList_make_own _ rfl _ _ 52 rfl w.heap.size 5 i0 (.int .u8 0) 1 Try.underlying52 hi hz0 hz1 _ _ _ (4 * zs.length) rfl rfl (by omega) (by rw [hz2]; omega) (by unfold maxLen; omega) (Nat.le_refl _) ?_; intro w1 hown1 hgrow1)
  go_loopw [3, 12] (fun v i wr => ∃ k : Nat, k ≤ zs.length ∧ i = .int .i64 k ∧ v = .slice (some ⟨w.heap.size, 0, none⟩) (4 * k) (4 * zs.length) ∧
      wr.ownsRow w.heap.size 5 1 (.slice (some ⟨w.heap.size, 0, none⟩) (4 * k) (4 * zs.length)) (4 * k) ((fours (zs.take k)).map (Value.int .u8)) ∧ Below w.heap.size w wr)
    (fun _ i _ => zs.length - (intOf i).toNat)
  case atStart => exact ⟨0, Nat.zero_le _, rfl, rfl, by simpa [fours] using hown1, (Below.refl _ _).grown hgrow1 (Nat.le_refl _) (by simp)⟩
  case round =>
    obtain ⟨k, hk, rfl, rfl, hown, hbel⟩ := hrel
    by_cases hlt : k < zs.length
    · have hcx : wr.cell? ⟨b, off + k, none⟩ = some (.int .i64 (zs.getD k 0)) := (hbel.cell (by exact hb)).trans (hc k hlt)
      have hn := hr (zs.getD k 0) (getD_mem zs k hlt)
      generalize hx : zs.getD k 0 = n at hcx hn
      have HX : Hid (zs.getD k 0 = n) := hx
      clear hx
      obtain ⟨hn0, hn1⟩ := hn
      go_wp2_with (at_builtin; refine wpList_append_fits _ rfl _ _ 52 rfl w.heap.size 5 i0 1 Try.underlying52 hi hz1 _ _ _ _ rfl (hown.alloc _) ⟨wr.heap.size, 0, none⟩ 4 4 ((four n).map (Value.int .u8)) rfl rfl ?c1 (ints_oneCell _ _) (by omega) ?_; rotate_right; intro w2 hown2 hgrow2)
      case c1 =>
        intro j u hj
        match j, hj with
        | 0, hj => simp [four] at hj; subst hj; simp [Addr.add]
        | 1, hj => simp [four] at hj; subst hj; simp [Addr.add]
        | 2, hj => simp [four] at hj; subst hj; simp [Addr.add]
        | 3, hj => simp [four] at hj; subst hj; simp [Addr.add]
        | (j + 4), hj => simp [four] at hj
      have R1 : Hid (w2.ownsRow w.heap.size 5 1 (.slice (some ⟨w.heap.size, 0, none⟩) (4 * (k + 1)) (4 * zs.length)) (4 * (k + 1)) ((fours (zs.take (k + 1))).map (Value.int .u8))) := by
        rw [fours_snoc zs k hlt, HX.out, List.map_append]; exact hown2
      have R2 : Below w.heap.size w w2 := (hbel.alloc hbel.size _).grown hgrow2 (by have := hbel.size; simp; omega) (by intro k hk; simp at hk; omega)
      clear hown2 hgrow2 hown hcx
      go_wp2
      go_roundw
      case rel => exact ⟨k + 1, by omega, by go_num, by rfl, R1.out, R2⟩
      case measure => simp [intOf]; omega
    · have hk' : k = zs.length := by omega
      subst hk'
      go_wp2
      go_ret
      exact ⟨rfl, RowK.ofOwn (by simpa using hown) (fours_len zs) (fours_wf zs hr), hbel⟩

theorem within_yes (n m : Int) (w : World) (h0 : 0 ≤ n) (h1 : n ≤ m) : Calls Try.prog 56 #[.int .i64 n, .int .i64 m] w fun e w' => e = .returned (.bool true) ∧ w = w' := by
  go_enter Try.func56, Try.ntmps56
  go_wp2
  go_ret
  exact ⟨rfl, rfl⟩
theorem within_no (n m : Int) (w : World) (h : ¬ (0 ≤ n ∧ n ≤ m)) : Calls Try.prog 56 #[.int .i64 n, .int .i64 m] w fun e w' => e = .returned (.bool false) ∧ w = w' := by
  by_cases h0 : 0 ≤ n
  · have h1 : decide (n ≤ m) = false := by simp; omega
    clear h
    go_enter Try.func56, Try.ntmps56
    go_wp2
    go_ret
    exact ⟨rfl, rfl⟩
  · clear h
    go_enter Try.func56, Try.ntmps56
    go_wp2
    go_ret
    exact ⟨rfl, rfl⟩
theorem in_yes (n l m : Int) (w : World) (h0 : l ≤ n) (h1 : n ≤ m) : Calls Try.prog 70 #[.int .i64 n, .int .i64 l, .int .i64 m] w fun e w' => e = .returned (.bool true) ∧ w = w' := by
  go_enter Try.func70, Try.ntmps70
  go_wp2
  go_ret
  exact ⟨rfl, rfl⟩
theorem in_no (n l m : Int) (w : World) (h : ¬ (l ≤ n ∧ n ≤ m)) : Calls Try.prog 70 #[.int .i64 n, .int .i64 l, .int .i64 m] w fun e w' => e = .returned (.bool false) ∧ w = w' := by
  by_cases h0 : l ≤ n
  · have h1 : decide (n ≤ m) = false := by simp; omega
    clear h
    go_enter Try.func70, Try.ntmps70
    go_wp2
    go_ret
    exact ⟨rfl, rfl⟩
  · clear h
    go_enter Try.func70, Try.ntmps70
    go_wp2
    go_ret
    exact ⟨rfl, rfl⟩

end Go.Proofs.Ytlfecmkpafgcmaa
