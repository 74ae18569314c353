/- Walks of pack.put, pack.Number and their kin: what each call returns and leaves. -/
import Derived.Test.YtekbdkppnjnaaaaDoorProg
import Derived.Test.YtekbdkppnjnaaaaDoorBase
namespace Go.Proofs.YtekbdkppnjnaaaaDoor
open Go.RowKit

theorem getD_mem (zs : List Int) (k : Nat) (h : k < zs.length) : zs.getD k 0 ∈ zs := by
  rw [List.getD_eq_getElem?_getD, List.getElem?_eq_getElem h]; exact List.getElem_mem h
theorem Tryd.info5 : (Tryd.prog.info? 5).map (fun i => (i.zero, i.size, i.bytes)) = some (some (.int .u8 0), 1, 1) := by kernel_rfl

/-- the four bytes of a number, the highest one first. -/
def four (n : Int) : List Int := [n / 16777216, n / 65536 % 256, n / 256 % 256, n % 256]
def fours (l : List Int) : List Int := l.flatMap four

theorem fours_snoc (zs : List Int) (k : Nat) (h : k < zs.length) : fours (zs.take (k + 1)) = fours (zs.take k) ++ four (zs.getD k 0) := by
  rw [List.take_succ_eq_append_getElem h]
  simp only [fours, List.flatMap_append, List.flatMap_cons, List.flatMap_nil, List.append_nil]
  simp [h]

theorem fours_len (zs : List Int) : (fours zs).length = 4 * zs.length := by
  induction zs with
  | nil => rfl
  | cons z zs ih => simp only [fours, List.flatMap_cons, List.length_append, List.length_cons] at *; rw [ih]; simp [four]; omega
theorem four_wf (n : Int) (h0 : 0 ≤ n) (h1 : n ≤ 2147483647) : ∀ u ∈ four n, (Lit.int .u8 u).wf = true := by
  intro u hu
  simp only [four, List.mem_cons, List.not_mem_nil, or_false] at hu
  rcases hu with rfl | rfl | rfl | rfl <;> exact WalkArith.wf_u8 (by omega)
theorem fours_wf (zs : List Int) (hr : ∀ n ∈ zs, 0 ≤ n ∧ n ≤ 2147483647) : ∀ u ∈ fours zs, (Lit.int .u8 u).wf = true := by
  intro u hu
  simp only [fours, List.mem_flatMap] at hu
  obtain ⟨n, hn, hu⟩ := hu
  exact four_wf n (hr n hn).1 (hr n hn).2 u hu

theorem within_yes (n m : Int) (w : World) (h0 : 0 ≤ n) (h1 : n ≤ m) : Calls Tryd.prog 54 #[.int .i64 n, .int .i64 m] w fun e w' => e = .returned (.bool true) ∧ w = w' := by
  go_enter Tryd.func54, Tryd.ntmps54
  go_wp2
  go_ret
  exact ⟨rfl, rfl⟩
theorem within_no (n m : Int) (w : World) (h : ¬ (0 ≤ n ∧ n ≤ m)) : Calls Tryd.prog 54 #[.int .i64 n, .int .i64 m] w fun e w' => e = .returned (.bool false) ∧ w = w' := by
  by_cases h0 : 0 ≤ n
  · have h1 : decide (n ≤ m) = false := by simp; omega
    clear h
    go_enter Tryd.func54, Tryd.ntmps54
    go_wp2
    go_ret
    exact ⟨rfl, rfl⟩
  · clear h
    go_enter Tryd.func54, Tryd.ntmps54
    go_wp2
    go_ret
    exact ⟨rfl, rfl⟩
theorem in_yes (n l m : Int) (w : World) (h0 : l ≤ n) (h1 : n ≤ m) : Calls Tryd.prog 28 #[.int .i64 n, .int .i64 l, .int .i64 m] w fun e w' => e = .returned (.bool true) ∧ w = w' := by
  go_enter Tryd.func28, Tryd.ntmps28
  go_wp2
  go_ret
  exact ⟨rfl, rfl⟩
theorem in_no (n l m : Int) (w : World) (h : ¬ (l ≤ n ∧ n ≤ m)) : Calls Tryd.prog 28 #[.int .i64 n, .int .i64 l, .int .i64 m] w fun e w' => e = .returned (.bool false) ∧ w = w' := by
  by_cases h0 : l ≤ n
  · have h1 : decide (n ≤ m) = false := by simp; omega
    clear h
    go_enter Tryd.func28, Tryd.ntmps28
    go_wp2
    go_ret
    exact ⟨rfl, rfl⟩
  · clear h
    go_enter Tryd.func28, Tryd.ntmps28
    go_wp2
    go_ret
    exact ⟨rfl, rfl⟩

end Go.Proofs.YtekbdkppnjnaaaaDoor
