/- A text's lines; the walk of lines.split. -/
import Derived.RangeFuncNested
import Derived.RangeFuncBound
import Derived.RangeFuncCalls
import Derived.RangeFuncLeaves
import Derived.RangeFuncBox
import Derived.Shelf.Abstract
import Derived.Shelf.RegionOpen
import Derived.WalkKit
import Derived.OwnWalkIn
import Derived.TacticsInMore
import Derived.LoopNIn
import Derived.LoopIn
import Derived.Maps.AppendAt
import Derived.Test.YtekbdkppnjnaaaaDoorLoD
namespace Go.Proofs.YtekbdkppnjnaaaaDoor
open Go.RowKit Go.Shelf

attribute [local go_sem] Oper.semAt_some

/-- where the first line ends: behind its line feed, or at the text's end. -/
theorem indexByte_lt (c : UInt8) : ∀ l : List UInt8, Lib.indexByte l c = -1 ∨ (0 ≤ Lib.indexByte l c ∧ Lib.indexByte l c < l.length)
  | [] => .inl rfl
  | b :: l => by
    have ih := indexByte_lt c l
    simp only [Lib.indexByte, List.length_cons]
    split
    · right; omega
    · split
      · left; rfl
      · rename_i h
        have h' : ¬ Lib.indexByte l c = -1 := by simpa using h
        right; omega
def lineEnd (r : List UInt8) : Nat := if Lib.indexByte r 10 = -1 then r.length else (Lib.indexByte r 10 + 1).toNat
theorem lineEnd_le (r : List UInt8) : lineEnd r ≤ r.length := by
  unfold lineEnd
  have := indexByte_lt 10 r
  split <;> omega
theorem lineEnd_pos {r : List UInt8} (h : r ≠ []) : 1 ≤ lineEnd r := by
  unfold lineEnd
  have h1 := indexByte_lt 10 r
  have h2 : r.length ≠ 0 := fun e => h (List.length_eq_zero_iff.1 e)
  split <;> omega
def linesF : Nat → List UInt8 → List (List UInt8)
  | 0, _ => []
  | n + 1, r => if r = [] then [] else r.take (lineEnd r) :: linesF n (r.drop (lineEnd r))
theorem linesF_fuel : ∀ (n m : Nat) (r : List UInt8), r.length ≤ n → r.length ≤ m → linesF n r = linesF m r
  | 0, 0, r, _, _ => rfl
  | 0, m + 1, r, h, _ => by
    have : r = [] := List.length_eq_zero_iff.1 (by omega)
    simp [linesF, this]
  | n + 1, 0, r, _, h => by
    have : r = [] := List.length_eq_zero_iff.1 (by omega)
    simp [linesF, this]
  | n + 1, m + 1, r, h1, h2 => by
    unfold linesF
    by_cases e : r = []
    · rw [if_pos e, if_pos e]
    · rw [if_neg e, if_neg e]
      have := lineEnd_pos e
      have := lineEnd_le r
      rw [linesF_fuel n m (r.drop (lineEnd r)) (by rw [List.length_drop]; omega) (by rw [List.length_drop]; omega)]
/-- a text's lines, each with its line feed. -/
def linesOf (r : List UInt8) : List (List UInt8) := linesF r.length r
theorem linesOf_nil : linesOf [] = [] := rfl
theorem linesOf_cons {r : List UInt8} (h : r ≠ []) : linesOf r = r.take (lineEnd r) :: linesOf (r.drop (lineEnd r)) := by
  have h1 := lineEnd_pos h
  have h2 := lineEnd_le r
  unfold linesOf
  rw [linesF_fuel r.length (r.length + 1) r (Nat.le_refl _) (by omega), linesF, if_neg h]
  rw [linesF_fuel _ (r.drop (lineEnd r)).length (r.drop (lineEnd r)) (by rw [List.length_drop]; omega) (Nat.le_refl _)]
/-- what comes of a text: a line with its place. -/
abbrev Ln := { x : Nat × List UInt8 // x.1 ≤ 4000000 ∧ x.2.length ≤ 4000000 }
abbrev encL (x : Ln) : Array Value := #[.int .i64 (x.1.1 : Int), .string (str x.1.2)]
structure Nb (t : List UInt8) (pre : List Ln) (r : List UInt8) : Prop where
  no : ∀ i (h : i < pre.length), pre[i].1.1 = i
  ls : linesOf t = pre.map (fun x => x.1.2) ++ linesOf r
  le : r.length + pre.length ≤ t.length
theorem Nb.first (t : List UInt8) : Nb t [] t := ⟨fun i h => by simp at h, rfl, by simp⟩
theorem Nb.lt {t r : List UInt8} {pre : List Ln} (h : Nb t pre r) (hr : r ≠ []) : pre.length < (linesOf t).length := by
  rw [h.ls, linesOf_cons hr]
  simp
theorem Nb.next {t r : List UInt8} {pre : List Ln} (h : Nb t pre r) (hr : r ≠ []) (x : Ln) (hx : x.1 = (pre.length, r.take (lineEnd r))) : Nb t (pre ++ [x]) (r.drop (lineEnd r)) := by
  have h1 := lineEnd_pos hr
  have h2 := lineEnd_le r
  refine ⟨fun i hi => ?_, ?_, ?_⟩
  · by_cases e : i < pre.length
    · rw [List.getElem_append_left e]; exact h.no i e
    · have : i = pre.length := by simp at hi; omega
      subst this
      simp [hx]
  · rw [h.ls, linesOf_cons hr]
    simp [hx]
  · have := h.le
    simp only [List.length_drop, List.length_append, List.length_singleton]
    omega
theorem str_extract (r : List UInt8) (a b : Nat) : (str r).extract a b = str ((r.drop a).take (b - a)) := by
  unfold str
  rw [ByteArray.extract_mk]
theorem str_eq {a b : List UInt8} (h : str a = str b) : a = b := by
  have := congrArg (fun x : ByteArray => x.data.toList) h
  rw [str_data, str_data] at this
  exact this
/-- for a loop's measure. -/
def strSize : Value → Nat
  | .string s => s.size
  | _ => 0
theorem str_nil_ne {r : List UInt8} (h : r ≠ []) : (str r).toList.isEmpty = false := by
  rw [Lib.toList_data, str_data]
  cases r with
  | nil => exact absurd rfl h
  | cons x r => rfl
set_option maxRecDepth 100000 in
set_option maxHeartbeats 4000000 in
theorem split1_in (n : Nat) (hn : 1 ≤ n) (l Bn n₀ : Nat) (t : List UInt8) (ht : t.length ≤ 4000000) (J Jx : List Ln → World → Prop)
    (hY : ∀ pre x W, J pre W → pre.length < (linesOf t).length → YieldAt Fence.wide (n - 1) Tryd.prog l (encL x) W fun e W' =>
      (e = .returned (.bool true) ∧ J (pre ++ [x]) W' ∧ Below n₀ W W') ∨ (e = .returned (.bool false) ∧ Jx (pre ++ [x]) W'))
    (W : World) (hBn : W.cell? ⟨Bn, 0, none⟩ = some (.string (str t))) (h0 : J [] W) :
    CallsIn Fence.wide n Tryd.prog 44 #[.func (.yield l) #[] #[], .pointer (some ⟨Bn, 0, none⟩)] W fun e W' => (∃ v, e = .returned v) ∧
      ((∃ ys, Nb t ys [] ∧ J ys W') ∨ (∃ pre, (∃ r, Nb t pre r) ∧ Jx pre W')) := by
  refine callsIn_of_wp Tryd.func44 rfl trivial ?_ rfl
  simp only [Tryd.ntmps44, List.size_toArray, List.length_cons, List.length_nil, Nat.reduceAdd, Nat.reduceSub, Array.replicate_succ, Array.replicate_zero, List.push_toArray, List.append_toArray, List.nil_append, List.cons_append]
  gi_wp2
  gi_loopw [3, 4] (fun rv kv wr => ∃ (pre : List Ln) (r : List UInt8), rv = .string (str r) ∧ kv = .int .i64 (pre.length : Int) ∧ Hid (Nb t pre r) ∧ J pre wr)
    (fun rv _ _ => strSize rv)
  case atStart =>
    exact ⟨[], t, rfl, rfl, veil (Nb.first t), h0⟩
  case round =>
    obtain ⟨pre, r, rfl, rfl, HN, hJ⟩ := hrel
    by_cases hr : r = []
    case pos =>
      subst hr
      have e0 : str [] = (⟨#[]⟩ : ByteArray) := rfl
      rw [e0] at *
      gi_wp2
      go_end0
      exact ⟨⟨_, rfl⟩, .inl ⟨pre, unveil HN, hJ⟩⟩
    case neg =>
      have hne := str_nil_ne hr
      have hlt := (unveil HN).lt hr
      have h1 := lineEnd_pos hr
      have h2 := lineEnd_le r
      have h3 := (unveil HN).le
      have hsz : ((str r).size : Int) = r.length := by rw [str_size]
      obtain ⟨x, hx⟩ : ∃ x : Ln, x.1 = (pre.length, r.take (lineEnd r)) := ⟨⟨(pre.length, r.take (lineEnd r)), by simp only [List.length_take]; omega⟩, rfl⟩
      have HNx := veil ((unveil HN).next hr x hx)
      have HE1 : Hid ((str r).extract 0 (lineEnd r) = str (r.take (lineEnd r))) := veil (by rw [str_extract]; simp)
      have HE2 : Hid ((str r).extract (lineEnd r) r.length = str (r.drop (lineEnd r))) := veil (by rw [str_extract, List.take_of_length_le (by simp)])
      have hr2 : (r.drop (lineEnd r)).length + lineEnd r = r.length := by rw [List.length_drop]; omega
      have HI := indexByte_any r wr
      have hz := indexByte_lt 10 r
      have hE : (Lib.indexByte r 10 = -1 ∧ lineEnd r = r.length) ∨ (¬ Lib.indexByte r 10 = -1 ∧ (lineEnd r : Int) = Lib.indexByte r 10 + 1) := by
        unfold lineEnd
        split
        · exact .inl ⟨by assumption, rfl⟩
        · refine .inr ⟨by assumption, by omega⟩
      obtain ⟨fn, tmps, assign, body, hy, hR⟩ := hY pre x wr hJ hlt
      have ex : encL x = #[.int .i64 (pre.length : Int), .string (str (r.take (lineEnd r)))] := by unfold encL; rw [hx]
      rw [ex] at hy
      clear ex
      generalize Lib.indexByte r 10 = z at *
      generalize lineEnd r = E at *
      generalize r.take E = l1 at *
      generalize r.drop E = r2 at *
      have hl0 : r.length ≤ 4000000 := by omega
      generalize r.length = len at *
      generalize str r = S at *
      have he1 := unveil HE1
      have he2 := unveil HE2
      clear HE1 HE2 HN hY hBn h0
      have HX := veil hx
      clear hx
      rcases hE with ⟨rfl, rfl⟩ | ⟨hz1, hz2⟩
      · gi_wp2_with (refine ⟨trivial, ?_⟩; gi_at_call 45; refine (callsIn_wide.2 HI).mono ?_; rintro e w' ⟨rfl, rfl⟩; clear HI)
        refine hR.mono ?_
        rintro e W3 (⟨rfl, hJ3, hk3⟩ | ⟨rfl, hJx3⟩)
        · gi_wp2
          go_roundw
          case rel => exact ⟨pre ++ [x], r2, by rw [← he2]; congr 2; omega, by simp, HNx, hJ3⟩
          case measure => (simp [strSize]; omega)
        · gi_wp2
          refine bodyPost_ret (results_none rfl _ _ _) rfl ?_
          exact ⟨⟨_, rfl⟩, .inr ⟨pre ++ [x], ⟨_, unveil HNx⟩, hJx3⟩⟩
      · obtain ⟨m, rfl⟩ : ∃ m, E = m + 1 := ⟨E - 1, by omega⟩
        obtain rfl : z = (m : Int) := by omega
        have hm : ¬ ((m : Int) + 1 = 0) := by omega
        clear hz1 hz2
        gi_wp2_with (refine ⟨trivial, ?_⟩; gi_at_call 45; refine (callsIn_wide.2 HI).mono ?_; rintro e w' ⟨rfl, rfl⟩; clear HI)
        refine hR.mono ?_
        rintro e W3 (⟨rfl, hJ3, hk3⟩ | ⟨rfl, hJx3⟩)
        · gi_wp2
          go_roundw
          case rel => exact ⟨pre ++ [x], r2, by rw [← he2]; congr 2; omega, by simp, HNx, hJ3⟩
          case measure => (simp [strSize]; omega)
        · gi_wp2
          refine bodyPost_ret (results_none rfl _ _ _) rfl ?_
          exact ⟨⟨_, rfl⟩, .inr ⟨pre ++ [x], ⟨_, unveil HNx⟩, hJx3⟩⟩
theorem split_any (S : ByteArray) (w : World) : Calls Tryd.prog 34 #[.string S] w fun e w' => e = .returned (.func (.func 44) #[] #[.pointer (some ⟨w.heap.size, 0, none⟩)]) ∧ w' = w.alloc (.cells #[.string S] 9) := by
  go_enter Tryd.func34, Tryd.ntmps34
  go_wp2
  go_ret
  exact ⟨rfl, rfl⟩
theorem split_stops (n : Nat) (hn : 1 ≤ n) (Bn n₀ : Nat) (t : List UInt8) (ht : t.length ≤ 4000000) (w : World) (hBn : Bn < w.heap.size) (hc : w.cell? ⟨Bn, 0, none⟩ = some (.string (str t))) :
    SeqStopsK Fence.wide n Tryd.prog 44 #[.pointer (some ⟨Bn, 0, none⟩)] encL (Below n₀) (fun ys => Nb t ys []) (fun pre => ∃ r, Nb t pre r) (linesOf t).length w := fun l J Jx W hW _ _ hY h0 =>
  split1_in n hn l Bn n₀ t ht J Jx hY W ((hW.cell (p := ⟨Bn, 0, none⟩) hBn).trans hc) h0
end Go.Proofs.YtekbdkppnjnaaaaDoor
