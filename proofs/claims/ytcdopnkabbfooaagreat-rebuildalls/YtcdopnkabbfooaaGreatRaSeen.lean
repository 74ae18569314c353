/- Texts put together: WdI, WdJ, WdK, RqD. -/
import Derived.Test.YtcdopnkabbfooaaGreatWdH
import Derived.Test.YtcdopnkabbfooaaGreatRqC
import Derived.Test.YtcdopnkabbfooaaGreatQvD
import Derived.Deep.DeepCutAuto
namespace Go.Proofs.YtcdopnkabbfooaaGreat
open Go.RowKit

set_option maxRecDepth 20000 in
set_option maxHeartbeats 1000000 in
theorem idSeen_state (t id : Int) (s : Nat → Bool) (w : World) (h : ¬ WinOk t s) :
    Calls Tryz.prog 101 #[winVal t s, .int .i64 id] w fun e w' => e = .returned (.tuple #[.bool false, .int .i64 6]) ∧ Below w.heap.size w w' := by
  go_enter Tryz.func101, Tryz.ntmps101
  go_wp2_with (go_at_call 100; refine (windowFault_no t s _ h).mono ?_; rintro e w1 ⟨rfl, b1⟩)
  go_ret2
  exact ⟨rfl, below1t b1⟩

set_option maxRecDepth 20000 in
set_option maxHeartbeats 1000000 in
theorem idSeen_range (t id : Int) (s : Nat → Bool) (w : World) (h : WinOk t s) (hr : ¬ (0 ≤ id ∧ id ≤ 1073741824)) :
    Calls Tryz.prog 101 #[winVal t s, .int .i64 id] w fun e w' => e = .returned (.tuple #[.bool false, .int .i64 2]) ∧ Below w.heap.size w w' := by
  go_enter Tryz.func101, Tryz.ntmps101
  go_wp2_with (first | (go_at_call 100; refine (windowFault_yes t s _ h).mono ?_; rintro e w1 ⟨rfl, b1⟩) | (go_at_call 64; refine (winIn_no id 0 1073741824 _ hr).mono ?_; rintro e w2 ⟨rfl, rfl⟩))
  go_ret2
  exact ⟨rfl, below1t b1⟩

set_option maxRecDepth 20000 in
set_option maxHeartbeats 1000000 in
theorem idSeen_low (t id : Int) (s : Nat → Bool) (w : World) (h : WinOk t s) (h0 : 0 ≤ id) (h1 : id ≤ 1073741824) (h2 : id < t - 8) :
    Calls Tryz.prog 101 #[winVal t s, .int .i64 id] w fun e w' => e = .returned (.tuple #[.bool false, .int .i64 9]) ∧ Below w.heap.size w w' := by
  have hl := h.low
  have hh := h.high
  have h3 : id + 8 < t := by omega
  go_enter Tryz.func101, Tryz.ntmps101
  go_wp2_with fail
  obtain ⟨W, hW, wb0, B0, S0⟩ := one_box w t s
  rw [← hW]
  clear hW
  refine (windowFault_yes t s _ h).mono ?_
  rintro e w1 ⟨rfl, b1⟩
  have c0 := (wb0.next b1).cell0
  have HB := veil (Below.next B0 b1)
  clear wb0 B0 S0 b1 h
  go_wp2_with (go_at_call 64; refine (winIn_yes id 0 1073741824 _ h0 h1).mono ?_; rintro e w2 ⟨rfl, rfl⟩)
  go_ret2
  exact ⟨rfl, unveil HB⟩

/-- the id is none of the first k. -/
def NoneOf (l : List Int) (id : Int) (k : Nat) : Prop := ∀ j, j < k → ¬ l.getD j 0 = id

set_option maxRecDepth 20000 in
set_option maxHeartbeats 2000000 in
theorem idSeen_yes (t id : Int) (s : Nat → Bool) (w : World) (h : WinOk t s) (h0 : 0 ≤ id) (h1 : id ≤ 1073741824) (h2 : t - 8 ≤ id) :
    Calls Tryz.prog 101 #[winVal t s, .int .i64 id] w fun e w' => e = .returned (.tuple #[.bool (inWin t s id), .int .i64 0]) ∧ Below w.heap.size w w' := by
  have hl := h.low
  have hh := h.high
  have h3 : ¬ id + 8 < t := by omega
  have hm : Hid (id ∈ idsTo t s 8 ↔ inWin t s id = true) := veil mem_ids
  generalize inWin t s id = b at hm ⊢
  go_enter Tryz.func101, Tryz.ntmps101
  go_wp2_with fail
  obtain ⟨W, hW, wb0, B0, S0⟩ := one_box w t s
  rw [← hW]
  clear hW
  refine (windowFault_yes t s _ h).mono ?_
  rintro e w1 ⟨rfl, b1⟩
  have wb := wb0.next b1
  have HB := veil (Below.next B0 b1)
  obtain ⟨c0, c1, c2, c3, c4, c5, c6, c7, c8⟩ := wb.cells
  clear wb wb0 B0 S0 b1 h
  go_wp2_with (go_at_call 64; refine (winIn_yes id 0 1073741824 _ h0 h1).mono ?_; rintro e w2 ⟨rfl, rfl⟩)
  refine (idsOf_any t s _ hl hh).mono ?_
  rintro e w2 ⟨a, cap, rfl, r2, k2, n2, m2, b2⟩
  have HB2 := veil (Below.next (unveil HB) b2)
  have hln := length_idsTo t s 8
  clear HB b2 c0 c1 c2 c3 c4 c5 c6 c7 c8
  generalize idsTo t s 8 = l at r2 k2 hm hln ⊢
  obtain ⟨n, hn⟩ : ∃ n, n = l.length := ⟨_, rfl⟩
  rw [← hn] at r2 k2 hln ⊢
  have HN := veil hn
  clear hn
  go_wp2_with fail
  go_loopw [8] (fun i wr => ∃ k : Nat, k ≤ n ∧ i = .int .i64 k ∧ NoneOf l id k ∧ wr = w2) (fun i _ => n - (intOf i).toNat)
  case atStart => exact ⟨0, by omega, rfl, fun j hj => by omega, rfl⟩
  case round =>
    obtain ⟨k, hk, rfl, hno, rfl⟩ := hrel
    have HO := hno
    clear hno
    by_cases hlt : k < n
    · obtain ⟨b', off, rfl⟩ := r2.form (by omega)
      have hx := r2.at k hlt
      by_cases hid : l.getD k 0 = id
      · have hb : b = true := (unveil hm).1 (by rw [← hid]; exact mem_getD (by have := unveil HN; omega))
        rw [hid] at hx
        have e1 : (id == id) = true := by simp
        clear hid
        subst hb
        go_wp2
        go_ret2
        exact ⟨rfl, unveil HB2⟩
      · have e1 : (l.getD k 0 == id) = false := by simpa using hid
        have HO' : NoneOf l id (k + 1) := (by
          intro j hj
          rcases Nat.lt_or_ge j k with h | h
          · exact HO j h
          · obtain rfl : j = k := by omega
            exact hid)
        clear hid
        generalize l.getD k 0 = x at hx e1
        go_wp2
        go_roundw
        case rel => exact ⟨k + 1, by omega, by go_num, HO', by first | rfl | trivial⟩
        case measure => simp [intOf]; omega
    · obtain rfl : k = n := by omega
      have hb : b = false := by
        cases b
        · rfl
        · obtain ⟨j, hj, he⟩ := List.mem_iff_getElem.1 ((unveil hm).2 rfl)
          exact absurd (by rw [List.getD_eq_getElem?_getD, List.getElem?_eq_getElem hj]; simpa using he) (HO j (by have := unveil HN; omega))
      subst hb
      go_wp2
      go_ret2
      exact ⟨rfl, unveil HB2⟩
end Go.Proofs.YtcdopnkabbfooaaGreat

namespace Go.Proofs.YtcdopnkabbfooaaGreat
open Go.RowKit

/-- what stands behind the first k ids, the new one laid ahead of the first greater one; and whether it was laid. -/
def layK (l : List Int) (id : Int) : Nat → List Int × Bool
  | 0 => ([], false)
  | k + 1 => if (layK l id k).2 = false ∧ id < l.getD k 0 then ((layK l id k).1 ++ [id] ++ [l.getD k 0], true) else ((layK l id k).1 ++ [l.getD k 0], (layK l id k).2)
/-- all ids with the new one. -/
def laid (l : List Int) (id : Int) : List Int := if (layK l id l.length).2 then (layK l id l.length).1 else (layK l id l.length).1 ++ [id]

structure LayInv (l : List Int) (id : Int) (k : Nat) : Prop where
  sorted : (layK l id k).1.Pairwise (· < ·)
  mem : ∀ x, x ∈ (layK l id k).1 ↔ (x ∈ l.take k ∨ (x = id ∧ (layK l id k).2 = true))
  done : (layK l id k).2 = true → ∀ j, k ≤ j → j < l.length → id < l.getD j 0
  open_ : (layK l id k).2 = false → ∀ x ∈ l.take k, x < id
  len : (layK l id k).1.length = if (layK l id k).2 then k + 1 else k

theorem getD_rising {l : List Int} (hp : l.Pairwise (· < ·)) {i j : Nat} (hij : i < j) (hj : j < l.length) : l.getD i 0 < l.getD j 0 := by
  rw [List.getD_eq_getElem?_getD, List.getD_eq_getElem?_getD, List.getElem?_eq_getElem hj, List.getElem?_eq_getElem (show i < l.length by omega)]
  exact List.pairwise_iff_getElem.1 hp i j (by omega) hj hij
theorem take_less {l : List Int} (hp : l.Pairwise (· < ·)) {k : Nat} (hk : k < l.length) {x : Int} (hx : x ∈ l.take k) : x < l.getD k 0 := by
  obtain ⟨i, hi, rfl⟩ := List.mem_iff_getElem.1 hx
  simp only [List.length_take] at hi
  have := getD_rising hp (show i < k by omega) hk
  rw [List.getD_eq_getElem?_getD, List.getElem?_eq_getElem (show i < l.length by omega)] at this
  simpa using this
theorem take_more (l : List Int) (k : Nat) (hk : k < l.length) : l.take (k + 1) = l.take k ++ [l.getD k 0] := by
  rw [List.take_succ_eq_append_getElem hk]
  simp [hk]

theorem lay_inv {l : List Int} {id : Int} (hp : l.Pairwise (· < ·)) (hid : id ∉ l) : ∀ k, k ≤ l.length → LayInv l id k
  | 0, _ => ⟨by simp [layK], by simp [layK], by simp [layK], by simp [layK], by simp [layK]⟩
  | k + 1, hk => by
    have ih := lay_inv hp hid k (by omega)
    have hx : l.getD k 0 ≠ id := fun h => hid (by rw [← h]; exact mem_getD (by omega))
    have ht := take_more l k (by omega)
    have hl := fun x (hx : x ∈ l.take k) => take_less hp (show k < l.length by omega) hx
    have hr := fun j (h1 : k < j) (h2 : j < l.length) => getD_rising hp h1 h2
    obtain ⟨h1, h2, h3, h4, h5⟩ := ih
    by_cases hc : (layK l id k).2 = false ∧ id < l.getD k 0
    · have e : layK l id (k + 1) = ((layK l id k).1 ++ [id] ++ [l.getD k 0], true) := by rw [layK, if_pos hc]
      have hm : ∀ x ∈ (layK l id k).1, x ∈ l.take k := fun x hx => by
        rcases (h2 x).1 hx with h | h
        · exact h
        · rw [hc.1] at h; exact absurd h.2 (by simp)
      refine ⟨?_, ?_, ?_, ?_, ?_⟩
      · rw [e]
        simp only [List.append_assoc, List.pairwise_append, List.pairwise_cons, List.mem_append, List.mem_singleton]
        refine ⟨h1, ⟨⟨by simp, by simp⟩, ⟨by simp, by simp⟩, ?_⟩, ?_⟩
        · intro a ha b hb
          rw [ha, hb]; exact hc.2
        · intro a ha b hb
          rcases hb with rfl | rfl
          · exact h4 hc.1 a (hm a ha)
          · exact hl a (hm a ha)
      · intro x
        rw [e, ht]
        simp only [List.mem_append, List.mem_singleton, and_true]
        constructor
        · rintro ((h | h) | h)
          · exact .inl (.inl (hm x h))
          · exact .inr h
          · exact .inl (.inr h)
        · rintro ((h | h) | h)
          · exact .inl (.inl ((h2 x).2 (.inl h)))
          · exact .inr h
          · exact .inl (.inr h)
      · intro _ j hj hj2
        have := hr j (by omega) hj2
        omega
      · rw [e]; intro h; cases h
      · rw [e]
        rw [hc.1] at h5
        simp at h5
        simp [h5]
    · have e : layK l id (k + 1) = ((layK l id k).1 ++ [l.getD k 0], (layK l id k).2) := by rw [layK, if_neg hc]
      refine ⟨?_, ?_, ?_, ?_, ?_⟩
      · rw [e]
        simp only [List.pairwise_append, List.pairwise_cons, List.mem_singleton]
        refine ⟨h1, ⟨by simp, by simp⟩, ?_⟩
        intro a ha b hb
        rw [hb]
        rcases (h2 a).1 ha with h | ⟨rfl, h⟩
        · exact hl a h
        · exact h3 h k (Nat.le_refl _) (by omega)
      · intro x
        rw [e, ht]
        simp only [List.mem_append, List.mem_singleton]
        rw [h2 x]
        constructor
        · rintro ((h | h) | h)
          · exact .inl (.inl h)
          · exact .inr h
          · exact .inl (.inr h)
        · rintro ((h | h) | h)
          · exact .inl (.inl h)
          · exact .inr h
          · exact .inl (.inr h)
      · rw [e]
        exact fun h j hj hj2 => h3 h j (by omega) hj2
      · rw [e, ht]
        intro h x hx
        rcases List.mem_append.1 hx with hx | hx
        · exact h4 h x hx
        · rw [List.mem_singleton] at hx
          have : ¬ id < l.getD k 0 := fun hh => hc ⟨h, hh⟩
          omega
      · rw [e]
        simp only [List.length_append, List.length_singleton]
        rw [h5]
        split <;> omega

theorem laid_mem {l : List Int} {id : Int} (hp : l.Pairwise (· < ·)) (hid : id ∉ l) (x : Int) : x ∈ laid l id ↔ (x = id ∨ x ∈ l) := by
  obtain ⟨_, h2, _, _, _⟩ := lay_inv hp hid l.length (Nat.le_refl _)
  rw [List.take_of_length_le (Nat.le_refl _)] at h2
  unfold laid
  by_cases hd : (layK l id l.length).2 = true
  · rw [if_pos hd, h2]
    simp only [hd, and_true]
    exact Or.comm
  · rw [if_neg hd, List.mem_append, h2, List.mem_singleton]
    simp only [hd]
    constructor
    · rintro ((h | h) | h)
      · exact .inr h
      · exact absurd h.2 (by simp)
      · exact .inl h
    · rintro (h | h)
      · exact .inr h
      · exact .inl (.inl h)
theorem laid_sorted {l : List Int} {id : Int} (hp : l.Pairwise (· < ·)) (hid : id ∉ l) : (laid l id).Pairwise (· < ·) := by
  obtain ⟨h1, h2, _, h4, _⟩ := lay_inv hp hid l.length (Nat.le_refl _)
  rw [List.take_of_length_le (Nat.le_refl _)] at h2 h4
  unfold laid
  by_cases hd : (layK l id l.length).2 = true
  · rw [if_pos hd]
    exact h1
  · rw [if_neg hd, List.pairwise_append]
    have hd' : (layK l id l.length).2 = false := by simpa using hd
    refine ⟨h1, by simp, fun a ha b hb => ?_⟩
    rw [List.mem_singleton] at hb
    rw [hb]
    rcases (h2 a).1 ha with h | h
    · exact h4 hd' a h
    · exact absurd h.2 hd
theorem laid_length (l : List Int) (id : Int) : (laid l id).length ≤ 2 * l.length + 1 := by
  have : ∀ k, (layK l id k).1.length ≤ 2 * k := by
    intro k
    induction k with
    | zero => simp [layK]
    | succ k ih =>
      rw [layK]
      split <;> simp <;> omega
  have := this l.length
  unfold laid
  split
  · omega
  · simp; omega

/-- the window of a window's ids with a new one is the window behind that id. -/
theorem laid_window {t id : Int} {s : Nat → Bool} (h : WinOk t s) (h0 : 0 ≤ id) (hn : inWin t s id = false) :
    topOf (laid (idsTo t s 8) id) = takeT t id ∧ (∀ i, i < 8 → seenOf (takeT t id) (laid (idsTo t s 8) id) i = takeS t s id i) ∧ (∀ x ∈ laid (idsTo t s 8) id, 0 ≤ x ∧ x < takeT t id) ∧ id ∈ laid (idsTo t s 8) id := by
  have hp := idsTo_sorted t s 8
  have hid : id ∉ idsTo t s 8 := by
    rw [mem_ids, hn]; simp
  have hg := takeT_gt t id
  have hm := laid_mem hp hid
  have hb : ∀ x ∈ laid (idsTo t s 8) id, 0 ≤ x ∧ x < takeT t id := by
    intro x hx
    rcases (hm x).1 hx with rfl | hx
    · omega
    · have := h.nonneg (mem_ids.1 hx); omega
  refine ⟨topOf_eq (laid_sorted hp hid) ?_ (fun x hx => (hb x hx).2), fun i _ => ?_, hb, (hm id).2 (.inl rfl)⟩
  · rw [hm]
    by_cases hc : t ≤ id
    · left
      unfold takeT
      rw [if_pos hc]
      omega
    · right
      unfold takeT
      rw [if_neg hc]
      have h7 : s 7 = true := by
        rcases h.last with h' | h'
        · omega
        · exact h'
      exact mem_idsTo.2 ⟨7, by omega, h7, by omega⟩
  · unfold seenOf takeS
    rw [Bool.eq_iff_iff]
    simp only [decide_eq_true_eq, Bool.or_eq_true]
    rw [hm, mem_ids]
end Go.Proofs.YtcdopnkabbfooaaGreat

namespace Go.Proofs.YtcdopnkabbfooaaGreat
open Go.RowKit

theorem ret_IdTaken {W : World} {R : Nat} {t e : Int} {s : Nat → Bool} {b : Bool} {tmps : Array Value} (h : winBlock W R t s) (t4 : tmps[4]? = some (.pointer (some ⟨R, 0, none⟩))) (t5 : tmps[5]? = some (.bool b)) (t6 : tmps[6]? = some (.int .i64 e)) :
    (results Tryz.f90 tmps).run Tryz.prog W = .ok (.tuple #[winVal t s, .bool b, .int .i64 e]) W := by
  obtain ⟨c0, c1, c2, c3, c4, c5, c6, c7, c8⟩ := h.cells
  simp [results, Tryz.results90, go_sem, c0, c1, c2, c3, c4, c5, c6, c7, c8, t4, t5, t6]

set_option maxHeartbeats 1000000 in
/-- an error of IdSeen. -/
theorem idTaken_err (t id e0 : Int) (s : Nat → Bool) (w : World) (he : ¬ e0 = 0) (h : ∀ w, Calls Tryz.prog 101 #[winVal t s, .int .i64 id] w fun e w' => e = .returned (.tuple #[.bool false, .int .i64 e0]) ∧ Below w.heap.size w w') :
    Calls Tryz.prog 90 #[winVal t s, .int .i64 id] w fun e w' => e = .returned (.tuple #[winVal 0 noneS, .bool false, .int .i64 e0]) ∧ Below w.heap.size w w' := by
  go_enter Tryz.func90, Tryz.ntmps90
  go_wp2_with fail
  obtain ⟨W, hW, wb0, wb1, B0, S0⟩ := two_wins w t s
  rw [← hW]
  clear hW
  refine (h _).mono ?_
  rintro e w1 ⟨rfl, b1⟩
  have wb := wb1.next b1
  have HW := veil wb
  have HB := veil (Below.next B0 b1)
  obtain ⟨d0, d1, d2, d3, d4, d5, d6, d7, d8⟩ := wb.cells
  have df := wb.free
  clear wb wb0 wb1 B0 S0 b1 h
  go_wp2
  exact bodyPost_ret (ret_IdTaken (unveil HW).none rfl rfl rfl) rfl ⟨rfl, winNone_below (unveil HB) _ (by omega)⟩

set_option maxRecDepth 20000 in
set_option maxHeartbeats 1000000 in
theorem idTaken_old (t id : Int) (s : Nat → Bool) (w : World) (h : WinOk t s) (h0 : 0 ≤ id) (h1 : id ≤ 1073741824) (h2 : inWin t s id = true) :
    Calls Tryz.prog 90 #[winVal t s, .int .i64 id] w fun e w' => e = .returned (.tuple #[winVal t s, .bool false, .int .i64 0]) ∧ Below w.heap.size w w' := by
  have h3 : t - 8 ≤ id := by
    obtain ⟨i, _, _, rfl⟩ := inWin_iff.1 h2
    omega
  go_enter Tryz.func90, Tryz.ntmps90
  go_wp2_with fail
  obtain ⟨W, hW, wb0, wb1, B0, S0⟩ := two_wins w t s
  rw [← hW]
  clear hW
  refine (idSeen_yes t id s _ h h0 h1 h3).mono ?_
  rw [h2]
  rintro e w1 ⟨rfl, b1⟩
  have wa := wb0.next b1
  have wb := wb1.next b1
  have HW := veil wb
  have HB := veil (Below.next B0 b1)
  obtain ⟨c0, c1, c2, c3, c4, c5, c6, c7, c8⟩ := wa.cells
  obtain ⟨d0, d1, d2, d3, d4, d5, d6, d7, d8⟩ := wb.cells
  have df := wb.free
  clear wa wb wb0 wb1 B0 S0 b1 h
  go_wp2
  exact bodyPost_ret (ret_IdTaken ((unveil HW).store t s) rfl rfl rfl) rfl ⟨rfl, winStore_below (unveil HB) _ (by omega) _ _⟩

theorem layK_yes {l : List Int} {id : Int} {k : Nat} (hd : (layK l id k).2 = false) (hx : id < l.getD k 0) : layK l id (k + 1) = ((layK l id k).1 ++ [id] ++ [l.getD k 0], true) := by rw [layK, if_pos ⟨hd, hx⟩]
theorem layK_no {l : List Int} {id : Int} {k : Nat} (h : ¬ ((layK l id k).2 = false ∧ id < l.getD k 0)) : layK l id (k + 1) = ((layK l id k).1 ++ [l.getD k 0], (layK l id k).2) := by rw [layK, if_neg h]

set_option maxRecDepth 20000 in
set_option maxHeartbeats 4000000 in
theorem idTaken_new (t id : Int) (s : Nat → Bool) (w : World) (h : WinOk t s) (h0 : 0 ≤ id) (h1 : id ≤ 1073741824) (h2 : t - 8 ≤ id) (h3 : inWin t s id = false) :
    Calls Tryz.prog 90 #[winVal t s, .int .i64 id] w fun e w' => e = .returned (.tuple #[winVal (takeT t id) (takeS t s id), .bool true, .int .i64 0]) ∧ Below w.heap.size w w' := by
  have hl := h.low
  have hh := h.high
  obtain ⟨i0, hi, hz0, hz1, hz2⟩ := info_parts Tryz.infoI
  obtain ⟨p1, p2, p3, p4⟩ := laid_window h h0 h3
  have hT := takeT_gt t id
  have hT2 : takeT t id ≤ 1073741825 := by unfold takeT; split <;> omega
  have hln := length_idsTo t s 8
  have hwl := ids_wf (s := s) hl hh 8 (Nat.le_refl _)
  go_enter Tryz.func90, Tryz.ntmps90
  go_wp2_with fail
  obtain ⟨W, hW, wb0, wb1, B0, S0⟩ := two_wins w t s
  rw [← hW]
  clear hW
  refine (idSeen_yes t id s _ h h0 h1 h2).mono ?_
  rw [h3]
  rintro e w1 ⟨rfl, b1⟩
  have wa := wb0.next b1
  have wb := wb1.next b1
  have HW := veil wb
  have HB := veil (Below.next B0 b1)
  obtain ⟨c0, c1, c2, c3, c4, c5, c6, c7, c8⟩ := wa.cells
  clear wa wb wb0 wb1 B0 S0 b1
  go_wp2_with fail
  refine (idsOf_any t s _ hl hh).mono ?_
  rintro e w2 ⟨a, cap, rfl, r2, k2, n2, m2, b2⟩
  have vb := (unveil HW).next b2
  have HV := veil vb
  have hR := vb.lt
  have HB2 := veil (Below.next (unveil HB) b2)
  clear c0 c1 c2 c3 c4 c5 c6 c7 c8 HW HB b2 vb h h3
  have hll := laid_length (idsTo t s 8) id
  generalize idsTo t s 8 = l at r2 k2 hln p1 p2 p3 p4 hwl hll ⊢
  obtain ⟨n, hn⟩ : ∃ n, n = l.length := ⟨_, rfl⟩
  rw [← hn] at r2 k2 hln hll ⊢
  have HN := veil hn
  clear hn
  have HF : Hid (∀ (a : Option Addr) (m cap : Nat) (w' : World), RowK .i64 w' a m (laid l id) → Calls Tryz.prog 103 #[.slice a m cap] w' fun e w'' => e = .returned (winVal (takeT t id) (takeS t s id)) ∧ Below w'.heap.size w' w'') := veil (by
    intro a m cap w' r
    have hm := r.len_eq
    have hpos : 0 < (laid l id).length := List.length_pos_iff.2 (by intro h0; rw [h0] at p4; cases p4)
    rw [← winVal_eq (rfl : takeT t id = takeT t id) p2]
    have := windowOf_any a m cap (laid l id) w' r (by omega) (by omega) (by intro x hx; have := p3 x hx; rw [p1]; omega)
    rw [p1] at this
    exact this)
  have HL : Hid (∀ u ∈ laid l id, (Lit.int .i64 u).wf = true) := veil (by
    intro u hu
    have := p3 u hu
    exact wf_i64 (by omega) (by omega))
  have HD1 : Hid ((layK l id n).2 = true → laid l id = (layK l id n).1) := veil (by
    intro hd
    rw [unveil HN] at hd ⊢
    unfold laid
    rw [if_pos hd])
  have HD0 : Hid ((layK l id n).2 = false → laid l id = (layK l id n).1 ++ [id]) := veil (by
    intro hd
    rw [unveil HN] at hd ⊢
    unfold laid
    rw [if_neg (by rw [hd]; simp)])
  clear p1 p2 p3 p4
  go_wp2_with fail
  go_loopw [10, 11, 12] (fun v d i wr => ∃ k : Nat, k ≤ n ∧ i = .int .i64 k ∧ d = .bool (layK l id k).2 ∧ wr.ownsRow w2.heap.size 3 1 v (layK l id k).1.length ((layK l id k).1.map (Value.int .i64)) ∧ (layK l id k).1.length ≤ 2 * k ∧ Below w2.heap.size w2 wr)
    (fun _ _ i _ => n - (intOf i).toNat)
  case atStart => exact ⟨0, by omega, rfl, rfl, World.ownsRow_nil _ _ _ _, by simp [layK], Below.refl _ _⟩
  case round =>
    obtain ⟨k, hk, rfl, rfl, hown, hlen, B⟩ := hrel
    have hsz : w2.heap.size ≤ wr.heap.size := B.size
    by_cases hlt : k < n
    · obtain ⟨b', off, rfl⟩ := r2.form (by omega)
      have hx := (r2.below B).at k hlt
      have HX : Hid (∀ w', Below w2.heap.size w2 w' → w'.cell? ⟨b', off + k, none⟩ = some (.int .i64 (l.getD k 0))) := veil (fun w' hb => (r2.below hb).at k hlt)
      have LY := veil (@layK_yes l id k)
      have LN := veil (@layK_no l id k)
      generalize l.getD k 0 = x at hx HX LY LN
      obtain ⟨o, d, hod⟩ : ∃ o d, layK l id k = (o, d) := ⟨_, _, rfl⟩
      rw [hod] at hown hlen LY LN ⊢
      clear hod
      simp only at hown hlen
      by_cases hc : d = false ∧ id < x
      · obtain ⟨rfl, hidx⟩ := hc
        have e1 : Hid (layK l id (k + 1) = (o ++ [id] ++ [x], true)) := veil (unveil LY rfl hidx)
        clear LY LN
        go_wp2_with (first
          | (at_builtin; refine wpList_append_own _ rfl _ _ 138 rfl w2.heap.size 3 i0 (.int .i64 0) 1 8 Tryz.underlying138 hi hz0 hz1 hz2 rfl (by decide) _ _ _ rfl (hown.alloc _) ⟨wr.heap.size, 0, none⟩ 1 1 [.int .i64 id] rfl rfl (cell_one_new _ _ _) (ints_oneCell .i64 [id]) (by unfold maxLen; omega) (by omega) (by simp; omega) ?_; intro v4 w4 hown4 hgrow4 _; have B4 : Below w2.heap.size w2 w4 := (B.alloc hsz _).grown hgrow4 (by simp; omega) (by intro t ht; exact (hown.lt t ht).1); have hsz4 := B4.size; have hx4 := unveil HX w4 B4; clear hown hgrow4 hx)
          | (at_builtin; refine wpList_append_own _ rfl _ _ 138 rfl w2.heap.size 3 i0 (.int .i64 0) 1 8 Tryz.underlying138 hi hz0 hz1 hz2 rfl (by decide) _ _ _ rfl (hown4.alloc _) ⟨w4.heap.size, 0, none⟩ 1 1 [.int .i64 x] rfl rfl (cell_one_new _ _ _) (ints_oneCell .i64 [x]) (by unfold maxLen; omega) (by omega) (by simp; omega) ?_; intro v6 w6 hown6 hgrow6 _; have B6 : Below w2.heap.size w2 w6 := (B4.alloc hsz4 _).grown hgrow6 (by simp; omega) (by intro t ht; exact (hown4.lt t ht).1); clear hown4 hgrow6 hx4))
        go_roundw
        case rel => exact ⟨k + 1, by omega, by go_num, by rw [unveil e1], by rw [unveil e1]; simpa using hown6, by rw [unveil e1]; simp; omega, B6⟩
        case measure => simp [intOf]; omega
      · have e1 : Hid (layK l id (k + 1) = (o ++ [x], d)) := veil (unveil LN hc)
        clear LY LN
        have hcd : ¬ (d = false) ∨ ¬ id < x := by
          by_cases hd : d = false
          · exact .inr fun h => hc ⟨hd, h⟩
          · exact .inl hd
        clear hc
        rcases hcd with hd | hidx
        · obtain rfl : d = true := by simpa using hd
          clear hd
          go_wp2_with (at_builtin; refine wpList_append_own _ rfl _ _ 138 rfl w2.heap.size 3 i0 (.int .i64 0) 1 8 Tryz.underlying138 hi hz0 hz1 hz2 rfl (by decide) _ _ _ rfl (hown.alloc _) ⟨wr.heap.size, 0, none⟩ 1 1 [.int .i64 x] rfl rfl (cell_one_new _ _ _) (ints_oneCell .i64 [x]) (by unfold maxLen; omega) (by omega) (by simp; omega) ?_; intro v4 w4 hown4 hgrow4 _; have B4 : Below w2.heap.size w2 w4 := (B.alloc hsz _).grown hgrow4 (by simp; omega) (by intro t ht; exact (hown.lt t ht).1); clear hown hgrow4 hx)
          go_roundw
          case rel => exact ⟨k + 1, by omega, by go_num, by rw [unveil e1], by rw [unveil e1]; simpa using hown4, by rw [unveil e1]; simp; omega, B4⟩
          case measure => simp [intOf]; omega
        · cases d
          · go_wp2_with (at_builtin; refine wpList_append_own _ rfl _ _ 138 rfl w2.heap.size 3 i0 (.int .i64 0) 1 8 Tryz.underlying138 hi hz0 hz1 hz2 rfl (by decide) _ _ _ rfl (hown.alloc _) ⟨wr.heap.size, 0, none⟩ 1 1 [.int .i64 x] rfl rfl (cell_one_new _ _ _) (ints_oneCell .i64 [x]) (by unfold maxLen; omega) (by omega) (by simp; omega) ?_; intro v4 w4 hown4 hgrow4 _; have B4 : Below w2.heap.size w2 w4 := (B.alloc hsz _).grown hgrow4 (by simp; omega) (by intro t ht; exact (hown.lt t ht).1); clear hown hgrow4 hx)
            go_roundw
            case rel => exact ⟨k + 1, by omega, by go_num, by rw [unveil e1], by rw [unveil e1]; simpa using hown4, by rw [unveil e1]; simp; omega, B4⟩
            case measure => simp [intOf]; omega
          · go_wp2_with (at_builtin; refine wpList_append_own _ rfl _ _ 138 rfl w2.heap.size 3 i0 (.int .i64 0) 1 8 Tryz.underlying138 hi hz0 hz1 hz2 rfl (by decide) _ _ _ rfl (hown.alloc _) ⟨wr.heap.size, 0, none⟩ 1 1 [.int .i64 x] rfl rfl (cell_one_new _ _ _) (ints_oneCell .i64 [x]) (by unfold maxLen; omega) (by omega) (by simp; omega) ?_; intro v4 w4 hown4 hgrow4 _; have B4 : Below w2.heap.size w2 w4 := (B.alloc hsz _).grown hgrow4 (by simp; omega) (by intro t ht; exact (hown.lt t ht).1); clear hown hgrow4 hx)
            go_roundw
            case rel => exact ⟨k + 1, by omega, by go_num, by rw [unveil e1], by rw [unveil e1]; simpa using hown4, by rw [unveil e1]; simp; omega, B4⟩
            case measure => simp [intOf]; omega
    · obtain rfl : k = n := by omega
      generalize laid l id = out at HF HL HD1 HD0
      obtain ⟨o, d, hod⟩ : ∃ o d, layK l id k = (o, d) := ⟨_, _, rfl⟩
      rw [hod] at hown hlen HD1 HD0 ⊢
      clear hod
      simp only at hown hlen HD1 HD0
      have HV2 := veil (fun w' (hb : Below w2.heap.size w2 w') => (unveil HV).below hb hR)
      cases d
      · have eo : out = o ++ [id] := unveil HD0 rfl
        go_wp2_with (first
          | (at_builtin; refine wpList_append_own _ rfl _ _ 138 rfl w2.heap.size 3 i0 (.int .i64 0) 1 8 Tryz.underlying138 hi hz0 hz1 hz2 rfl (by decide) _ _ _ rfl (hown.alloc _) ⟨wr.heap.size, 0, none⟩ 1 1 [.int .i64 id] rfl rfl (cell_one_new _ _ _) (ints_oneCell .i64 [id]) (by unfold maxLen; omega) (by omega) (by simp; omega) ?_; intro v4 w4 hown4 hgrow4 _; have B4 : Below w2.heap.size w2 w4 := (B.alloc hsz _).grown hgrow4 (by simp; omega) (by intro t ht; exact (hown.lt t ht).1); clear hown hgrow4))
        obtain ⟨a4, cap4, rfl, r4, _, _, _, _⟩ := RowK.ofOwns (l := out) (by rw [eo]; simpa using hown4) (unveil HL)
        refine (unveil HF a4 _ cap4 _ r4).mono ?_
        rintro e w6 ⟨rfl, b6⟩
        have vb := (unveil HV2 _ B4).next b6
        have HB6 := veil (Below.next (Below.next (unveil HB2) B4) b6)
        obtain ⟨d0, d1, d2, d3, d4, d5, d6, d7, d8⟩ := vb.cells
        have df := vb.free
        have VB := veil vb
        clear vb b6 r4
        go_wp2
        exact bodyPost_ret (ret_IdTaken ((unveil VB).store (takeT t id) (takeS t s id)) rfl rfl rfl) rfl ⟨rfl, winStore_below (unveil HB6) _ (by omega) _ _⟩
      · have eo : out = o := unveil HD1 rfl
        obtain ⟨a4, cap4, rfl, r4, _, _, _, _⟩ := RowK.ofOwns (l := out) (by rw [eo]; exact hown) (unveil HL)
        clear hown
        go_wp2_with fail
        refine (unveil HF a4 _ cap4 _ r4).mono ?_
        rintro e w6 ⟨rfl, b6⟩
        have vb := (unveil HV2 _ B).next b6
        have HB6 := veil (Below.next (Below.next (unveil HB2) B) b6)
        obtain ⟨d0, d1, d2, d3, d4, d5, d6, d7, d8⟩ := vb.cells
        have df := vb.free
        have VB := veil vb
        clear vb b6 r4
        go_wp2
        exact bodyPost_ret (ret_IdTaken ((unveil VB).store (takeT t id) (takeS t s id)) rfl rfl rfl) rfl ⟨rfl, winStore_below (unveil HB6) _ (by omega) _ _⟩
end Go.Proofs.YtcdopnkabbfooaaGreat

namespace Go.Proofs.YtcdopnkabbfooaaGreat
open Go.RowKit

theorem qBlock.win {w : World} {B : Nat} {ep nx gv : Int} {r l : Value} {ws : Nat → Value} {wt : Nat → Int} {wz : Nat → Nat → Bool} (h : qBlock w B ep nx gv r l ws) (hW : Wins ws wt wz) (P : Nat) (hP : P < 4) :
    (w.cell? ⟨B, 5 + P * 9, none⟩ = some (.int .i64 (wt P)) ∧ w.cell? ⟨B, 5 + P * 9 + 1, none⟩ = some (.bool (wz P 0)) ∧ w.cell? ⟨B, 5 + P * 9 + 2, none⟩ = some (.bool (wz P 1)) ∧ w.cell? ⟨B, 5 + P * 9 + 3, none⟩ = some (.bool (wz P 2)) ∧ w.cell? ⟨B, 5 + P * 9 + 4, none⟩ = some (.bool (wz P 3))) ∧
    (w.cell? ⟨B, 5 + P * 9 + 5, none⟩ = some (.bool (wz P 4)) ∧ w.cell? ⟨B, 5 + P * 9 + 6, none⟩ = some (.bool (wz P 5)) ∧ w.cell? ⟨B, 5 + P * 9 + 7, none⟩ = some (.bool (wz P 6)) ∧ w.cell? ⟨B, 5 + P * 9 + 8, none⟩ = some (.bool (wz P 7))) := by
  have kc : ∀ j, j < 9 → w.cell? ⟨B, 5 + P * 9 + j, none⟩ = some (ws (9 * P + j)) := fun j hj => by
    rw [h.at, show 5 + P * 9 + j = 5 + (9 * P + j) by omega, qCells_ws _ _ _ _ _ _ _ (by omega)]
  obtain ⟨e0, e1⟩ := hW P hP
  refine ⟨⟨?_, ?_, ?_, ?_, ?_⟩, ?_, ?_, ?_, ?_⟩
  · rw [← e0]; exact kc 0 (by omega)
  · rw [← e1 0 (by omega)]; exact kc 1 (by omega)
  · rw [← e1 1 (by omega)]; exact kc 2 (by omega)
  · rw [← e1 2 (by omega)]; exact kc 3 (by omega)
  · rw [← e1 3 (by omega)]; exact kc 4 (by omega)
  · rw [← e1 4 (by omega)]; exact kc 5 (by omega)
  · rw [← e1 5 (by omega)]; exact kc 6 (by omega)
  · rw [← e1 6 (by omega)]; exact kc 7 (by omega)
  · rw [← e1 7 (by omega)]; exact kc 8 (by omega)
set_option maxRecDepth 20000 in
set_option maxHeartbeats 8000000 in
theorem queueDone_pub (s : St) (ra la : Option Addr) (rc lc : Nat) (ws : Nat → Value) (v : Ev) (w : World) (hR : RowK .i64 w ra (2 * s.rn) s.R) (hL : RowK .i64 w la (4 * s.ln) s.L) (hW : Wins ws s.wt s.wz) (h : s.Ok) (hv : Hid v.Ok) (HK : Hid (v.k = 1)) (P : Nat) (hP : P < 4) (HP : Hid (v.p = P)) (t' : Int) (s' : Nat → Bool) (fr : Bool) (rf : Int)
    (TK : ∀ w, Calls Tryz.prog 90 #[winVal (s.wt P) (s.wz P), .int .i64 v.i] w fun e w' => e = .returned (.tuple #[winVal t' s', .bool fr, .int .i64 rf]) ∧ Below w.heap.size w w')
    (HN : Hid (((¬ rf = 0) ∨ (rf = 0 ∧ fr = false)) → Step s v s ⟨rf, 0, 0, 0⟩ false))
    (HF : Hid ((rf = 0 ∧ fr = true) → (500 ≤ s.rn + s.ln ∨ s.nx = 1073741824) → Step s v s ⟨14, 0, 0, 0⟩ false)) (hfull : rf = 0 → fr = true → (500 ≤ s.rn + s.ln ∨ s.nx = 1073741824)) :
    Calls Tryz.prog 84 #[qVal s.ep s.nx s.gv (.slice ra s.rn rc) (.slice la s.ln lc) ws, evIn v] w fun e w' => QdR s v w e w' := by
  have HC : ∀ w, Calls Tryz.prog 66 #[evIn v] w fun e w' => e = .returned (.int .i64 0) ∧ Below w.heap.size w w' := fun w => by
    have := fault_any v.k v.p v.i v.b v.he v.hn w
    rwa [show eventFault v.k v.p v.i v.b v.he v.hn = 0 from unveil hv] at this
  have hsz := h.count.sz
  have hs : s.rn + s.ln ≤ 9223372036854775807 := by omega
  go_enter Tryz.func84, Tryz.ntmps84
  go_wp2_with (first
    | (refine q_box 2 _ rfl rfl rfl rfl ?_; intro W1 q1 b1)
    | (refine q_alloc 4 rfl rfl rfl ?_; intro W3 z3 b3; have DD := Dos.made q1 b1 z3 b3; have DQ := DD.q; have HDD := veil DD; clear DD z3 b3 q1 b1)
    | (refine q_loads _ rfl rfl rfl (by assumption) ?_)
    | (go_at_call 88; refine (queueFault_yes _ _ _ _ _ _ _ _ _ _ _ _ s.wt s.wz _ (hR.below (unveil HDD).bel) (hL.below (unveil HDD).bel) hW hs h).mono ?_; rintro e W4 ⟨rfl, b4⟩; have D4 := (unveil HDD).next b4; have ev4 := D4.e; have v0 : W4.cell? ⟨W1.heap.size, 0, none⟩ = some (.int .i64 v.k) := (by simp [World.cell?, ev4]); have v1 : W4.cell? ⟨W1.heap.size, 1, none⟩ = some (.int .i64 v.p) := (by simp [World.cell?, ev4]); have v2 : W4.cell? ⟨W1.heap.size, 2, none⟩ = some (.int .i64 v.i) := (by simp [World.cell?, ev4]); have v3 : W4.cell? ⟨W1.heap.size, 3, none⟩ = some (.int .i64 v.b) := (by simp [World.cell?, ev4]); have v4 : W4.cell? ⟨W1.heap.size, 4, none⟩ = some (.int .i64 v.he) := (by simp [World.cell?, ev4]); have v5 : W4.cell? ⟨W1.heap.size, 5, none⟩ = some (.int .i64 v.hn) := (by simp [World.cell?, ev4]); have HD4 := veil D4; clear D4 HDD DQ b4 ev4)
    | (go_at_call 66; refine (HC _).mono ?_; rintro e W5 ⟨rfl, b5⟩; have D5 := (unveil HD4).next b5; have DQ5 := D5.q; have HD5 := veil D5; clear D5 HD4 b5 v0 v1 v2 v3 v4 v5)
    | (go_at_call 89; refine (queueCopy_any _ _ _ _ _ _ _ _ _ s.R s.L ws s.wt s.wz _ (hR.below (unveil HD5).bel) (hL.below (unveil HD5).bel) hW (by omega) (by omega)).mono ?_; rintro e W6 ⟨v1, v2, rfl, o1, o2, b6⟩; obtain ⟨a1, c1, rfl⟩ := own_form o1; obtain ⟨a2, c2, rfl⟩ := own_form o2; have hA5 := (unveil HD5).a.lt; have HO1 := veil (own_lower o1 hA5); have HO2 := veil (own_lower o2 hA5); have HD6 := veil ((unveil HD5).next b6); clear DQ5 o1 o2 b6)
    | (refine q_alloc 9 rfl rfl rfl ?_; intro W7 z7 b7; have HB7 := veil b7; clear b7)
    | (refine q_store _ _ rfl rfl rfl rfl z7 hW ?_; intro W8 q8 t8; have HQ8 := veil (Qd.made (unveil HD6) (unveil HO1) (unveil HO2) (unveil HB7) q8 t8); clear t8 HD6 HO1 HO2 HB7 z7 hA5 HD5; obtain ⟨c0, c1', c2', c3, c4⟩ := (unveil HQ8).d.q.heads; have z8 := (unveil HQ8).d.z; have hups := (unveil HQ8).ups; have u0 : W8.cell? ⟨W1.heap.size, 0, none⟩ = some (.int .i64 (1 : Int)) := (by simp [World.cell?, (unveil HQ8).d.e, unveil HK]); have u1 : W8.cell? ⟨W1.heap.size, 1, none⟩ = some (.int .i64 (P : Int)) := (by simp [World.cell?, (unveil HQ8).d.e, unveil HP]); have u2 : W8.cell? ⟨W1.heap.size, 2, none⟩ = some (.int .i64 v.i) := (by simp [World.cell?, (unveil HQ8).d.e]); have u3 : W8.cell? ⟨W1.heap.size, 3, none⟩ = some (.int .i64 v.b) := (by simp [World.cell?, (unveil HQ8).d.e]); have u4 : W8.cell? ⟨W1.heap.size, 4, none⟩ = some (.int .i64 v.he) := (by simp [World.cell?, (unveil HQ8).d.e]); have u5 : W8.cell? ⟨W1.heap.size, 5, none⟩ = some (.int .i64 v.hn) := (by simp [World.cell?, (unveil HQ8).d.e]); obtain ⟨d0, d1, d2, d3, d4⟩ := q8.heads; have df := q8.free))
  obtain ⟨⟨m0, m1, m2, m3, m4⟩, m5, m6, m7, m8⟩ := (unveil HQ8).d.q.win hW P hP
  obtain ⟨g1, g2, g3, g4, g5⟩ := hups
  have hwl : w.heap.size < W8.heap.size := by omega
  have hwn : w.heap.size ≠ W8.heap.size := by omega
  have hwn' : W8.heap.size ≠ w.heap.size := by omega
  have hEl : W1.heap.size < W8.heap.size := by omega
  have hEn : W1.heap.size ≠ W8.heap.size := by omega
  have hEn' : W8.heap.size ≠ W1.heap.size := by omega
  have hPi : (P : Int) < 4 := by omega
  have HCc : Hid (∀ w3, Below W8.heap.size W8 w3 → ((w3.cell? ⟨W1.heap.size, 1, none⟩ = some (.int .i64 P) ∧ w3.cell? ⟨W1.heap.size, 2, none⟩ = some (.int .i64 v.i)) ∧ (w3.cell? ⟨w.heap.size, 5 + P * 9, none⟩ = some (.int .i64 (s.wt P)) ∧ w3.cell? ⟨w.heap.size, 5 + P * 9 + 1, none⟩ = some (.bool (s.wz P 0)) ∧ w3.cell? ⟨w.heap.size, 5 + P * 9 + 2, none⟩ = some (.bool (s.wz P 1)) ∧ w3.cell? ⟨w.heap.size, 5 + P * 9 + 3, none⟩ = some (.bool (s.wz P 2)) ∧ w3.cell? ⟨w.heap.size, 5 + P * 9 + 4, none⟩ = some (.bool (s.wz P 3))) ∧ (w3.cell? ⟨w.heap.size, 5 + P * 9 + 5, none⟩ = some (.bool (s.wz P 4)) ∧ w3.cell? ⟨w.heap.size, 5 + P * 9 + 6, none⟩ = some (.bool (s.wz P 5)) ∧ w3.cell? ⟨w.heap.size, 5 + P * 9 + 7, none⟩ = some (.bool (s.wz P 6)) ∧ w3.cell? ⟨w.heap.size, 5 + P * 9 + 8, none⟩ = some (.bool (s.wz P 7))))) :=
    veil fun w3 hb => ⟨⟨(hb.cell (p := ⟨W1.heap.size, 1, none⟩) hEl).trans u1, (hb.cell (p := ⟨W1.heap.size, 2, none⟩) hEl).trans u2⟩, ((unveil HQ8).d.q.next hb).win hW P hP⟩
  have RZ : Hid (winBlock (W8.alloc (.cells #[.int .i64 0, .bool false, .bool false, .bool false, .bool false, .bool false, .bool false, .bool false, .bool false] 89)).drew W8.heap.size 0 noneS) := veil (winBlock.new W8 0 noneS)
  clear q8 z8 d0 d1 d2 d3 d4 df c0 c1' c2' c3 c4 u3 u4 u5
  go_cut [11, 12, 13] (fun p6 p7 p8 wx => ∃ X, p6 = .pointer (some ⟨X, 0, none⟩) ∧ p7 = .bool fr ∧ p8 = .int .i64 rf ∧ Won W8 wx X t' s')
  case first =>
    first | go_region_with
      (first | (go_at_call 90; refine (TK _).mono ?_; rintro e w3 ⟨rfl, bb⟩; first | (have b3 : Below W8.heap.size W8 w3 := (by with_reducible exact Below.next (below_drew _) bb); obtain ⟨⟨q0, q1⟩, ⟨q2, q3, q4, q5, q6⟩, q7, q8, q9, q10⟩ := unveil HCc w3 b3; have hb3 := b3.size; have hw3 : w.heap.size ≠ w3.heap.size := (by omega); have hE3 : W1.heap.size ≠ w3.heap.size := (by omega); have hE3l : W1.heap.size < w3.heap.size := (by omega); have hw3l : w.heap.size < w3.heap.size := (by omega); have HB3 := veil b3; clear bb b3 hb3) | (have b3 : Below W8.heap.size W8 w3 := (by first | with_reducible exact Below.next (below_drew1 _ _) bb | with_reducible exact Below.next (below_drew2 _ _) bb | exact Below.next (below_drew1 _ _) bb); have rz : winBlock w3 W8.heap.size 0 noneS := (unveil RZ).next bb; have rzf := rz.free; obtain ⟨y0, y1, y2, y3, y4, y5, y6, y7, y8⟩ := rz.cells; obtain ⟨⟨q0, q1⟩, ⟨q2, q3, q4, q5, q6⟩, q7, q8, q9, q10⟩ := unveil HCc w3 b3; have HB3 := veil b3; have HRZ := veil rz; clear bb b3 rz))) | fail
    all_goals (try go_wp2_with fail)
    all_goals go_meet
    all_goals refine ⟨_, rfl, rfl, rfl, ?_⟩
    all_goals first | with_reducible exact Won.old (unveil HRZ) (unveil HB3) | with_reducible exact Won.new (unveil HB3)
  case rest =>
    obtain ⟨XW, rfl, rfl, rfl, PW⟩ := hcut
    obtain ⟨WC, hWC⟩ : ∃ WC, WC = wc := ⟨_, rfl⟩
    subst hWC
    have HQC := veil ((unveil HQ8).next PW.bel)
    have HPW := veil PW
    clear PW HQ8 HCc RZ m0 m1 m2 m3 m4 m5 m6 m7 m8 u0 u1 u2
    have qc := (unveil HQC).q
    have zc := (unveil HQC).d.z
    obtain ⟨e0, e1, e2, e3, e4⟩ := (unveil HQC).d.q.heads
    by_cases hr : rf = 0
    case neg =>
      go_wp2_with (first | (refine q_loads _ rfl rfl rfl qc ?_) | (refine q_store _ _ rfl rfl rfl rfl zc hW ?_; intro W9 q9 t9; have a9 := (unveil HQC).d.a.turned t9 (by have := (unveil HQC).ups; omega); obtain ⟨x0, x1, x2, x3⟩ := a9.cells; have xf := a9.free; have HQ9 := veil q9; have HT9 := veil t9; clear q9 t9 a9))
      obtain ⟨fa, fT, fq, fb⟩ := (unveil HQC).out (unveil HT9) hW hR.wf hL.wf rf 0 0 0
      exact bodyPost_ret (ret_QueueDone (fT.queue (unveil HQ9) (by have := (unveil HQC).ups; omega)) fa rfl rfl rfl rfl) rfl (QdR.of (s' := s) (unveil HN (Or.inl hr)) fq fb)
    case pos =>
    subst hr
    cases fr
    case false =>
      go_wp2_with (first | (refine q_loads _ rfl rfl rfl qc ?_) | (refine q_store _ _ rfl rfl rfl rfl zc hW ?_; intro W9 q9 t9; have a9 := (unveil HQC).d.a.turned t9 (by have := (unveil HQC).ups; omega); obtain ⟨x0, x1, x2, x3⟩ := a9.cells; have xf := a9.free; have HQ9 := veil q9; have HT9 := veil t9; clear q9 t9 a9))
      obtain ⟨fa, fT, fq, fb⟩ := (unveil HQC).out (unveil HT9) hW hR.wf hL.wf 0 0 0 0
      exact bodyPost_ret (ret_QueueDone (fT.queue (unveil HQ9) (by have := (unveil HQC).ups; omega)) fa rfl rfl rfl rfl) rfl (QdR.of (s' := s) (unveil HN (by simp)) fq fb)
    case true =>
    have hfl := hfull rfl rfl
    have HST := veil (unveil HF (by simp) hfl)
    clear hfull
    by_cases hf : 500 ≤ s.rn + s.ln
    case pos =>
      have hfb : ((s.rn : Int) + (s.ln : Int) == 500) = true := by simp; omega
      clear hfl hf
      go_wp2_with (first | (refine q_loads _ rfl rfl rfl qc ?_) | (refine q_store _ _ rfl rfl rfl rfl zc hW ?_; intro W9 q9 t9; have a9 := (unveil HQC).d.a.turned t9 (by have := (unveil HQC).ups; omega); obtain ⟨x0, x1, x2, x3⟩ := a9.cells; have xf := a9.free; have HQ9 := veil q9; have HT9 := veil t9; clear q9 t9 a9))
      obtain ⟨fa, fT, fq, fb⟩ := (unveil HQC).out (unveil HT9) hW hR.wf hL.wf 14 0 0 0
      exact bodyPost_ret (ret_QueueDone (fT.queue (unveil HQ9) (by have := (unveil HQC).ups; omega)) fa rfl rfl rfl rfl) rfl (QdR.of (s' := s) (unveil HST) fq fb)
    case neg =>
      have hfb : ((s.rn : Int) + (s.ln : Int) == 500) = false := by simp; omega
      have hnx : s.nx = 1073741824 := by omega
      rw [hnx] at e1
      clear hfl hf hnx
      go_wp2_with (first | (refine q_loads _ rfl rfl rfl qc ?_) | (refine q_store _ _ rfl rfl rfl rfl zc hW ?_; intro W9 q9 t9; have a9 := (unveil HQC).d.a.turned t9 (by have := (unveil HQC).ups; omega); obtain ⟨x0, x1, x2, x3⟩ := a9.cells; have xf := a9.free; have HQ9 := veil q9; have HT9 := veil t9; clear q9 t9 a9))
      obtain ⟨fa, fT, fq, fb⟩ := (unveil HQC).out (unveil HT9) hW hR.wf hL.wf 14 0 0 0
      exact bodyPost_ret (ret_QueueDone (fT.queue (unveil HQ9) (by have := (unveil HQC).ups; omega)) fa rfl rfl rfl rfl) rfl (QdR.of (s' := s) (unveil HST) fq fb)
end Go.Proofs.YtcdopnkabbfooaaGreat
