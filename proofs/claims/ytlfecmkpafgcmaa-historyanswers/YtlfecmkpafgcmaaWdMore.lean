/- Texts put together: WdI, WdJ, WdK. -/
import Derived.Test.YtlfecmkpafgcmaaWdH
namespace Go.Proofs.Ytlfecmkpafgcmaa
open Go.RowKit

set_option maxRecDepth 20000 in
set_option maxHeartbeats 1000000 in
theorem idSeen_state (t id : Int) (s : Nat → Bool) (w : World) (h : ¬ WinOk t s) :
    Calls Try.prog 72 #[winVal t s, .int .i64 id] w fun e w' => e = .returned (.tuple #[.bool false, .int .i64 6]) ∧ Below w.heap.size w w' := by
  go_enter Try.func72, Try.ntmps72
  go_wp2_with (go_at_call 71; refine (windowFault_no t s _ h).mono ?_; rintro e w1 ⟨rfl, b1⟩)
  go_ret2
  exact ⟨rfl, below1t b1⟩

set_option maxRecDepth 20000 in
set_option maxHeartbeats 1000000 in
theorem idSeen_range (t id : Int) (s : Nat → Bool) (w : World) (h : WinOk t s) (hr : ¬ (0 ≤ id ∧ id ≤ 1073741824)) :
    Calls Try.prog 72 #[winVal t s, .int .i64 id] w fun e w' => e = .returned (.tuple #[.bool false, .int .i64 2]) ∧ Below w.heap.size w w' := by
  go_enter Try.func72, Try.ntmps72
  go_wp2_with (first | (go_at_call 71; refine (windowFault_yes t s _ h).mono ?_; rintro e w1 ⟨rfl, b1⟩) | (go_at_call 70; refine (winIn_no id 0 1073741824 _ hr).mono ?_; rintro e w2 ⟨rfl, rfl⟩))
  go_ret2
  exact ⟨rfl, below1t b1⟩

set_option maxRecDepth 20000 in
set_option maxHeartbeats 1000000 in
theorem idSeen_low (t id : Int) (s : Nat → Bool) (w : World) (h : WinOk t s) (h0 : 0 ≤ id) (h1 : id ≤ 1073741824) (h2 : id < t - 8) :
    Calls Try.prog 72 #[winVal t s, .int .i64 id] w fun e w' => e = .returned (.tuple #[.bool false, .int .i64 9]) ∧ Below w.heap.size w w' := by
  have hl := h.low
  have hh := h.high
  have h3 : id + 8 < t := by omega
  go_enter Try.func72, Try.ntmps72
  go_wp2_with fail
  obtain ⟨W, hW, wb0, B0, S0⟩ := one_box w t s
  rw [← hW]
  clear hW
  refine (windowFault_yes t s _ h).mono ?_
  rintro e w1 ⟨rfl, b1⟩
  have c0 := (wb0.next b1).cell0
  have HB := veil (Below.next B0 b1)
  clear wb0 B0 S0 b1 h
  go_wp2_with (go_at_call 70; refine (winIn_yes id 0 1073741824 _ h0 h1).mono ?_; rintro e w2 ⟨rfl, rfl⟩)
  go_ret2
  exact ⟨rfl, unveil HB⟩

/-- the id is none of the first k. -/
def NoneOf (l : List Int) (id : Int) (k : Nat) : Prop := ∀ j, j < k → ¬ l.getD j 0 = id

set_option maxRecDepth 20000 in
set_option maxHeartbeats 2000000 in
theorem idSeen_yes (t id : Int) (s : Nat → Bool) (w : World) (h : WinOk t s) (h0 : 0 ≤ id) (h1 : id ≤ 1073741824) (h2 : t - 8 ≤ id) :
    Calls Try.prog 72 #[winVal t s, .int .i64 id] w fun e w' => e = .returned (.tuple #[.bool (inWin t s id), .int .i64 0]) ∧ Below w.heap.size w w' := by
  have hl := h.low
  have hh := h.high
  have h3 : ¬ id + 8 < t := by omega
  have hm : Hid (id ∈ idsTo t s 8 ↔ inWin t s id = true) := veil mem_ids
  generalize inWin t s id = b at hm ⊢
  go_enter Try.func72, Try.ntmps72
  go_wp2_with fail
  obtain ⟨W, hW, wb0, B0, S0⟩ := one_box w t s
  rw [← hW]
  clear hW
  refine (windowFault_yes t s _ h).mono ?_
  rintro e w1 ⟨rfl, b1⟩
  have wb := wb0.next b1
  have HB := veil (Below.next B0 b1)
  obtain ⟨c0, c1, c2, c3, c4, c5, c6, c7, c8⟩ := wb.cells
  clear wb wb0 B0 S0 b1 h
  go_wp2_with (go_at_call 70; refine (winIn_yes id 0 1073741824 _ h0 h1).mono ?_; rintro e w2 ⟨rfl, rfl⟩)
  refine (idsOf_any t s _ hl hh).mono ?_
  rintro e w2 ⟨a, cap, rfl, r2, k2, n2, m2, b2⟩
  have HB2 := veil (Below.next (unveil HB) b2)
  have hln := length_idsTo t s 8
  clear HB b2 c0 c1 c2 c3 c4 c5 c6 c7 c8
  generalize idsTo t s 8 = l at r2 k2 hm hln ⊢
  obtain ⟨n, hn⟩ : ∃ n, n = l.length := ⟨_, rfl⟩
  rw [← hn] at r2 k2 hln ⊢
  have HN := veil hn
  clear hn
  go_wp2_with fail
  go_loopw [8] (fun i wr => ∃ k : Nat, k ≤ n ∧ i = .int .i64 k ∧ NoneOf l id k ∧ wr = w2) (fun i _ => n - (intOf i).toNat)
  case atStart => exact ⟨0, by omega, rfl, fun j hj => by omega, rfl⟩
  case round =>
    obtain ⟨k, hk, rfl, hno, rfl⟩ := hrel
    have HO := hno
    clear hno
    by_cases hlt : k < n
    · obtain ⟨b', off, rfl⟩ := r2.form (by omega)
      have hx := r2.at k hlt
      by_cases hid : l.getD k 0 = id
      · have hb : b = true := (unveil hm).1 (by rw [← hid]; exact mem_getD (by have := unveil HN; omega))
        rw [hid] at hx
        have e1 : (id == id) = true := by simp
        clear hid
        subst hb
        go_wp2
        go_ret2
        exact ⟨rfl, unveil HB2⟩
      · have e1 : (l.getD k 0 == id) = false := by simpa using hid
        have HO' : NoneOf l id (k + 1) := (by
          intro j hj
          rcases Nat.lt_or_ge j k with h | h
          · exact HO j h
          · obtain rfl : j = k := by omega
            exact hid)
        clear hid
        generalize l.getD k 0 = x at hx e1
        go_wp2
        go_roundw
        case rel => exact ⟨k + 1, by omega, by go_num, HO', by first | rfl | trivial⟩
        case measure => simp [intOf]; omega
    · obtain rfl : k = n := by omega
      have hb : b = false := by
        cases b
        · rfl
        · obtain ⟨j, hj, he⟩ := List.mem_iff_getElem.1 ((unveil hm).2 rfl)
          exact absurd (by rw [List.getD_eq_getElem?_getD, List.getElem?_eq_getElem hj]; simpa using he) (HO j (by have := unveil HN; omega))
      subst hb
      go_wp2
      go_ret2
      exact ⟨rfl, unveil HB2⟩
end Go.Proofs.Ytlfecmkpafgcmaa

namespace Go.Proofs.Ytlfecmkpafgcmaa
open Go.RowKit

/-- what stands behind the first k ids, the new one laid ahead of the first greater one; and whether it was laid. -/
def layK (l : List Int) (id : Int) : Nat → List Int × Bool
  | 0 => ([], false)
  | k + 1 => if (layK l id k).2 = false ∧ id < l.getD k 0 then ((layK l id k).1 ++ [id] ++ [l.getD k 0], true) else ((layK l id k).1 ++ [l.getD k 0], (layK l id k).2)
/-- all ids with the new one. -/
def laid (l : List Int) (id : Int) : List Int := if (layK l id l.length).2 then (layK l id l.length).1 else (layK l id l.length).1 ++ [id]

structure LayInv (l : List Int) (id : Int) (k : Nat) : Prop where
  sorted : (layK l id k).1.Pairwise (· < ·)
  mem : ∀ x, x ∈ (layK l id k).1 ↔ (x ∈ l.take k ∨ (x = id ∧ (layK l id k).2 = true))
  done : (layK l id k).2 = true → ∀ j, k ≤ j → j < l.length → id < l.getD j 0
  open_ : (layK l id k).2 = false → ∀ x ∈ l.take k, x < id
  len : (layK l id k).1.length = if (layK l id k).2 then k + 1 else k

theorem getD_rising {l : List Int} (hp : l.Pairwise (· < ·)) {i j : Nat} (hij : i < j) (hj : j < l.length) : l.getD i 0 < l.getD j 0 := by
  rw [List.getD_eq_getElem?_getD, List.getD_eq_getElem?_getD, List.getElem?_eq_getElem hj, List.getElem?_eq_getElem (show i < l.length by omega)]
  exact List.pairwise_iff_getElem.1 hp i j (by omega) hj hij
theorem take_less {l : List Int} (hp : l.Pairwise (· < ·)) {k : Nat} (hk : k < l.length) {x : Int} (hx : x ∈ l.take k) : x < l.getD k 0 := by
  obtain ⟨i, hi, rfl⟩ := List.mem_iff_getElem.1 hx
  simp only [List.length_take] at hi
  have := getD_rising hp (show i < k by omega) hk
  rw [List.getD_eq_getElem?_getD, List.getElem?_eq_getElem (show i < l.length by omega)] at this
  simpa using this
theorem take_more (l : List Int) (k : Nat) (hk : k < l.length) : l.take (k + 1) = l.take k ++ [l.getD k 0] := by
  rw [List.take_succ_eq_append_getElem hk]
  simp [hk]

theorem lay_inv {l : List Int} {id : Int} (hp : l.Pairwise (· < ·)) (hid : id ∉ l) : ∀ k, k ≤ l.length → LayInv l id k
  | 0, _ => ⟨by simp [layK], by simp [layK], by simp [layK], by simp [layK], by simp [layK]⟩
  | k + 1, hk => by
    have ih := lay_inv hp hid k (by omega)
    have hx : l.getD k 0 ≠ id := fun h => hid (by rw [← h]; exact mem_getD (by omega))
    have ht := take_more l k (by omega)
    have hl := fun x (hx : x ∈ l.take k) => take_less hp (show k < l.length by omega) hx
    have hr := fun j (h1 : k < j) (h2 : j < l.length) => getD_rising hp h1 h2
    obtain ⟨h1, h2, h3, h4, h5⟩ := ih
    by_cases hc : (layK l id k).2 = false ∧ id < l.getD k 0
    · have e : layK l id (k + 1) = ((layK l id k).1 ++ [id] ++ [l.getD k 0], true) := by rw [layK, if_pos hc]
      have hm : ∀ x ∈ (layK l id k).1, x ∈ l.take k := fun x hx => by
        rcases (h2 x).1 hx with h | h
        · exact h
        · rw [hc.1] at h; exact absurd h.2 (by simp)
      refine ⟨?_, ?_, ?_, ?_, ?_⟩
      · rw [e]
        simp only [List.append_assoc, List.pairwise_append, List.pairwise_cons, List.mem_append, List.mem_singleton]
        refine ⟨h1, ⟨⟨by simp, by simp⟩, ⟨by simp, by simp⟩, ?_⟩, ?_⟩
        · intro a ha b hb
          rw [ha, hb]; exact hc.2
        · intro a ha b hb
          rcases hb with rfl | rfl
          · exact h4 hc.1 a (hm a ha)
          · exact hl a (hm a ha)
      · intro x
        rw [e, ht]
        simp only [List.mem_append, List.mem_singleton, and_true]
        constructor
        · rintro ((h | h) | h)
          · exact .inl (.inl (hm x h))
          · exact .inr h
          · exact .inl (.inr h)
        · rintro ((h | h) | h)
          · exact .inl (.inl ((h2 x).2 (.inl h)))
          · exact .inr h
          · exact .inl (.inr h)
      · intro _ j hj hj2
        have := hr j (by omega) hj2
        omega
      · rw [e]; intro h; cases h
      · rw [e]
        rw [hc.1] at h5
        simp at h5
        simp [h5]
    · have e : layK l id (k + 1) = ((layK l id k).1 ++ [l.getD k 0], (layK l id k).2) := by rw [layK, if_neg hc]
      refine ⟨?_, ?_, ?_, ?_, ?_⟩
      · rw [e]
        simp only [List.pairwise_append, List.pairwise_cons, List.mem_singleton]
        refine ⟨h1, ⟨by simp, by simp⟩, ?_⟩
        intro a ha b hb
        rw [hb]
        rcases (h2 a).1 ha with h | ⟨rfl, h⟩
        · exact hl a h
        · exact h3 h k (Nat.le_refl _) (by omega)
      · intro x
        rw [e, ht]
        simp only [List.mem_append, List.mem_singleton]
        rw [h2 x]
        constructor
        · rintro ((h | h) | h)
          · exact .inl (.inl h)
          · exact .inr h
          · exact .inl (.inr h)
        · rintro ((h | h) | h)
          · exact .inl (.inl h)
          · exact .inr h
          · exact .inl (.inr h)
      · rw [e]
        exact fun h j hj hj2 => h3 h j (by omega) hj2
      · rw [e, ht]
        intro h x hx
        rcases List.mem_append.1 hx with hx | hx
        · exact h4 h x hx
        · rw [List.mem_singleton] at hx
          have : ¬ id < l.getD k 0 := fun hh => hc ⟨h, hh⟩
          omega
      · rw [e]
        simp only [List.length_append, List.length_singleton]
        rw [h5]
        split <;> omega

theorem laid_mem {l : List Int} {id : Int} (hp : l.Pairwise (· < ·)) (hid : id ∉ l) (x : Int) : x ∈ laid l id ↔ (x = id ∨ x ∈ l) := by
  obtain ⟨_, h2, _, _, _⟩ := lay_inv hp hid l.length (Nat.le_refl _)
  rw [List.take_of_length_le (Nat.le_refl _)] at h2
  unfold laid
  by_cases hd : (layK l id l.length).2 = true
  · rw [if_pos hd, h2]
    simp only [hd, and_true]
    exact Or.comm
  · rw [if_neg hd, List.mem_append, h2, List.mem_singleton]
    simp only [hd]
    constructor
    · rintro ((h | h) | h)
      · exact .inr h
      · exact absurd h.2 (by simp)
      · exact .inl h
    · rintro (h | h)
      · exact .inr h
      · exact .inl (.inl h)
theorem laid_sorted {l : List Int} {id : Int} (hp : l.Pairwise (· < ·)) (hid : id ∉ l) : (laid l id).Pairwise (· < ·) := by
  obtain ⟨h1, h2, _, h4, _⟩ := lay_inv hp hid l.length (Nat.le_refl _)
  rw [List.take_of_length_le (Nat.le_refl _)] at h2 h4
  unfold laid
  by_cases hd : (layK l id l.length).2 = true
  · rw [if_pos hd]
    exact h1
  · rw [if_neg hd, List.pairwise_append]
    have hd' : (layK l id l.length).2 = false := by simpa using hd
    refine ⟨h1, by simp, fun a ha b hb => ?_⟩
    rw [List.mem_singleton] at hb
    rw [hb]
    rcases (h2 a).1 ha with h | h
    · exact h4 hd' a h
    · exact absurd h.2 hd
theorem laid_length (l : List Int) (id : Int) : (laid l id).length ≤ 2 * l.length + 1 := by
  have : ∀ k, (layK l id k).1.length ≤ 2 * k := by
    intro k
    induction k with
    | zero => simp [layK]
    | succ k ih =>
      rw [layK]
      split <;> simp <;> omega
  have := this l.length
  unfold laid
  split
  · omega
  · simp; omega

/-- the window of a window's ids with a new one is the window behind that id. -/
theorem laid_window {t id : Int} {s : Nat → Bool} (h : WinOk t s) (h0 : 0 ≤ id) (hn : inWin t s id = false) :
    topOf (laid (idsTo t s 8) id) = takeT t id ∧ (∀ i, i < 8 → seenOf (takeT t id) (laid (idsTo t s 8) id) i = takeS t s id i) ∧ (∀ x ∈ laid (idsTo t s 8) id, 0 ≤ x ∧ x < takeT t id) ∧ id ∈ laid (idsTo t s 8) id := by
  have hp := idsTo_sorted t s 8
  have hid : id ∉ idsTo t s 8 := by
    rw [mem_ids, hn]; simp
  have hg := takeT_gt t id
  have hm := laid_mem hp hid
  have hb : ∀ x ∈ laid (idsTo t s 8) id, 0 ≤ x ∧ x < takeT t id := by
    intro x hx
    rcases (hm x).1 hx with rfl | hx
    · omega
    · have := h.nonneg (mem_ids.1 hx); omega
  refine ⟨topOf_eq (laid_sorted hp hid) ?_ (fun x hx => (hb x hx).2), fun i _ => ?_, hb, (hm id).2 (.inl rfl)⟩
  · rw [hm]
    by_cases hc : t ≤ id
    · left
      unfold takeT
      rw [if_pos hc]
      omega
    · right
      unfold takeT
      rw [if_neg hc]
      have h7 : s 7 = true := by
        rcases h.last with h' | h'
        · omega
        · exact h'
      exact mem_idsTo.2 ⟨7, by omega, h7, by omega⟩
  · unfold seenOf takeS
    rw [Bool.eq_iff_iff]
    simp only [decide_eq_true_eq, Bool.or_eq_true]
    rw [hm, mem_ids]
end Go.Proofs.Ytlfecmkpafgcmaa

namespace Go.Proofs.Ytlfecmkpafgcmaa
open Go.RowKit

theorem ret_IdTaken {W : World} {R : Nat} {t e : Int} {s : Nat → Bool} {b : Bool} {tmps : Array Value} (h : winBlock W R t s) (t4 : tmps[4]? = some (.pointer (some ⟨R, 0, none⟩))) (t5 : tmps[5]? = some (.bool b)) (t6 : tmps[6]? = some (.int .i64 e)) :
    (results Try.f54 tmps).run Try.prog W = .ok (.tuple #[winVal t s, .bool b, .int .i64 e]) W := by
  obtain ⟨c0, c1, c2, c3, c4, c5, c6, c7, c8⟩ := h.cells
  simp [results, Try.results54, go_sem, c0, c1, c2, c3, c4, c5, c6, c7, c8, t4, t5, t6]

set_option maxHeartbeats 1000000 in
/-- an error of IdSeen. -/
theorem idTaken_err (t id e0 : Int) (s : Nat → Bool) (w : World) (he : ¬ e0 = 0) (h : ∀ w, Calls Try.prog 72 #[winVal t s, .int .i64 id] w fun e w' => e = .returned (.tuple #[.bool false, .int .i64 e0]) ∧ Below w.heap.size w w') :
    Calls Try.prog 54 #[winVal t s, .int .i64 id] w fun e w' => e = .returned (.tuple #[winVal 0 noneS, .bool false, .int .i64 e0]) ∧ Below w.heap.size w w' := by
  go_enter Try.func54, Try.ntmps54
  go_wp2_with fail
  obtain ⟨W, hW, wb0, wb1, B0, S0⟩ := two_wins w t s
  rw [← hW]
  clear hW
  refine (h _).mono ?_
  rintro e w1 ⟨rfl, b1⟩
  have wb := wb1.next b1
  have HW := veil wb
  have HB := veil (Below.next B0 b1)
  obtain ⟨d0, d1, d2, d3, d4, d5, d6, d7, d8⟩ := wb.cells
  have df := wb.free
  clear wb wb0 wb1 B0 S0 b1 h
  go_wp2
  exact bodyPost_ret (ret_IdTaken (unveil HW).none rfl rfl rfl) rfl ⟨rfl, winNone_below (unveil HB) _ (by omega)⟩

set_option maxRecDepth 20000 in
set_option maxHeartbeats 1000000 in
theorem idTaken_old (t id : Int) (s : Nat → Bool) (w : World) (h : WinOk t s) (h0 : 0 ≤ id) (h1 : id ≤ 1073741824) (h2 : inWin t s id = true) :
    Calls Try.prog 54 #[winVal t s, .int .i64 id] w fun e w' => e = .returned (.tuple #[winVal t s, .bool false, .int .i64 0]) ∧ Below w.heap.size w w' := by
  have h3 : t - 8 ≤ id := by
    obtain ⟨i, _, _, rfl⟩ := inWin_iff.1 h2
    omega
  go_enter Try.func54, Try.ntmps54
  go_wp2_with fail
  obtain ⟨W, hW, wb0, wb1, B0, S0⟩ := two_wins w t s
  rw [← hW]
  clear hW
  refine (idSeen_yes t id s _ h h0 h1 h3).mono ?_
  rw [h2]
  rintro e w1 ⟨rfl, b1⟩
  have wa := wb0.next b1
  have wb := wb1.next b1
  have HW := veil wb
  have HB := veil (Below.next B0 b1)
  obtain ⟨c0, c1, c2, c3, c4, c5, c6, c7, c8⟩ := wa.cells
  obtain ⟨d0, d1, d2, d3, d4, d5, d6, d7, d8⟩ := wb.cells
  have df := wb.free
  clear wa wb wb0 wb1 B0 S0 b1 h
  go_wp2
  exact bodyPost_ret (ret_IdTaken ((unveil HW).store t s) rfl rfl rfl) rfl ⟨rfl, winStore_below (unveil HB) _ (by omega) _ _⟩

theorem layK_yes {l : List Int} {id : Int} {k : Nat} (hd : (layK l id k).2 = false) (hx : id < l.getD k 0) : layK l id (k + 1) = ((layK l id k).1 ++ [id] ++ [l.getD k 0], true) := by rw [layK, if_pos ⟨hd, hx⟩]
theorem layK_no {l : List Int} {id : Int} {k : Nat} (h : ¬ ((layK l id k).2 = false ∧ id < l.getD k 0)) : layK l id (k + 1) = ((layK l id k).1 ++ [l.getD k 0], (layK l id k).2) := by rw [layK, if_neg h]

set_option maxRecDepth 20000 in
set_option maxHeartbeats 4000000 in
theorem idTaken_new (t id : Int) (s : Nat → Bool) (w : World) (h : WinOk t s) (h0 : 0 ≤ id) (h1 : id ≤ 1073741824) (h2 : t - 8 ≤ id) (h3 : inWin t s id = false) :
    Calls Try.prog 54 #[winVal t s, .int .i64 id] w fun e w' => e = .returned (.tuple #[winVal (takeT t id) (takeS t s id), .bool true, .int .i64 0]) ∧ Below w.heap.size w w' := by
  have hl := h.low
  have hh := h.high
  obtain ⟨i0, hi, hz0, hz1, hz2⟩ := info_parts Try.infoI
  obtain ⟨p1, p2, p3, p4⟩ := laid_window h h0 h3
  have hT := takeT_gt t id
  have hT2 : takeT t id ≤ 1073741825 := by unfold takeT; split <;> omega
  have hln := length_idsTo t s 8
  have hwl := ids_wf (s := s) hl hh 8 (Nat.le_refl _)
  go_enter Try.func54, Try.ntmps54
  go_wp2_with fail
  obtain ⟨W, hW, wb0, wb1, B0, S0⟩ := two_wins w t s
  rw [← hW]
  clear hW
  refine (idSeen_yes t id s _ h h0 h1 h2).mono ?_
  rw [h3]
  rintro e w1 ⟨rfl, b1⟩
  have wa := wb0.next b1
  have wb := wb1.next b1
  have HW := veil wb
  have HB := veil (Below.next B0 b1)
  obtain ⟨c0, c1, c2, c3, c4, c5, c6, c7, c8⟩ := wa.cells
  clear wa wb wb0 wb1 B0 S0 b1
  go_wp2_with fail
  refine (idsOf_any t s _ hl hh).mono ?_
  rintro e w2 ⟨a, cap, rfl, r2, k2, n2, m2, b2⟩
  have vb := (unveil HW).next b2
  have HV := veil vb
  have hR := vb.lt
  have HB2 := veil (Below.next (unveil HB) b2)
  clear c0 c1 c2 c3 c4 c5 c6 c7 c8 HW HB b2 vb h h3
  have hll := laid_length (idsTo t s 8) id
  generalize idsTo t s 8 = l at r2 k2 hln p1 p2 p3 p4 hwl hll ⊢
  obtain ⟨n, hn⟩ : ∃ n, n = l.length := ⟨_, rfl⟩
  rw [← hn] at r2 k2 hln hll ⊢
  have HN := veil hn
  clear hn
  have HF : Hid (∀ (a : Option Addr) (m cap : Nat) (w' : World), RowK .i64 w' a m (laid l id) → Calls Try.prog 74 #[.slice a m cap] w' fun e w'' => e = .returned (winVal (takeT t id) (takeS t s id)) ∧ Below w'.heap.size w' w'') := veil (by
    intro a m cap w' r
    have hm := r.len_eq
    have hpos : 0 < (laid l id).length := List.length_pos_iff.2 (by intro h0; rw [h0] at p4; cases p4)
    rw [← winVal_eq (rfl : takeT t id = takeT t id) p2]
    have := windowOf_any a m cap (laid l id) w' r (by omega) (by omega) (by intro x hx; have := p3 x hx; rw [p1]; omega)
    rw [p1] at this
    exact this)
  have HL : Hid (∀ u ∈ laid l id, (Lit.int .i64 u).wf = true) := veil (by
    intro u hu
    have := p3 u hu
    exact wf_i64 (by omega) (by omega))
  have HD1 : Hid ((layK l id n).2 = true → laid l id = (layK l id n).1) := veil (by
    intro hd
    rw [unveil HN] at hd ⊢
    unfold laid
    rw [if_pos hd])
  have HD0 : Hid ((layK l id n).2 = false → laid l id = (layK l id n).1 ++ [id]) := veil (by
    intro hd
    rw [unveil HN] at hd ⊢
    unfold laid
    rw [if_neg (by rw [hd]; simp)])
  clear p1 p2 p3 p4
  go_wp2_with fail
  go_loopw [10, 11, 12] (fun v d i wr => ∃ k : Nat, k ≤ n ∧ i = .int .i64 k ∧ d = .bool (layK l id k).2 ∧ wr.ownsRow w2.heap.size 3 1 v (layK l id k).1.length ((layK l id k).1.map (Value.int .i64)) ∧ (layK l id k).1.length ≤ 2 * k ∧ Below w2.heap.size w2 wr)
    (fun _ _ i _ => n - (intOf i).toNat)
  case atStart => exact ⟨0, by omega, rfl, rfl, World.ownsRow_nil _ _ _ _, by simp [layK], Below.refl _ _⟩
  case round =>
    obtain ⟨k, hk, rfl, rfl, hown, hlen, B⟩ := hrel
    have hsz : w2.heap.size ≤ wr.heap.size := B.size
    by_cases hlt : k < n
    · obtain ⟨b', off, rfl⟩ := r2.form (by omega)
      have hx := (r2.below B).at k hlt
      have HX : Hid (∀ w', Below w2.heap.size w2 w' → w'.cell? ⟨b', off + k, none⟩ = some (.int .i64 (l.getD k 0))) := veil (fun w' hb => (r2.below hb).at k hlt)
      have LY := veil (@layK_yes l id k)
      have LN := veil (@layK_no l id k)
      generalize l.getD k 0 = x at hx HX LY LN
      obtain ⟨o, d, hod⟩ : ∃ o d, layK l id k = (o, d) := ⟨_, _, rfl⟩
      rw [hod] at hown hlen LY LN ⊢
      clear hod
      simp only at hown hlen
      by_cases hc : d = false ∧ id < x
      · obtain ⟨rfl, hidx⟩ := hc
        have e1 : Hid (layK l id (k + 1) = (o ++ [id] ++ [x], true)) := veil (unveil LY rfl hidx)
        clear LY LN
        go_wp2_with (first
          | (at_builtin; refine wpList_append_own _ rfl _ _ 113 rfl w2.heap.size 3 i0 (.int .i64 0) 1 8 Try.underlying113 hi hz0 hz1 hz2 rfl (by decide) _ _ _ rfl (hown.alloc _) ⟨wr.heap.size, 0, none⟩ 1 1 [.int .i64 id] rfl rfl (cell_one_new _ _ _) (ints_oneCell .i64 [id]) (by unfold maxLen; omega) (by omega) (by simp; omega) ?_; intro v4 w4 hown4 hgrow4 _; have B4 : Below w2.heap.size w2 w4 := (B.alloc hsz _).grown hgrow4 (by simp; omega) (by intro t ht; exact (hown.lt t ht).1); have hsz4 := B4.size; have hx4 := unveil HX w4 B4; clear hown hgrow4 hx)
          | (at_builtin; refine wpList_append_own _ rfl _ _ 113 rfl w2.heap.size 3 i0 (.int .i64 0) 1 8 Try.underlying113 hi hz0 hz1 hz2 rfl (by decide) _ _ _ rfl (hown4.alloc _) ⟨w4.heap.size, 0, none⟩ 1 1 [.int .i64 x] rfl rfl (cell_one_new _ _ _) (ints_oneCell .i64 [x]) (by unfold maxLen; omega) (by omega) (by simp; omega) ?_; intro v6 w6 hown6 hgrow6 _; have B6 : Below w2.heap.size w2 w6 := (B4.alloc hsz4 _).grown hgrow6 (by simp; omega) (by intro t ht; exact (hown4.lt t ht).1); clear hown4 hgrow6 hx4))
        go_roundw
        case rel => exact ⟨k + 1, by omega, by go_num, by rw [unveil e1], by rw [unveil e1]; simpa using hown6, by rw [unveil e1]; simp; omega, B6⟩
        case measure => simp [intOf]; omega
      · have e1 : Hid (layK l id (k + 1) = (o ++ [x], d)) := veil (unveil LN hc)
        clear LY LN
        have hcd : ¬ (d = false) ∨ ¬ id < x := by
          by_cases hd : d = false
          · exact .inr fun h => hc ⟨hd, h⟩
          · exact .inl hd
        clear hc
        rcases hcd with hd | hidx
        · obtain rfl : d = true := by simpa using hd
          clear hd
          go_wp2_with (at_builtin; refine wpList_append_own _ rfl _ _ 113 rfl w2.heap.size 3 i0 (.int .i64 0) 1 8 Try.underlying113 hi hz0 hz1 hz2 rfl (by decide) _ _ _ rfl (hown.alloc _) ⟨wr.heap.size, 0, none⟩ 1 1 [.int .i64 x] rfl rfl (cell_one_new _ _ _) (ints_oneCell .i64 [x]) (by unfold maxLen; omega) (by omega) (by simp; omega) ?_; intro v4 w4 hown4 hgrow4 _; have B4 : Below w2.heap.size w2 w4 := (B.alloc hsz _).grown hgrow4 (by simp; omega) (by intro t ht; exact (hown.lt t ht).1); clear hown hgrow4 hx)
          go_roundw
          case rel => exact ⟨k + 1, by omega, by go_num, by rw [unveil e1], by rw [unveil e1]; simpa using hown4, by rw [unveil e1]; simp; omega, B4⟩
          case measure => simp [intOf]; omega
        · cases d
          · go_wp2_with (at_builtin; refine wpList_append_own _ rfl _ _ 113 rfl w2.heap.size 3 i0 (.int .i64 0) 1 8 Try.underlying113 hi hz0 hz1 hz2 rfl (by decide) _ _ _ rfl (hown.alloc _) ⟨wr.heap.size, 0, none⟩ 1 1 [.int .i64 x] rfl rfl (cell_one_new _ _ _) (ints_oneCell .i64 [x]) (by unfold maxLen; omega) (by omega) (by simp; omega) ?_; intro v4 w4 hown4 hgrow4 _; have B4 : Below w2.heap.size w2 w4 := (B.alloc hsz _).grown hgrow4 (by simp; omega) (by intro t ht; exact (hown.lt t ht).1); clear hown hgrow4 hx)
            go_roundw
            case rel => exact ⟨k + 1, by omega, by go_num, by rw [unveil e1], by rw [unveil e1]; simpa using hown4, by rw [unveil e1]; simp; omega, B4⟩
            case measure => simp [intOf]; omega
          · go_wp2_with (at_builtin; refine wpList_append_own _ rfl _ _ 113 rfl w2.heap.size 3 i0 (.int .i64 0) 1 8 Try.underlying113 hi hz0 hz1 hz2 rfl (by decide) _ _ _ rfl (hown.alloc _) ⟨wr.heap.size, 0, none⟩ 1 1 [.int .i64 x] rfl rfl (cell_one_new _ _ _) (ints_oneCell .i64 [x]) (by unfold maxLen; omega) (by omega) (by simp; omega) ?_; intro v4 w4 hown4 hgrow4 _; have B4 : Below w2.heap.size w2 w4 := (B.alloc hsz _).grown hgrow4 (by simp; omega) (by intro t ht; exact (hown.lt t ht).1); clear hown hgrow4 hx)
            go_roundw
            case rel => exact ⟨k + 1, by omega, by go_num, by rw [unveil e1], by rw [unveil e1]; simpa using hown4, by rw [unveil e1]; simp; omega, B4⟩
            case measure => simp [intOf]; omega
    · obtain rfl : k = n := by omega
      generalize laid l id = out at HF HL HD1 HD0
      obtain ⟨o, d, hod⟩ : ∃ o d, layK l id k = (o, d) := ⟨_, _, rfl⟩
      rw [hod] at hown hlen HD1 HD0 ⊢
      clear hod
      simp only at hown hlen HD1 HD0
      have HV2 := veil (fun w' (hb : Below w2.heap.size w2 w') => (unveil HV).below hb hR)
      cases d
      · have eo : out = o ++ [id] := unveil HD0 rfl
        go_wp2_with (first
          | (at_builtin; refine wpList_append_own _ rfl _ _ 113 rfl w2.heap.size 3 i0 (.int .i64 0) 1 8 Try.underlying113 hi hz0 hz1 hz2 rfl (by decide) _ _ _ rfl (hown.alloc _) ⟨wr.heap.size, 0, none⟩ 1 1 [.int .i64 id] rfl rfl (cell_one_new _ _ _) (ints_oneCell .i64 [id]) (by unfold maxLen; omega) (by omega) (by simp; omega) ?_; intro v4 w4 hown4 hgrow4 _; have B4 : Below w2.heap.size w2 w4 := (B.alloc hsz _).grown hgrow4 (by simp; omega) (by intro t ht; exact (hown.lt t ht).1); clear hown hgrow4))
        obtain ⟨a4, cap4, rfl, r4, _, _, _, _⟩ := RowK.ofOwns (l := out) (by rw [eo]; simpa using hown4) (unveil HL)
        refine (unveil HF a4 _ cap4 _ r4).mono ?_
        rintro e w6 ⟨rfl, b6⟩
        have vb := (unveil HV2 _ B4).next b6
        have HB6 := veil (Below.next (Below.next (unveil HB2) B4) b6)
        obtain ⟨d0, d1, d2, d3, d4, d5, d6, d7, d8⟩ := vb.cells
        have df := vb.free
        have VB := veil vb
        clear vb b6 r4
        go_wp2
        exact bodyPost_ret (ret_IdTaken ((unveil VB).store (takeT t id) (takeS t s id)) rfl rfl rfl) rfl ⟨rfl, winStore_below (unveil HB6) _ (by omega) _ _⟩
      · have eo : out = o := unveil HD1 rfl
        obtain ⟨a4, cap4, rfl, r4, _, _, _, _⟩ := RowK.ofOwns (l := out) (by rw [eo]; exact hown) (unveil HL)
        clear hown
        go_wp2_with fail
        refine (unveil HF a4 _ cap4 _ r4).mono ?_
        rintro e w6 ⟨rfl, b6⟩
        have vb := (unveil HV2 _ B).next b6
        have HB6 := veil (Below.next (Below.next (unveil HB2) B) b6)
        obtain ⟨d0, d1, d2, d3, d4, d5, d6, d7, d8⟩ := vb.cells
        have df := vb.free
        have VB := veil vb
        clear vb b6 r4
        go_wp2
        exact bodyPost_ret (ret_IdTaken ((unveil VB).store (takeT t id) (takeS t s id)) rfl rfl rfl) rfl ⟨rfl, winStore_below (unveil HB6) _ (by omega) _ _⟩
end Go.Proofs.Ytlfecmkpafgcmaa
