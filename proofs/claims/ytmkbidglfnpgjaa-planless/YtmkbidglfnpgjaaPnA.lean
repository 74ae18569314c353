/- Loads and plans: what may be, how much work a node has, the busiest and the idlest one, the plans: plain facts. -/
import Derived.Test.YtmkbidglfnpgjaaWdA
import Derived.Lib.Slices
namespace Go.Proofs.Ytmkbidglfnpgjaa
open Go.RowKit

/-- a load: its queue, its node, its work. -/
structure Ld where
  q : Int
  n : Int
  w : Int
/-- a plan: its queue, the node it goes from, the node it goes to. -/
structure Pl where
  q : Int
  f : Int
  t : Int
def ldAt (l : List Ld) (k : Nat) : Ld := l.getD k ⟨0, 0, 0⟩
def plAt (l : List Pl) (k : Nat) : Pl := l.getD k ⟨0, 0, 0⟩
def ldFlat : List Ld → List Int
  | [] => []
  | x :: l => x.q :: x.n :: x.w :: ldFlat l
def plFlat : List Pl → List Int
  | [] => []
  | x :: l => x.q :: x.f :: x.t :: plFlat l
theorem ldFlat_len : ∀ l, (ldFlat l).length = 3 * l.length
  | [] => rfl
  | _ :: l => by simp [ldFlat, ldFlat_len l]; omega
theorem plFlat_len : ∀ l, (plFlat l).length = 3 * l.length
  | [] => rfl
  | _ :: l => by simp [plFlat, plFlat_len l]; omega
theorem ldFlat_append : ∀ a b, ldFlat (a ++ b) = ldFlat a ++ ldFlat b
  | [], _ => rfl
  | x :: a, b => by simp [ldFlat, ldFlat_append a b]
theorem plFlat_append : ∀ a b, plFlat (a ++ b) = plFlat a ++ plFlat b
  | [], _ => rfl
  | x :: a, b => by simp [plFlat, plFlat_append a b]
theorem ldAt_get {l : List Ld} {k : Nat} (h : k < l.length) : ldAt l k = l[k] := by simp [ldAt, h]
theorem plAt_get {l : List Pl} {k : Nat} (h : k < l.length) : plAt l k = l[k] := by simp [plAt, h]
theorem ldAt_mem {l : List Ld} {k : Nat} (h : k < l.length) : ldAt l k ∈ l := by rw [ldAt_get h]; exact List.getElem_mem h
theorem ldFlat_at : ∀ (l : List Ld) (k : Nat), (ldFlat l).getD (3 * k) 0 = (ldAt l k).q ∧ (ldFlat l).getD (3 * k + 1) 0 = (ldAt l k).n ∧ (ldFlat l).getD (3 * k + 2) 0 = (ldAt l k).w
  | [], k => by simp [ldFlat, ldAt]
  | x :: l, 0 => by simp [ldFlat, ldAt]
  | x :: l, k + 1 => by
    have := ldFlat_at l k
    rw [show 3 * (k + 1) = 3 * k + 1 + 1 + 1 by omega]
    simpa [ldFlat, ldAt] using this
theorem plFlat_at : ∀ (l : List Pl) (k : Nat), (plFlat l).getD (3 * k) 0 = (plAt l k).q ∧ (plFlat l).getD (3 * k + 1) 0 = (plAt l k).f ∧ (plFlat l).getD (3 * k + 2) 0 = (plAt l k).t
  | [], k => by simp [plFlat, plAt]
  | x :: l, 0 => by simp [plFlat, plAt]
  | x :: l, k + 1 => by
    have := plFlat_at l k
    rw [show 3 * (k + 1) = 3 * k + 1 + 1 + 1 by omega]
    simpa [plFlat, plAt] using this
theorem ldFlat_take : ∀ (l : List Ld) (k : Nat), (ldFlat l).take (3 * k) = ldFlat (l.take k)
  | [], k => by simp [ldFlat]
  | x :: l, 0 => by simp [ldFlat]
  | x :: l, k + 1 => by
    rw [show 3 * (k + 1) = 3 * k + 1 + 1 + 1 by omega]
    simp [ldFlat, ldFlat_take l k]
theorem ldFlat_drop : ∀ (l : List Ld) (k : Nat), (ldFlat l).drop (3 * k) = ldFlat (l.drop k)
  | [], k => by simp [ldFlat]
  | x :: l, 0 => by simp [ldFlat]
  | x :: l, k + 1 => by
    rw [show 3 * (k + 1) = 3 * k + 1 + 1 + 1 by omega]
    simp [ldFlat, ldFlat_drop l k]
theorem take_ld (l : List Ld) (k : Nat) (h : k < l.length) : l.take (k + 1) = l.take k ++ [ldAt l k] := by
  rw [List.take_succ_eq_append_getElem h, ldAt_get h]
/-- loads out of a row of numbers. -/
def ldsOf (D : List Int) : Nat → List Ld
  | 0 => []
  | n + 1 => ldsOf D n ++ [⟨D.getD (3 * n) 0, D.getD (3 * n + 1) 0, D.getD (3 * n + 2) 0⟩]
theorem ldsOf_len (D : List Int) : ∀ n, (ldsOf D n).length = n
  | 0 => rfl
  | n + 1 => by rw [ldsOf, List.length_append, ldsOf_len D n]; rfl
theorem getD_at3 (R : List Int) (k : Nat) (h : k < R.length) : R.getD k 0 = R[k] := by simp [List.getElem?_eq_getElem h]
theorem take_three (L : List Int) (k : Nat) (h : 3 * k + 3 ≤ L.length) : L.take (3 * (k + 1)) = L.take (3 * k) ++ [L.getD (3 * k) 0, L.getD (3 * k + 1) 0, L.getD (3 * k + 2) 0] := by
  rw [show 3 * (k + 1) = (3 * k + 2) + 1 by omega, List.take_succ_eq_append_getElem (show 3 * k + 2 < L.length by omega), List.take_succ_eq_append_getElem (show 3 * k + 1 < L.length by omega), List.take_succ_eq_append_getElem (show 3 * k < L.length by omega), getD_at3 L (3 * k) (by omega), getD_at3 L (3 * k + 1) (by omega), getD_at3 L (3 * k + 2) (by omega), List.append_assoc, List.append_assoc]
  rfl
theorem ldFlat_ldsOf (D : List Int) : ∀ n, 3 * n ≤ D.length → ldFlat (ldsOf D n) = D.take (3 * n)
  | 0, _ => by simp [ldsOf, ldFlat]
  | n + 1, h => by
    rw [ldsOf, ldFlat_append, ldFlat_ldsOf D n (by omega), take_three D n (by omega)]
    rfl

/-- a load that may be. -/
structure LdOk (nodes : Int) (x : Ld) : Prop where
  q0 : 0 ≤ x.q
  q3 : x.q ≤ 3
  n0 : 0 ≤ x.n
  n4 : x.n < nodes
  w0 : 0 ≤ x.w
  w1 : x.w ≤ 1073741824
/-- loads that may be. -/
structure Rise (nodes : Int) (l : List Ld) : Prop where
  ok : ∀ k, k < l.length → LdOk nodes (ldAt l k)
  up : ∀ k, k + 1 < l.length → (ldAt l k).q < (ldAt l (k + 1)).q
theorem Rise.least {nodes : Int} {l : List Ld} (h : Rise nodes l) : ∀ k : Nat, k < l.length → (k : Int) ≤ (ldAt l k).q
  | 0, hk => (h.ok 0 hk).q0
  | k + 1, hk => by have := h.least k (by omega); have := h.up k hk; omega
theorem Rise.len {nodes : Int} {l : List Ld} (h : Rise nodes l) : l.length ≤ 4 := by
  rcases Nat.lt_or_ge 4 l.length with h4 | h4
  · have := h.least 4 h4; have := (h.ok 4 h4).q3; omega
  · exact h4
theorem Rise.lt {nodes : Int} {l : List Ld} (h : Rise nodes l) (i : Nat) : ∀ d : Nat, i + d + 1 < l.length → (ldAt l i).q < (ldAt l (i + d + 1)).q
  | 0, hk => h.up i hk
  | d + 1, hk => by have := h.lt i d (by omega); have := h.up (i + d + 1) hk; rw [show i + (d + 1) + 1 = i + d + 1 + 1 by omega]; omega
theorem Rise.less {nodes : Int} {l : List Ld} (h : Rise nodes l) {i j : Nat} (hij : i < j) (hj : j < l.length) : (ldAt l i).q < (ldAt l j).q := by
  have := h.lt i (j - i - 1) (by omega)
  rwa [show i + (j - i - 1) + 1 = j by omega] at this
theorem Rise.eq {nodes : Int} {l : List Ld} (h : Rise nodes l) {i j : Nat} (hi : i < l.length) (hj : j < l.length) (e : (ldAt l i).q = (ldAt l j).q) : i = j := by
  rcases Nat.lt_trichotomy i j with h1 | h1 | h1
  · have := h.less h1 hj; omega
  · exact h1
  · have := h.less h1 hi; omega

/-- the work at a node. -/
def workAt : List Ld → Int → Int
  | [], _ => 0
  | x :: l, n => (if x.n = n then x.w else 0) + workAt l n
theorem workAt_append (n : Int) : ∀ a b, workAt (a ++ b) n = workAt a n + workAt b n
  | [], b => by simp [workAt]
  | x :: a, b => by simp only [List.cons_append, workAt, workAt_append n a b]; omega
theorem workAt_take (l : List Ld) (k : Nat) (n : Int) (h : k < l.length) : workAt (l.take (k + 1)) n = workAt (l.take k) n + (if (ldAt l k).n = n then (ldAt l k).w else 0) := by
  rw [take_ld l k h, workAt_append]
  simp [workAt]
theorem workAt_bounds (nodes n : Int) : ∀ l : List Ld, (∀ x ∈ l, LdOk nodes x) → 0 ≤ workAt l n ∧ workAt l n ≤ 1073741824 * (l.length : Int)
  | [], _ => by simp [workAt]
  | x :: l, h => by
    have ih := workAt_bounds nodes n l (fun y hy => h y (by simp [hy]))
    have hx := h x (by simp)
    have h0 := hx.w0
    have h1 := hx.w1
    simp only [workAt, List.length_cons]
    split <;> constructor <;> omega
theorem Rise.mem {nodes : Int} {l : List Ld} (h : Rise nodes l) : ∀ x ∈ l, LdOk nodes x := fun x hx => by
  obtain ⟨k, hk, rfl⟩ := List.getElem_of_mem hx
  rw [← ldAt_get hk]; exact h.ok k hk
theorem Rise.work {nodes : Int} {l : List Ld} (h : Rise nodes l) (n : Int) : 0 ≤ workAt l n ∧ workAt l n ≤ 4294967296 := by
  have := workAt_bounds nodes n l h.mem
  have := h.len
  omega
theorem Rise.workTo {nodes : Int} {l : List Ld} (h : Rise nodes l) (n : Int) (k : Nat) : 0 ≤ workAt (l.take k) n ∧ workAt (l.take k) n ≤ 4294967296 := by
  have := workAt_bounds nodes n (l.take k) (fun x hx => h.mem x (List.mem_of_mem_take hx))
  have := h.len
  have : (l.take k).length ≤ l.length := List.length_take_le' k l
  omega
/-- the work at each node. -/
def works (l : List Ld) (nodes : Nat) : List Int := (List.range nodes).map (fun n : Nat => workAt l (n : Int))
theorem works_len (l : List Ld) (nodes : Nat) : (works l nodes).length = nodes := by simp [works]
theorem works_at (l : List Ld) (nodes n : Nat) (h : n < nodes) : (works l nodes).getD n 0 = workAt l n := by
  simp [works, List.getD_eq_getElem?_getD, h]

/-- the busiest place, and the idlest one: the lowest of several. -/
structure IsBusy (ws : List Int) (m : Nat) : Prop where
  lt : m < ws.length
  ge : ∀ n, n < ws.length → ws.getD n 0 ≤ ws.getD m 0
  low : ∀ n, n < m → ws.getD n 0 < ws.getD m 0
structure IsIdle (ws : List Int) (m : Nat) : Prop where
  lt : m < ws.length
  le : ∀ n, n < ws.length → ws.getD m 0 ≤ ws.getD n 0
  low : ∀ n, n < m → ws.getD m 0 < ws.getD n 0
theorem IsBusy.uniq {ws : List Int} {m k : Nat} (h : IsBusy ws m) (g : IsBusy ws k) : m = k := by
  rcases Nat.lt_trichotomy m k with h1 | h1 | h1
  · have := g.low m h1; have := h.ge k g.lt; omega
  · exact h1
  · have := h.low k h1; have := g.ge m h.lt; omega
theorem IsIdle.uniq {ws : List Int} {m k : Nat} (h : IsIdle ws m) (g : IsIdle ws k) : m = k := by
  rcases Nat.lt_trichotomy m k with h1 | h1 | h1
  · have := g.low m h1; have := h.le k g.lt; omega
  · exact h1
  · have := h.low k h1; have := g.le m h.lt; omega
theorem least_of (p : Nat → Prop) : ∀ n, (∃ j, j < n ∧ p j) → ∃ k, k < n ∧ p k ∧ ∀ j, j < k → ¬ p j
  | 0, ⟨_, h, _⟩ => absurd h (Nat.not_lt_zero _)
  | n + 1, ⟨j, hj, pj⟩ => by
    by_cases h : ∃ j, j < n ∧ p j
    · obtain ⟨k, hk, pk, lk⟩ := least_of p n h
      exact ⟨k, by omega, pk, lk⟩
    · exact ⟨j, hj, pj, fun i hi pi => h ⟨i, by omega, pi⟩⟩
theorem maxOf_is (zs : List Int) : ∀ k : Nat, 0 < k → k ≤ zs.length → (∃ j, j < k ∧ zs.getD j 0 = Lib.maxOf (zs.take k)) ∧ ∀ j, j < k → zs.getD j 0 ≤ Lib.maxOf (zs.take k)
  | 0, h, _ => absurd h (Nat.lt_irrefl _)
  | 1, _, _ => by
    rw [Lib.maxOf_one]
    exact ⟨⟨0, by omega, rfl⟩, fun j hj => by obtain rfl : j = 0 := by omega
                                              exact Int.le_refl _⟩
  | k + 2, _, hl => by
    obtain ⟨⟨j, hj, ej⟩, ub⟩ := maxOf_is zs (k + 1) (by omega) (by omega)
    rw [Lib.maxOf_step zs (k + 1) (by omega) (by omega)]
    refine ⟨?_, fun i hi => ?_⟩
    · rcases Int.le_total (Lib.maxOf (zs.take (k + 1))) (zs.getD (k + 1) 0) with h | h
      · exact ⟨k + 1, by omega, by omega⟩
      · exact ⟨j, by omega, by omega⟩
    · by_cases h : i < k + 1
      · have := ub i h; omega
      · obtain rfl : i = k + 1 := by omega
        omega
theorem minOf_is (zs : List Int) : ∀ k : Nat, 0 < k → k ≤ zs.length → (∃ j, j < k ∧ zs.getD j 0 = Lib.minOf (zs.take k)) ∧ ∀ j, j < k → Lib.minOf (zs.take k) ≤ zs.getD j 0
  | 0, h, _ => absurd h (Nat.lt_irrefl _)
  | 1, _, _ => by
    rw [Lib.minOf_one]
    exact ⟨⟨0, by omega, rfl⟩, fun j hj => by obtain rfl : j = 0 := by omega
                                              exact Int.le_refl _⟩
  | k + 2, _, hl => by
    obtain ⟨⟨j, hj, ej⟩, ub⟩ := minOf_is zs (k + 1) (by omega) (by omega)
    rw [Lib.minOf_step zs (k + 1) (by omega) (by omega)]
    refine ⟨?_, fun i hi => ?_⟩
    · rcases Int.le_total (Lib.minOf (zs.take (k + 1))) (zs.getD (k + 1) 0) with h | h
      · exact ⟨j, by omega, by omega⟩
      · exact ⟨k + 1, by omega, by omega⟩
    · by_cases h : i < k + 1
      · have := ub i h; omega
      · obtain rfl : i = k + 1 := by omega
        omega
theorem busy_is (ws : List Int) (h : 0 < ws.length) : ∃ m, IsBusy ws m ∧ Lib.maxOf ws = ws.getD m 0 ∧ Lib.idxOf ws (Lib.maxOf ws) = m := by
  have h1 := maxOf_is ws ws.length h (Nat.le_refl _)
  rw [List.take_length] at h1
  obtain ⟨m, hm, em, low⟩ := least_of (fun j => ws.getD j 0 = Lib.maxOf ws) ws.length h1.1
  have h2 := Lib.idxOf_hit ws ws.length m (Lib.maxOf ws) hm (Nat.le_refl _) em low
  rw [List.take_length] at h2
  refine ⟨m, ⟨hm, fun n hn => by rw [em]; exact h1.2 n hn, fun n hn => ?_⟩, em.symm, h2⟩
  have a := h1.2 n (by omega)
  have b := low n hn
  rw [em]
  omega
theorem idle_is (ws : List Int) (h : 0 < ws.length) : ∃ m, IsIdle ws m ∧ Lib.minOf ws = ws.getD m 0 ∧ Lib.idxOf ws (Lib.minOf ws) = m := by
  have h1 := minOf_is ws ws.length h (Nat.le_refl _)
  rw [List.take_length] at h1
  obtain ⟨m, hm, em, low⟩ := least_of (fun j => ws.getD j 0 = Lib.minOf ws) ws.length h1.1
  have h2 := Lib.idxOf_hit ws ws.length m (Lib.minOf ws) hm (Nat.le_refl _) em low
  rw [List.take_length] at h2
  refine ⟨m, ⟨hm, fun n hn => by rw [em]; exact h1.2 n hn, fun n hn => ?_⟩, em.symm, h2⟩
  have a := h1.2 n (by omega)
  have b := low n hn
  rw [em]
  omega
end Go.Proofs.Ytmkbidglfnpgjaa
