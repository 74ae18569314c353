/- Plans, one behind the other: which load goes; the loads behind it; plain facts. -/
import Derived.Test.YtmkbidglfnpgjaaPnA
namespace Go.Proofs.Ytmkbidglfnpgjaa
open Go.RowKit

/-- a load that may go. -/
def Cand (node gap : Int) (x : Ld) : Prop := x.n = node ∧ x.w < gap ∧ 0 < x.w
/-- the place of the heaviest one, and its work, of the first k. -/
def heavTo (l : List Ld) (node gap : Int) : Nat → Int × Int
  | 0 => (-1, 0)
  | k + 1 => if (ldAt l k).n = node ∧ (ldAt l k).w < gap ∧ (heavTo l node gap k).2 < (ldAt l k).w then ((k : Int), (ldAt l k).w) else heavTo l node gap k
theorem heavTo_is (l : List Ld) (node gap : Int) : ∀ k : Nat, (heavTo l node gap k = (-1, 0) ∧ ∀ j, j < k → ¬ Cand node gap (ldAt l j)) ∨
    ∃ i : Nat, i < k ∧ heavTo l node gap k = ((i : Int), (ldAt l i).w) ∧ Cand node gap (ldAt l i) ∧ (∀ j, j < k → Cand node gap (ldAt l j) → (ldAt l j).w ≤ (ldAt l i).w) ∧ ∀ j, j < i → Cand node gap (ldAt l j) → (ldAt l j).w < (ldAt l i).w
  | 0 => .inl ⟨rfl, fun j hj => absurd hj (Nat.not_lt_zero _)⟩
  | k + 1 => by
    unfold heavTo
    rcases heavTo_is l node gap k with ⟨e, h⟩ | ⟨i, hi, e, hc, hm, hl⟩
    · rw [e]
      by_cases hx : (ldAt l k).n = node ∧ (ldAt l k).w < gap ∧ (0 : Int) < (ldAt l k).w
      · rw [if_pos hx]
        refine .inr ⟨k, by omega, rfl, hx, fun j hj cj => ?_, fun j hj cj => absurd cj (h j hj)⟩
        by_cases hjk : j < k
        · exact absurd cj (h j hjk)
        · obtain rfl : j = k := by omega
          exact Int.le_refl _
      · rw [if_neg hx]
        refine .inl ⟨rfl, fun j hj cj => ?_⟩
        by_cases hjk : j < k
        · exact h j hjk cj
        · obtain rfl : j = k := by omega
          exact hx cj
    · rw [e]
      by_cases hx : (ldAt l k).n = node ∧ (ldAt l k).w < gap ∧ (ldAt l i).w < (ldAt l k).w
      · rw [if_pos hx]
        refine .inr ⟨k, by omega, rfl, ⟨hx.1, hx.2.1, by have := hc.2.2; omega⟩, fun j hj cj => ?_, fun j hj cj => ?_⟩
        · by_cases hjk : j < k
          · have := hm j hjk cj; omega
          · obtain rfl : j = k := by omega
            exact Int.le_refl _
        · have := hm j hj cj; omega
      · rw [if_neg hx]
        refine .inr ⟨i, by omega, rfl, hc, fun j hj cj => ?_, hl⟩
        by_cases hjk : j < k
        · exact hm j hjk cj
        · obtain rfl : j = k := by omega
          have h1 := cj.1
          have h2 := cj.2.1
          rcases Int.lt_or_le (ldAt l i).w (ldAt l j).w with h3 | h3
          · exact absurd ⟨h1, h2, h3⟩ hx
          · exact h3
/-- works when so much goes from one node to another. -/
def shift (ws : List Int) (f t : Nat) (w : Int) : List Int := (ws.set f (ws.getD f 0 - w)).set t ((ws.set f (ws.getD f 0 - w)).getD t 0 + w)
theorem shift_len (ws : List Int) (f t : Nat) (w : Int) : (shift ws f t w).length = ws.length := by simp [shift]
/-- the plans. -/
def busyOf (ws : List Int) : Nat := (Lib.idxOf ws (Lib.maxOf ws)).toNat
def idleOf (ws : List Int) : Nat := (Lib.idxOf ws (Lib.minOf ws)).toNat
theorem busyOf_is (ws : List Int) (h : 0 < ws.length) : IsBusy ws (busyOf ws) ∧ Lib.idxOf ws (Lib.maxOf ws) = (busyOf ws : Int) := by
  obtain ⟨m, h1, h2, h3⟩ := busy_is ws h
  have : busyOf ws = m := by unfold busyOf; rw [h3]; rfl
  rw [this]
  exact ⟨h1, h3⟩
theorem idleOf_is (ws : List Int) (h : 0 < ws.length) : IsIdle ws (idleOf ws) ∧ Lib.idxOf ws (Lib.minOf ws) = (idleOf ws : Int) := by
  obtain ⟨m, h1, h2, h3⟩ := idle_is ws h
  have : idleOf ws = m := by unfold idleOf; rw [h3]; rfl
  rw [this]
  exact ⟨h1, h3⟩
def gapOf (ws : List Int) : Int := ws.getD (busyOf ws) 0 - ws.getD (idleOf ws) 0
def goesOf (ws : List Int) (rest : List Ld) : Int := (heavTo rest (busyOf ws) (gapOf ws) rest.length).1
def plansF : Nat → List Int → List Ld → List Pl
  | 0, _, _ => []
  | m + 1, ws, rest => if goesOf ws rest < 0 then [] else
      ⟨(ldAt rest (goesOf ws rest).toNat).q, busyOf ws, idleOf ws⟩ :: plansF m (shift ws (busyOf ws) (idleOf ws) (ldAt rest (goesOf ws rest).toNat).w) (rest.eraseIdx (goesOf ws rest).toNat)
theorem plansF_len : ∀ m ws rest, (plansF m ws rest).length ≤ m
  | 0, _, _ => by simp [plansF]
  | m + 1, ws, rest => by
    unfold plansF
    split
    · simp
    · have := plansF_len m (shift ws (busyOf ws) (idleOf ws) (ldAt rest (goesOf ws rest).toNat).w) (rest.eraseIdx (goesOf ws rest).toNat)
      simp only [List.length_cons]; omega
/-- fewer moves begin with the same plans. -/
theorem plansF_less : ∀ m k ws rest, k ≤ m → plansF k ws rest = (plansF m ws rest).take k
  | m, 0, _, _, _ => by simp [plansF]
  | 0, k + 1, _, _, h => absurd h (by omega)
  | m + 1, k + 1, ws, rest, h => by
    unfold plansF
    split
    · simp
    · rw [List.take_succ_cons, plansF_less m k _ _ (by omega)]

/-- loads of which some have gone, the works, and those that haven't. -/
structure Now (nodes : Nat) (now : List Ld) (gone : Int → Bool) (ws : List Int) (rest : List Ld) : Prop where
  rise : Rise nodes now
  pos : 0 < nodes
  ws_eq : ws = works now nodes
  rest_eq : rest = now.filter (fun x => !gone x.q)
theorem Now.begin {nodes : Nat} {l : List Ld} (h : Rise nodes l) (hp : 0 < nodes) : Now nodes l (fun _ => false) (works l nodes) l :=
  ⟨h, hp, rfl, (List.filter_eq_self.2 (fun _ _ => rfl)).symm⟩
theorem erase_filter : ∀ (l : List Ld) (i : Nat), i < l.length → (∀ a b, a < l.length → b < l.length → (ldAt l a).q = (ldAt l b).q → a = b) → l.eraseIdx i = l.filter (fun y => y.q ≠ (ldAt l i).q)
  | [], i, h, _ => absurd h (Nat.not_lt_zero _)
  | x :: l, 0, _, hd => by
    have e : ldAt (x :: l) 0 = x := by simp [ldAt]
    rw [e, List.eraseIdx_zero, List.tail_cons, List.filter_cons]
    rw [if_neg (by simp)]
    symm
    rw [List.filter_eq_self]
    intro y hy
    obtain ⟨k, hk, rfl⟩ := List.getElem_of_mem hy
    simp only [ne_eq, decide_not, Bool.not_eq_eq_eq_not, Bool.not_true, decide_eq_false_iff_not]
    intro he
    have := hd (k + 1) 0 (by simp; omega) (by simp) (by rw [e, ← he, ldAt_get (by simp; omega)]; simp)
    omega
  | x :: l, i + 1, h, hd => by
    have e : ldAt (x :: l) (i + 1) = ldAt l i := by simp [ldAt]
    rw [e, List.eraseIdx_cons_succ, List.filter_cons]
    rw [if_pos]
    · rw [erase_filter l i (by simpa using h)]
      intro a b ha hb hab
      have := hd (a + 1) (b + 1) (by simp; omega) (by simp; omega) (by simpa [ldAt] using hab)
      omega
    · simp only [ne_eq, decide_not, Bool.not_eq_eq_eq_not, Bool.not_true, decide_eq_false_iff_not]
      intro he
      have := hd 0 (i + 1) (by simp) (by simpa using h) (by rw [e, ← he]; simp [ldAt])
      omega
theorem set_filter (p : Int → Bool) : ∀ (l : List Ld) (b : Nat) (y : Ld), b < l.length → p y.q = false → p (ldAt l b).q = false → (l.set b y).filter (fun x => p x.q) = l.filter (fun x => p x.q)
  | [], b, _, h, _, _ => absurd h (Nat.not_lt_zero _)
  | x :: l, 0, y, _, hy, hx => by
    have hx' : p x.q = false := by simpa [ldAt] using hx
    simp [hy, hx']
  | x :: l, b + 1, y, h, hy, hx => by
    rw [List.set_cons_succ, List.filter_cons, List.filter_cons, set_filter p l b y (by simpa using h) hy (by simpa [ldAt] using hx)]
theorem workAt_set (n : Int) : ∀ (l : List Ld) (b : Nat) (y : Ld), b < l.length → workAt (l.set b y) n = workAt l n - (if (ldAt l b).n = n then (ldAt l b).w else 0) + (if y.n = n then y.w else 0)
  | [], b, _, h => absurd h (Nat.not_lt_zero _)
  | x :: l, 0, y, _ => by simp only [List.set_cons_zero, workAt, ldAt, List.getD_cons_zero]; omega
  | x :: l, b + 1, y, h => by
    rw [List.set_cons_succ, workAt, workAt, workAt_set n l b y (by simpa using h)]
    have e : ldAt (x :: l) (b + 1) = ldAt l b := by simp [ldAt]
    rw [e]; omega
theorem ldAt_set (l : List Ld) (b k : Nat) (y : Ld) (hb : b < l.length) : ldAt (l.set b y) k = if k = b then y else ldAt l k := by
  unfold ldAt
  rw [List.getD_eq_getElem?_getD, List.getElem?_set, List.getD_eq_getElem?_getD]
  by_cases h : b = k
  · subst h; simp [hb]
  · rw [if_neg h, if_neg (fun e => h e.symm)]
theorem getD_set (l : List Int) (b k : Nat) (y : Int) (hb : b < l.length) : (l.set b y).getD k 0 = if k = b then y else l.getD k 0 := by
  rw [List.getD_eq_getElem?_getD, List.getElem?_set, List.getD_eq_getElem?_getD]
  by_cases h : b = k
  · subst h; simp [hb]
  · rw [if_neg h, if_neg (fun e => h e.symm)]
theorem shift_at (ws : List Int) (f t k : Nat) (w : Int) (hf : f < ws.length) (ht : t < ws.length) (hft : f ≠ t) : (shift ws f t w).getD k 0 = if k = t then ws.getD t 0 + w else if k = f then ws.getD f 0 - w else ws.getD k 0 := by
  have e1 : (ws.set f (ws.getD f 0 - w)).getD t 0 = ws.getD t 0 := by rw [getD_set _ _ _ _ hf, if_neg (fun e => hft e.symm)]
  unfold shift
  rw [e1, getD_set _ _ _ _ (by simpa using ht), getD_set _ _ _ _ hf]
theorem Now.len {nodes : Nat} {now rest : List Ld} {gone : Int → Bool} {ws : List Int} (h : Now nodes now gone ws rest) : ws.length = nodes := by rw [h.ws_eq, works_len]
theorem Now.restMem {nodes : Nat} {now rest : List Ld} {gone : Int → Bool} {ws : List Int} (h : Now nodes now gone ws rest) (k : Nat) (hk : k < rest.length) : ∃ b, b < now.length ∧ ldAt now b = ldAt rest k ∧ gone (ldAt rest k).q = false := by
  have hm := ldAt_mem hk
  have hm2 := hm
  rw [h.rest_eq] at hm2
  obtain ⟨h1, h2⟩ := List.mem_filter.1 hm2
  rw [← h.rest_eq] at h1 h2
  obtain ⟨b, hb, e⟩ := List.getElem_of_mem h1
  exact ⟨b, hb, by rw [ldAt_get hb]; exact e, by simpa using h2⟩
theorem Now.memRest {nodes : Nat} {now rest : List Ld} {gone : Int → Bool} {ws : List Int} (h : Now nodes now gone ws rest) (b : Nat) (hb : b < now.length) (hg : gone (ldAt now b).q = false) : ∃ k, k < rest.length ∧ ldAt rest k = ldAt now b := by
  have : ldAt now b ∈ rest := by rw [h.rest_eq]; exact List.mem_filter.2 ⟨ldAt_mem hb, by simp [hg]⟩
  obtain ⟨k, hk, e⟩ := List.getElem_of_mem this
  exact ⟨k, hk, by rw [ldAt_get hk]; exact e⟩
theorem ldAt_filter_less (p : Ld → Bool) (nodes : Int) : ∀ (l : List Ld) , (∀ a b, a < b → b < l.length → (ldAt l a).q < (ldAt l b).q) → ∀ a b, a < b → b < (l.filter p).length → (ldAt (l.filter p) a).q < (ldAt (l.filter p) b).q
  | [], _, a, b, _, hb => absurd hb (by simp)
  | x :: l, h, a, b, hab, hb => by
    have ih := ldAt_filter_less p nodes l (fun i j hij hj => by have := h (i + 1) (j + 1) (by omega) (by simp; omega); simpa [ldAt] using this)
    rw [List.filter_cons] at hb ⊢
    by_cases hp : p x = true
    · rw [if_pos hp] at hb ⊢
      cases a with
      | zero =>
        cases b with
        | zero => omega
        | succ b =>
          have hb' : b < (l.filter p).length := by simpa using hb
          have hm : ldAt (l.filter p) b ∈ l := (List.mem_filter.1 (ldAt_mem hb')).1
          obtain ⟨k, hk, e⟩ := List.getElem_of_mem hm
          have := h 0 (k + 1) (by omega) (by simp; omega)
          rw [show ldAt (x :: l) (k + 1) = ldAt l k by simp [ldAt], ldAt_get hk, e] at this
          simpa [ldAt] using this
      | succ a =>
        cases b with
        | zero => omega
        | succ b => have := ih a b (by omega) (by simpa using hb); simpa [ldAt] using this
    · rw [if_neg hp] at hb ⊢
      exact ih a b hab hb
theorem Now.restLess {nodes : Nat} {now rest : List Ld} {gone : Int → Bool} {ws : List Int} (h : Now nodes now gone ws rest) {a b : Nat} (hab : a < b) (hb : b < rest.length) : (ldAt rest a).q < (ldAt rest b).q := by
  have := ldAt_filter_less (fun x => !gone x.q) 0 now (fun i j hij hj => h.rise.less hij hj) a b hab (by rw [← h.rest_eq]; exact hb)
  rwa [← h.rest_eq] at this
theorem Now.restEq {nodes : Nat} {now rest : List Ld} {gone : Int → Bool} {ws : List Int} (h : Now nodes now gone ws rest) (a b : Nat) (ha : a < rest.length) (hb : b < rest.length) (e : (ldAt rest a).q = (ldAt rest b).q) : a = b := by
  rcases Nat.lt_trichotomy a b with h1 | h1 | h1
  · have := h.restLess h1 hb; omega
  · exact h1
  · have := h.restLess h1 ha; omega
/-- a load goes. -/
theorem Now.goes {nodes : Nat} {now rest : List Ld} {gone : Int → Bool} {ws : List Int} (h : Now nodes now gone ws rest) {k b : Nat} (hk : k < rest.length) (hb : b < now.length) (e : ldAt now b = ldAt rest k) {f t : Nat} (hf : (ldAt rest k).n = f) (hfn : f < nodes) (ht : t < nodes) (hft : f ≠ t) :
    Now nodes (now.set b ⟨(ldAt rest k).q, t, (ldAt rest k).w⟩) (fun q => gone q || q == (ldAt rest k).q) (shift ws f t (ldAt rest k).w) (rest.eraseIdx k) := by
  have hl := h.len
  refine ⟨⟨fun j hj => ?_, fun j hj => ?_⟩, h.pos, ?_, ?_⟩
  · rw [ldAt_set _ _ _ _ hb]
    have ho := h.rise.ok b hb
    rw [e] at ho
    split
    · exact ⟨ho.q0, ho.q3, by show (0 : Int) ≤ (t : Int); omega, by show (t : Int) < nodes; omega, ho.w0, ho.w1⟩
    · exact h.rise.ok j (by simpa using hj)
  · have hj' : j + 1 < now.length := by simpa using hj
    have := h.rise.up j hj'
    rw [ldAt_set _ _ _ _ hb, ldAt_set _ _ _ _ hb]
    by_cases h1 : j = b
    · rw [if_pos h1, if_neg (by omega)]
      show (ldAt rest k).q < _
      rw [← e, ← h1]; exact this
    · rw [if_neg h1]
      by_cases h2 : j + 1 = b
      · rw [if_pos h2]
        show _ < (ldAt rest k).q
        rw [← e, ← h2]; exact this
      · rw [if_neg h2]; exact this
  · apply List.ext_getElem
    · rw [shift_len, works_len, hl]
    · intro i h1 h2
      have hi : i < nodes := by rw [shift_len, hl] at h1; exact h1
      have a1 := shift_at ws f t i (ldAt rest k).w (by omega) (by omega) hft
      have a2 := works_at (now.set b ⟨(ldAt rest k).q, t, (ldAt rest k).w⟩) nodes i hi
      rw [List.getD_eq_getElem?_getD, List.getElem?_eq_getElem h1] at a1
      rw [List.getD_eq_getElem?_getD, List.getElem?_eq_getElem h2] at a2
      simp only [Option.getD_some] at a1 a2
      rw [a1, a2, workAt_set _ _ _ _ hb, e, hf, h.ws_eq, works_at _ _ _ ht, works_at _ _ _ hfn, works_at _ _ _ hi]
      by_cases i1 : i = t
      · subst i1
        rw [if_pos rfl, if_neg (show ¬ (f : Int) = (i : Int) by omega)]
        show _ = _ - _ + (if (i : Int) = (i : Int) then _ else _)
        rw [if_pos rfl]
        show workAt now i + (ldAt rest k).w = workAt now i - 0 + (ldAt rest k).w
        omega
      · rw [if_neg i1]
        show _ = _ - _ + (if (t : Int) = (i : Int) then _ else _)
        rw [if_neg (show ¬ (t : Int) = (i : Int) by omega)]
        by_cases i2 : i = f
        · subst i2; rw [if_pos rfl, if_pos rfl]; omega
        · rw [if_neg i2, if_neg (show ¬ (f : Int) = (i : Int) by omega)]; omega
  · rw [erase_filter rest k hk h.restEq]
    have e1 : rest.filter (fun y => y.q ≠ (ldAt rest k).q) = (now.filter (fun x => !gone x.q)).filter (fun y => y.q ≠ (ldAt rest k).q) := by rw [← h.rest_eq]
    rw [e1, List.filter_filter]
    have := set_filter (fun q => !(gone q || q == (ldAt rest k).q)) now b ⟨(ldAt rest k).q, t, (ldAt rest k).w⟩ hb (by simp) (by rw [e]; simp)
    rw [this]
    congr 1
    funext y
    by_cases h1 : y.q = (ldAt rest k).q <;> simp [h1]
end Go.Proofs.Ytmkbidglfnpgjaa
