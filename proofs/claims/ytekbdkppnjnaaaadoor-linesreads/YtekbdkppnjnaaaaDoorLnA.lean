/- Acts as eleven numbers; which of them the word of an act has; an act in a block of its own. -/
import Derived.Test.YtekbdkppnjnaaaaDoorEvS
namespace Go.Proofs.YtekbdkppnjnaaaaDoor
open Go.RowKit

theorem below11 {P : Nat → Prop} (h0 : P 0) (h1 : P 1) (h2 : P 2) (h3 : P 3) (h4 : P 4) (h5 : P 5) (h6 : P 6) (h7 : P 7) (h8 : P 8) (h9 : P 9) (h10 : P 10) : ∀ i, i < 11 → P i
  | 0, _ => h0
  | 1, _ => h1
  | 2, _ => h2
  | 3, _ => h3
  | 4, _ => h4
  | 5, _ => h5
  | 6, _ => h6
  | 7, _ => h7
  | 8, _ => h8
  | 9, _ => h9
  | 10, _ => h10
  | n + 11, h => absurd h (by omega)
/-- an act: Kind, Node, Queue, At, Keep, and the Op's Kind, Producer, Id, Body, Epoch, No. -/
abbrev aCells (f : Nat → Int) : Array Value := #[.int .i64 (f 0), .int .i64 (f 1), .int .i64 (f 2), .int .i64 (f 3), .int .i64 (f 4), .int .i64 (f 5), .int .i64 (f 6), .int .i64 (f 7), .int .i64 (f 8), .int .i64 (f 9), .int .i64 (f 10)]
abbrev aVal (f : Nat → Int) : Value := .agg (aCells f)
def aList (f : Nat → Int) : List Int := [f 0, f 1, f 2, f 3, f 4, f 5, f 6, f 7, f 8, f 9, f 10]
def put1 (f : Nat → Int) (o : Nat) (x : Int) : Nat → Int := fun i => if i = o then x else f i
theorem put1_same (f : Nat → Int) (o : Nat) (x : Int) : put1 f o x o = x := by simp [put1]
theorem put1_other (f : Nat → Int) {o i : Nat} (x : Int) (h : i ≠ o) : put1 f o x i = f i := by simp [put1, h]
def aBlock (w : World) (R : Nat) (f : Nat → Int) : Prop := w.heap[R]? = some (.cells (aCells f) 27 (0, 0))
section
variable {w w' : World} {R : Nat} {f : Nat → Int}
theorem aBlock.cell (h : aBlock w R f) : ∀ i, i < 11 → w.cell? ⟨R, i, none⟩ = some (.int .i64 (f i)) := by
  unfold aBlock at h
  refine below11 ?_ ?_ ?_ ?_ ?_ ?_ ?_ ?_ ?_ ?_ ?_ <;> simp [World.cell?, h]
theorem aBlock.cells (h : aBlock w R f) : w.cell? ⟨R, 0, none⟩ = some (.int .i64 (f 0)) ∧ w.cell? ⟨R, 1, none⟩ = some (.int .i64 (f 1)) ∧ w.cell? ⟨R, 2, none⟩ = some (.int .i64 (f 2)) ∧ w.cell? ⟨R, 3, none⟩ = some (.int .i64 (f 3)) ∧ w.cell? ⟨R, 4, none⟩ = some (.int .i64 (f 4)) ∧ w.cell? ⟨R, 5, none⟩ = some (.int .i64 (f 5)) ∧
    w.cell? ⟨R, 6, none⟩ = some (.int .i64 (f 6)) ∧ w.cell? ⟨R, 7, none⟩ = some (.int .i64 (f 7)) ∧ w.cell? ⟨R, 8, none⟩ = some (.int .i64 (f 8)) ∧ w.cell? ⟨R, 9, none⟩ = some (.int .i64 (f 9)) ∧ w.cell? ⟨R, 10, none⟩ = some (.int .i64 (f 10)) :=
  ⟨h.cell 0 (by omega), h.cell 1 (by omega), h.cell 2 (by omega), h.cell 3 (by omega), h.cell 4 (by omega), h.cell 5 (by omega), h.cell 6 (by omega), h.cell 7 (by omega), h.cell 8 (by omega), h.cell 9 (by omega), h.cell 10 (by omega)⟩
theorem aBlock.free (h : aBlock w R f) (o : Nat) : w.frozen? ⟨R, o, none⟩ = false := by
  unfold aBlock at h; simp [World.frozen?, h]
theorem aBlock.lt (h : aBlock w R f) : R < w.heap.size := block_lt h
theorem aBlock.below {N : Nat} (h : aBlock w R f) (hb : Below N w w') (hR : R < N) : aBlock w' R f := by
  unfold aBlock at h ⊢; rw [← h]; exact hb.block R hR
theorem aBlock.next (h : aBlock w R f) (hb : Below w.heap.size w w') : aBlock w' R f := h.below hb h.lt
theorem aBlock.turned {R' : Nat} (h : aBlock w R f) (t : Turned R' w w') (hR : R ≠ R') : aBlock w' R f := by
  unfold aBlock at h ⊢; rw [t.block R hR]; exact h
theorem aBlock.new (w : World) (f : Nat → Int) : aBlock (w.alloc (.cells (aCells f) 27)) w.heap.size f := heap_alloc_new w _
theorem heap_setA {k : Nat} {cs : Array Value} {T : TypeId} {v : Value} (h : w.heap[R]? = some (.cells cs T (0, 0))) : (w.setCell ⟨R, k, none⟩ v).heap[R]? = some (.cells (cs.set! k v) T (0, 0)) := by
  rw [setCell_eq_setRow w R k _ _ (0, 0) _ h, setRow_heap w R _ _ _ _ h]
  rfl
theorem aBlock.put (h : aBlock w R f) (o : Nat) (ho : o < 11) (x : Int) : aBlock (w.setCell ⟨R, o, none⟩ (.int .i64 x)) R (put1 f o x) := by
  unfold aBlock at h ⊢
  rw [heap_setA h]
  have : ∀ o, o < 11 → (aCells f).set! o (.int .i64 x) = aCells (put1 f o x) := by
    refine below11 ?_ ?_ ?_ ?_ ?_ ?_ ?_ ?_ ?_ ?_ ?_ <;> simp [put1]
  rw [this o ho]
/-- an act stored whole. -/
abbrev aStore (w : World) (R : Nat) (g : Nat → Int) : World := ((((((((((w.setCell ⟨R, 0, none⟩ (.int .i64 (g 0))).setCell ⟨R, 1, none⟩ (.int .i64 (g 1))).setCell ⟨R, 2, none⟩ (.int .i64 (g 2))).setCell ⟨R, 3, none⟩ (.int .i64 (g 3))).setCell ⟨R, 4, none⟩ (.int .i64 (g 4))).setCell ⟨R, 5, none⟩ (.int .i64 (g 5))).setCell ⟨R, 6, none⟩ (.int .i64 (g 6))).setCell ⟨R, 7, none⟩ (.int .i64 (g 7))).setCell ⟨R, 8, none⟩ (.int .i64 (g 8))).setCell ⟨R, 9, none⟩ (.int .i64 (g 9))).setCell ⟨R, 10, none⟩ (.int .i64 (g 10))
theorem aBlock.store (h : aBlock w R f) (g : Nat → Int) : aBlock (aStore w R g) R g := by
  unfold aBlock at h ⊢
  rw [aStore, heap_setA (heap_setA (heap_setA (heap_setA (heap_setA (heap_setA (heap_setA (heap_setA (heap_setA (heap_setA (heap_setA h))))))))))]
  simp
theorem aStore_turn (w : World) (R : Nat) (g : Nat → Int) : Turned R w (aStore w R g) :=
  ((((((((((Turned.set R _ w _).trans (Turned.set R _ _ _)).trans (Turned.set R _ _ _)).trans (Turned.set R _ _ _)).trans (Turned.set R _ _ _)).trans (Turned.set R _ _ _)).trans (Turned.set R _ _ _)).trans (Turned.set R _ _ _)).trans (Turned.set R _ _ _)).trans (Turned.set R _ _ _)).trans (Turned.set R _ _ _)
theorem load_act (d : aBlock w R f) : (loadVar 27 ⟨R, 0, none⟩).run Tryd.prog w = .ok (aVal f) w :=
  run_loadVar_row (P := Tryd.prog) w R 27 27 _ (0, 0) _ d Tryd.underlying27 rfl (by kernel_rfl)
end
/-- the places of an act's numbers, in the line's order. -/
def offs (k o : Int) : List Nat :=
  if k = 1 ∨ k = 10 then [2, 1] else if k = 3 ∨ k = 9 then [1] else if k = 8 then [1, 4] else if k = 4 ∨ k = 5 ∨ k = 6 then [3]
  else if k = 2 then (if o = 1 then [1, 2, 6, 7, 8] else if o = 3 then [1, 2, 9, 10] else [1, 2]) else []
theorem offs_cases (k o : Int) : offs k o = [2, 1] ∨ offs k o = [1] ∨ offs k o = [1, 4] ∨ offs k o = [3] ∨ offs k o = [1, 2, 6, 7, 8] ∨ offs k o = [1, 2, 9, 10] ∨ offs k o = [1, 2] ∨ offs k o = [] := by
  unfold offs
  repeat' split
  all_goals simp
theorem offs_lt (k o : Int) : ∀ x ∈ offs k o, x < 11 := by
  rcases offs_cases k o with h | h | h | h | h | h | h | h <;> rw [h] <;> simp
theorem offs_nodup (k o : Int) : (offs k o).Nodup := by
  rcases offs_cases k o with h | h | h | h | h | h | h | h <;> rw [h] <;> simp
theorem offs_len (k o : Int) : (offs k o).length ≤ 5 := by
  rcases offs_cases k o with h | h | h | h | h | h | h | h <;> rw [h] <;> simp
theorem offs_zero (k o : Int) : 0 ∉ offs k o ∧ 5 ∉ offs k o := by
  rcases offs_cases k o with h | h | h | h | h | h | h | h <;> rw [h] <;> simp
theorem offs_other {k o o' : Int} (h : ¬ k = 2) : offs k o = offs k o' := by
  unfold offs
  simp [h]
/-- which kind of acts: its row in the table of kinds; 12: none. -/
def kno (k o : Int) : Nat :=
  if k = 1 then 0 else if k = 10 then 1 else if k = 3 then 2 else if k = 9 then 3 else if k = 8 then 4 else if k = 4 then 5 else if k = 5 then 6 else if k = 6 then 7 else if k = 7 then 8
  else if k = 2 then (if o = 1 then 9 else if o = 2 then 10 else if o = 3 then 11 else 12) else 12
def kword : Nat → ByteArray
  | 0 => ⟨#[109, 97, 107, 101]⟩
  | 1 => ⟨#[109, 111, 118, 101]⟩
  | 2 => ⟨#[115, 116, 101, 112]⟩
  | 3 => ⟨#[115, 116, 97, 114, 116]⟩
  | 4 => ⟨#[99, 114, 97, 115, 104]⟩
  | 5 => ⟨#[99, 97, 114, 114, 121]⟩
  | 6 => ⟨#[108, 111, 115, 101]⟩
  | 7 => ⟨#[100, 111, 117, 98, 108, 101]⟩
  | 8 => ⟨#[97, 108, 108]⟩
  | 9 => ⟨#[112, 117, 98, 108, 105, 115, 104]⟩
  | 10 => ⟨#[114, 101, 99, 101, 105, 118, 101]⟩
  | 11 => ⟨#[97, 99, 107]⟩
  | _ => ⟨#[]⟩
def kact : Nat → Int
  | 0 => 1
  | 1 => 10
  | 2 => 3
  | 3 => 9
  | 4 => 8
  | 5 => 4
  | 6 => 5
  | 7 => 6
  | 8 => 7
  | 9 => 2
  | 10 => 2
  | 11 => 2
  | _ => 0
def kop : Nat → Int
  | 9 => 1
  | 10 => 2
  | 11 => 3
  | _ => 0
theorem below12 {P : Nat → Prop} (h0 : P 0) (h1 : P 1) (h2 : P 2) (h3 : P 3) (h4 : P 4) (h5 : P 5) (h6 : P 6) (h7 : P 7) (h8 : P 8) (h9 : P 9) (h10 : P 10) (h11 : P 11) : ∀ i, i < 12 → P i
  | 11, _ => h11
  | i, h => by
    by_cases e : i = 11
    · subst e; exact h11
    · exact below11 h0 h1 h2 h3 h4 h5 h6 h7 h8 h9 h10 i (by omega)
theorem kno_cases (k o : Int) : (k = 1 ∧ kno k o = 0) ∨ (k = 10 ∧ kno k o = 1) ∨ (k = 3 ∧ kno k o = 2) ∨ (k = 9 ∧ kno k o = 3) ∨ (k = 8 ∧ kno k o = 4) ∨ (k = 4 ∧ kno k o = 5) ∨ (k = 5 ∧ kno k o = 6) ∨ (k = 6 ∧ kno k o = 7) ∨ (k = 7 ∧ kno k o = 8) ∨ (k = 2 ∧ o = 1 ∧ kno k o = 9) ∨ (k = 2 ∧ o = 2 ∧ kno k o = 10) ∨ (k = 2 ∧ o = 3 ∧ kno k o = 11) ∨ (kno k o = 12 ∧ ¬ k = 1 ∧ ¬ k = 10 ∧ ¬ k = 3 ∧ ¬ k = 9 ∧ ¬ k = 8 ∧ ¬ k = 4 ∧ ¬ k = 5 ∧ ¬ k = 6 ∧ ¬ k = 7 ∧ ¬ (k = 2 ∧ o = 1) ∧ ¬ (k = 2 ∧ o = 2) ∧ ¬ (k = 2 ∧ o = 3)) := by
  by_cases h0 : k = 1
  · refine .inl ⟨h0, ?_⟩
    unfold kno
    rw [if_pos h0]
  by_cases h1 : k = 10
  · refine .inr (.inl ⟨h1, ?_⟩)
    unfold kno
    rw [if_neg h0, if_pos h1]
  by_cases h2 : k = 3
  · refine .inr (.inr (.inl ⟨h2, ?_⟩))
    unfold kno
    rw [if_neg h0, if_neg h1, if_pos h2]
  by_cases h3 : k = 9
  · refine .inr (.inr (.inr (.inl ⟨h3, ?_⟩)))
    unfold kno
    rw [if_neg h0, if_neg h1, if_neg h2, if_pos h3]
  by_cases h4 : k = 8
  · refine .inr (.inr (.inr (.inr (.inl ⟨h4, ?_⟩))))
    unfold kno
    rw [if_neg h0, if_neg h1, if_neg h2, if_neg h3, if_pos h4]
  by_cases h5 : k = 4
  · refine .inr (.inr (.inr (.inr (.inr (.inl ⟨h5, ?_⟩)))))
    unfold kno
    rw [if_neg h0, if_neg h1, if_neg h2, if_neg h3, if_neg h4, if_pos h5]
  by_cases h6 : k = 5
  · refine .inr (.inr (.inr (.inr (.inr (.inr (.inl ⟨h6, ?_⟩))))))
    unfold kno
    rw [if_neg h0, if_neg h1, if_neg h2, if_neg h3, if_neg h4, if_neg h5, if_pos h6]
  by_cases h7 : k = 6
  · refine .inr (.inr (.inr (.inr (.inr (.inr (.inr (.inl ⟨h7, ?_⟩)))))))
    unfold kno
    rw [if_neg h0, if_neg h1, if_neg h2, if_neg h3, if_neg h4, if_neg h5, if_neg h6, if_pos h7]
  by_cases h8 : k = 7
  · refine .inr (.inr (.inr (.inr (.inr (.inr (.inr (.inr (.inl ⟨h8, ?_⟩))))))))
    unfold kno
    rw [if_neg h0, if_neg h1, if_neg h2, if_neg h3, if_neg h4, if_neg h5, if_neg h6, if_neg h7, if_pos h8]
  by_cases h9 : k = 2 ∧ o = 1
  · refine .inr (.inr (.inr (.inr (.inr (.inr (.inr (.inr (.inr (.inl ⟨h9.1, h9.2, ?_⟩)))))))))
    unfold kno
    rw [if_neg h0, if_neg h1, if_neg h2, if_neg h3, if_neg h4, if_neg h5, if_neg h6, if_neg h7, if_neg h8, if_pos h9.1, if_pos h9.2]
  by_cases h10 : k = 2 ∧ o = 2
  · refine .inr (.inr (.inr (.inr (.inr (.inr (.inr (.inr (.inr (.inr (.inl ⟨h10.1, h10.2, ?_⟩))))))))))
    unfold kno
    rw [if_neg h0, if_neg h1, if_neg h2, if_neg h3, if_neg h4, if_neg h5, if_neg h6, if_neg h7, if_neg h8, if_pos h10.1, if_neg (fun e => h9 ⟨h10.1, e⟩), if_pos h10.2]
  by_cases h11 : k = 2 ∧ o = 3
  · refine .inr (.inr (.inr (.inr (.inr (.inr (.inr (.inr (.inr (.inr (.inr (.inl ⟨h11.1, h11.2, ?_⟩)))))))))))
    unfold kno
    rw [if_neg h0, if_neg h1, if_neg h2, if_neg h3, if_neg h4, if_neg h5, if_neg h6, if_neg h7, if_neg h8, if_pos h11.1, if_neg (fun e => h9 ⟨h11.1, e⟩), if_neg (fun e => h10 ⟨h11.1, e⟩), if_pos h11.2]
  refine .inr (.inr (.inr (.inr (.inr (.inr (.inr (.inr (.inr (.inr (.inr (.inr ⟨?_, h0, h1, h2, h3, h4, h5, h6, h7, h8, h9, h10, h11⟩)))))))))))
  unfold kno
  rw [if_neg h0, if_neg h1, if_neg h2, if_neg h3, if_neg h4, if_neg h5, if_neg h6, if_neg h7, if_neg h8]
  by_cases hk : k = 2
  · rw [if_pos hk, if_neg (fun e => h9 ⟨hk, e⟩), if_neg (fun e => h10 ⟨hk, e⟩), if_neg (fun e => h11 ⟨hk, e⟩)]
  · rw [if_neg hk]
theorem kno_le (k o : Int) : kno k o ≤ 12 := by
  rcases kno_cases k o with h | h | h | h | h | h | h | h | h | h | h | h | h <;> omega
/-- the row i fits an act of these kinds. -/
def fitsK (i : Nat) (k o : Int) : Bool := kact i == k && (kop i == o || kact i != 2)
theorem fits_first (k o : Int) : ∀ i, i < 12 → (∀ j, j < i → fitsK j k o = false) → fitsK i k o = true → kno k o = i := by
  intro i hi hj hf
  clear hj
  revert hf
  revert i
  refine below12 ?_ ?_ ?_ ?_ ?_ ?_ ?_ ?_ ?_ ?_ ?_ ?_ <;>
  · intro hf
    simp only [fitsK, kact, kop, Bool.and_eq_true, beq_iff_eq, Bool.or_eq_true, bne_iff_ne, ne_eq] at hf
    have := kno_cases k o
    first
      | omega
      | (simp at hf; omega)
theorem fits_none (k o : Int) (h : ∀ j, j < 12 → fitsK j k o = false) : kno k o = 12 := by
  have g : ∀ j, j < 12 → ¬ (kact j = k ∧ (kop j = o ∨ ¬ kact j = 2)) := fun j hj e => by
    have := h j hj
    unfold fitsK at this
    obtain ⟨e1, e2⟩ := e
    rcases e2 with e2 | e2 <;> simp [e1, e2] at this
    exact e2 (e1.trans this.2)
  have h0 := g 0 (by omega)
  have h1 := g 1 (by omega)
  have h2 := g 2 (by omega)
  have h3 := g 3 (by omega)
  have h4 := g 4 (by omega)
  have h5 := g 5 (by omega)
  have h6 := g 6 (by omega)
  have h7 := g 7 (by omega)
  have h8 := g 8 (by omega)
  have h9 := g 9 (by omega)
  have h10 := g 10 (by omega)
  have h11 := g 11 (by omega)
  simp only [kact, kop] at h0 h1 h2 h3 h4 h5 h6 h7 h8 h9 h10 h11
  rcases kno_cases k o with h | h | h | h | h | h | h | h | h | h | h | h | h
  all_goals first
    | exact h.1
    | (exfalso; omega)
theorem kno_act (k o : Int) (h : kno k o < 12) : kact (kno k o) = k ∧ (k = 2 → kop (kno k o) = o) ∧ (¬ k = 2 → kop (kno k o) = 0) := by
  rcases kno_cases k o with g | g | g | g | g | g | g | g | g | g | g | g | g
  all_goals first
    | (obtain ⟨rfl, g⟩ := g; rw [g]; exact ⟨rfl, fun e => absurd e (by decide), fun _ => rfl⟩)
    | (obtain ⟨rfl, rfl, g⟩ := g; rw [g]; exact ⟨rfl, fun _ => rfl, fun e => absurd rfl e⟩)
    | omega
/-- the bare act of a kind. -/
def bareK (i : Nat) : Nat → Int := fun j => if j = 0 then kact i else if j = 5 then kop i else 0
/-- the acts that part makes: what the word has, and what is left. -/
def over (os : List Nat) (g f : Nat → Int) : Nat → Int := fun i => if i ∈ os then f i else g i
def less (os : List Nat) (f : Nat → Int) : Nat → Int := fun i => if i ∈ os then 0 else f i
end Go.Proofs.YtekbdkppnjnaaaaDoor
