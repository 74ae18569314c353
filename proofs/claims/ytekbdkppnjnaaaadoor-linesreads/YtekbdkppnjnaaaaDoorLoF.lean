/- Walk of lines.Read. -/
import Derived.Test.YtekbdkppnjnaaaaDoorLoE
namespace Go.Proofs.YtekbdkppnjnaaaaDoor
open Go.RowKit Go.Shelf

attribute [local go_sem] Oper.semAt_some

theorem actOf_yes (s : List UInt8) (hs : s.length ≤ 4000000) (w : World) (hL : LaidR w) (h : ∃ g, IsLine s g) : Calls Tryd.prog 35 #[.string (str s)] w fun e w' => ∃ f, e = .returned (.tuple #[aVal f, .bool true]) ∧ IsLine s f ∧ Below w.heap.size w w' := by
  refine (actOf_any s hs w hL).mono ?_
  rintro e w' ⟨⟨f, b, rfl, hy, hn⟩, b1⟩
  cases b with
  | true => exact ⟨f, rfl, hy rfl, b1⟩
  | false => obtain ⟨g, hg⟩ := h; exact absurd hg (hn rfl g)
theorem actOf_no (s : List UInt8) (hs : s.length ≤ 4000000) (w : World) (hL : LaidR w) (h : ∀ g, ¬ IsLine s g) : Calls Tryd.prog 35 #[.string (str s)] w fun e w' => ∃ f, e = .returned (.tuple #[aVal f, .bool false]) ∧ Below w.heap.size w w' := by
  refine (actOf_any s hs w hL).mono ?_
  rintro e w' ⟨⟨f, b, rfl, hy, hn⟩, b1⟩
  cases b with
  | true => exact absurd (hy rfl) (h f)
  | false => exact ⟨f, rfl, b1⟩
/-- what Read answers: the acts' numbers, how many, the place, the error. -/
inductive ReadR (t : List UInt8) : List Int → Nat → Int → Int → Prop
  | size (h : 4000000 < t.length) : ReadR t [] 0 0 1
  | full (h : t.length ≤ 4000000) (h1 : 100000 < (linesOf t).length) (hg : ∀ i s, (linesOf t)[i]? = some s → i < 100000 → ∃ f, IsLine s f) : ReadR t [] 0 100000 14
  | form (h : t.length ≤ 4000000) (k : Nat) (s : List UInt8) (hk : (linesOf t)[k]? = some s) (h1 : k < 100000) (hg : ∀ i s, (linesOf t)[i]? = some s → i < k → ∃ f, IsLine s f) (hb : ∀ f, ¬ IsLine s f) : ReadR t [] 0 k 3
  | good (h : t.length ≤ 4000000) (D : List Int) (h1 : (linesOf t).length ≤ 100000) (hD : D.length = 11 * (linesOf t).length) (hg : ∀ i s, (linesOf t)[i]? = some s → IsLine s (actAt D i)) : ReadR t D (linesOf t).length 0 0
/-- acts that were read so far. -/
def Good (D : List Int) (pre : List Ln) : Prop := D.length = 11 * pre.length ∧ ∀ i x, pre[i]? = some x → ¬ x.1.1 = 100000 ∧ IsLine x.1.2 (actAt D i)
structure Rd (w : World) (pre : List Ln) (W : World) : Prop where
  r : Boxed W w.heap.size 31 (.slice none 0 0)
  p : Boxed W (w.heap.size + 1) 3 (.int .i64 0)
  e : Boxed W (w.heap.size + 2) 28 (.int .i64 0)
  l : ∃ v D, Boxed W (w.heap.size + 3) 31 v ∧ W.ownsRow (w.heap.size + 5) 27 11 v pre.length (D.map (Value.int .i64)) ∧ Good D pre
  bel : Below w.heap.size w W
/-- a round has left. -/
structure Rx (w : World) (c : Code) (pre : List Ln) (W : World) : Prop where
  c : c = .ret
  o : ∃ pre' x er, pre = pre' ++ [x] ∧ (∀ y ∈ pre', ¬ y.1.1 = 100000 ∧ ∃ f, IsLine y.1.2 f) ∧ ((x.1.1 = 100000 ∧ er = 14) ∨ (¬ x.1.1 = 100000 ∧ (∀ g, ¬ IsLine x.1.2 g) ∧ er = 3)) ∧
    Boxed W w.heap.size 31 (.slice none 0 0) ∧ Boxed W (w.heap.size + 1) 3 (.int .i64 (x.1.1 : Int)) ∧ Boxed W (w.heap.size + 2) 28 (.int .i64 er)
  bel : Below w.heap.size w W
theorem boxed_kept {W W' : World} {row : Option Nat} {B : Nat} {t : TypeId} {v : Value} (h : Boxed W B t v) (hg : W.grownBy W' row) (hr : ∀ r, row = some r → ∃ o : Obj, W.heap[r]? = some o ∧ o.isCells = false) : Boxed W' B t v := by
  refine h.kept hg (fun e' => ?_)
  obtain ⟨o, ho, hc⟩ := hr B e'.symm
  rw [show W.heap[B]? = _ from h] at ho; cases ho; cases hc
theorem own_kept {W W' : World} {row : Option Nat} {base e size k : Nat} {v : Value} {xs : List Value} (h : W.ownsRow base e size v k xs) (hg : W.grownBy W' row) (hrow : ∀ r, row = some r → ∃ o : Obj, W.heap[r]? = some o ∧ o.isCells = false) : W'.ownsRow base e size v k xs := by
  refine own_grown h hg (fun g hgb e' => ?_)
  obtain ⟨o, ho, hc⟩ := hrow g e'
  rcases h.2 with ⟨rfl, _⟩ | ⟨g', cap, cur, rfl, _, hgb', _⟩
  · cases hgb
  · obtain rfl : g' = g := by simpa [Value.ownBlock] using hgb
    rw [hgb'] at ho; cases ho; cases hc
theorem rd_own (w : World) : OwnFrom (w.heap.size + 5) (fun pre W => Rd w pre W) := fun pre A B row h hg hr => by
  have hr2 : ∀ r, row = some r → ∃ o : Obj, A.heap[r]? = some o ∧ o.isCells = false := fun r e => (hr r e).2
  obtain ⟨v, D, h1, h2, h3⟩ := h.l
  exact ⟨boxed_kept h.r hg hr2, boxed_kept h.p hg hr2, boxed_kept h.e hg hr2, ⟨v, D, boxed_kept h1 hg hr2, own_kept h2 hg hr2, h3⟩, h.bel.grown hg h.bel.size (fun k e => by have := (hr k e).1; omega)⟩
theorem rx_own (w : World) (c : Code) : OwnFrom (w.heap.size + 5) (fun pre W => Rx w c pre W) := fun pre A B row h hg hr => by
  have hr2 : ∀ r, row = some r → ∃ o : Obj, A.heap[r]? = some o ∧ o.isCells = false := fun r e => (hr r e).2
  obtain ⟨pre', x, er, h1, h2, h3, h4, h5, h6⟩ := h.o
  exact ⟨h.c, ⟨pre', x, er, h1, h2, h3, boxed_kept h4 hg hr2, boxed_kept h5 hg hr2, boxed_kept h6 hg hr2⟩, h.bel.grown hg h.bel.size (fun k e => by have := (hr k e).1; omega)⟩
theorem boxed_set {W : World} {B : Nat} {t : TypeId} {v : Value} (h : Boxed W B t v) (u : Value) : Boxed (W.setCell ⟨B, 0, none⟩ u) B t u := by
  have := heap_setA (k := 0) (v := u) h
  simpa [Boxed] using this
theorem boxed_other {W : World} {B C : Nat} {t : TypeId} {v : Value} (h : Boxed W B t v) (u : Value) (hne : B ≠ C) : Boxed (W.setCell ⟨C, 0, none⟩ u) B t v := ((Turned.set C 0 W u).block B hne).trans h
theorem boxed_below {W W' : World} {B N : Nat} {t : TypeId} {v : Value} (h : Boxed W B t v) (b : Below N W W') (hB : B < N) : Boxed W' B t v := (b.block B hB).trans h
theorem keeps_below {W W' : World} (b : Below W.heap.size W W') : KeepsOthers W W' := ⟨b.size, fun k _ hk _ => (b.block k (block_lt hk)).trans hk⟩
/-- the three results stored. -/
theorem three_set {w W : World} (r : Boxed W w.heap.size 31 (.slice none 0 0)) (p : Boxed W (w.heap.size + 1) 3 (.int .i64 0)) (e : Boxed W (w.heap.size + 2) 28 (.int .i64 0)) (bel : Below w.heap.size w W) (v : Value) (pl er : Int) :
    ∃ W', W' = ((W.setCell ⟨w.heap.size, 0, none⟩ v).setCell ⟨w.heap.size + 1, 0, none⟩ (.int .i64 pl)).setCell ⟨w.heap.size + 2, 0, none⟩ (.int .i64 er) ∧
      Boxed W' w.heap.size 31 v ∧ Boxed W' (w.heap.size + 1) 3 (.int .i64 pl) ∧ Boxed W' (w.heap.size + 2) 28 (.int .i64 er) ∧ Below w.heap.size w W' ∧ KeepsOthers W W' ∧ Below w.heap.size W W' ∧ (∀ k, ¬ k = w.heap.size → ¬ k = w.heap.size + 1 → ¬ k = w.heap.size + 2 → W'.heap[k]? = W.heap[k]?) :=
  ⟨_, rfl, boxed_other (boxed_other (boxed_set r v) _ (by omega)) _ (by omega), boxed_other (boxed_set (boxed_other p _ (by omega)) _) _ (by omega), boxed_set (boxed_other (boxed_other e _ (by omega)) _ (by omega)) _,
    (Turned.set _ 0 _ _).under ((Turned.set _ 0 _ _).under ((Turned.set _ 0 _ _).under bel (by omega)) (by omega)) (by omega),
    ((KeepsOthers.setCell _ _ _).trans (KeepsOthers.setCell _ _ _)).trans (KeepsOthers.setCell _ _ _),
    (Turned.set _ 0 _ _).under ((Turned.set _ 0 _ _).under ((Turned.set _ 0 _ _).under (Below.refl _ _) (by omega)) (by omega)) (by omega),
    fun k h0 h1 h2 => ((Turned.set (w.heap.size + 2) 0 _ _).block k h2).trans (((Turned.set (w.heap.size + 1) 0 _ _).block k h1).trans ((Turned.set w.heap.size 0 _ _).block k h0))⟩
theorem Good.all {D : List Int} {pre : List Ln} (h : Good D pre) : ∀ y ∈ pre, ¬ y.1.1 = 100000 ∧ ∃ f, IsLine y.1.2 f := fun y hy => by
  obtain ⟨i, hi, rfl⟩ := List.mem_iff_getElem.1 hy
  obtain ⟨h1, h2⟩ := h.2 i _ (List.getElem?_eq_getElem hi)
  exact ⟨h1, _, h2⟩
theorem actAt_left {D E : List Int} {k n : Nat} (h : D.length = 11 * n) (hk : k < n) : ∀ o, o < 11 → actAt (D ++ E) k o = actAt D k o := fun o ho => by
  unfold actAt
  exact getD_left D E _ (by omega)
theorem actAt_right {D E : List Int} {n : Nat} (h : D.length = 11 * n) : ∀ o, o < 11 → actAt (D ++ E) n o = E.getD o 0 := fun o _ => by
  unfold actAt
  exact getD_right D E _ _ h
theorem line_of_ext {s : List UInt8} {f g : Nat → Int} (h : IsLine s f) (e : ∀ i, i < 11 → f i = g i) : IsLine s g := by
  have hc := chk_ext e h.1
  exact ⟨hc, by rw [h.2, line_ext (chk_nums hc).1 e]⟩
theorem Good.next {D : List Int} {pre : List Ln} {x : Ln} {f : Nat → Int} (h : Good D pre) (hp : ¬ x.1.1 = 100000) (hf : IsLine x.1.2 f) : Good (D ++ [f 0, f 1, f 2, f 3, f 4, f 5, f 6, f 7, f 8, f 9, f 10]) (pre ++ [x]) := by
  refine ⟨by rw [List.length_append, List.length_append, h.1]; simp; omega, fun i y hy => ?_⟩
  by_cases e : i < pre.length
  · rw [List.getElem?_append_left e] at hy
    obtain ⟨h1, h2⟩ := h.2 i y hy
    exact ⟨h1, line_of_ext h2 fun o ho => (actAt_left h.1 e o ho).symm⟩
  · have hi : i = pre.length := by
      have := (List.getElem?_eq_some_iff.1 hy).1
      simp at this
      omega
    subst hi
    have hx : x = y := by simpa using hy
    subst hx
    refine ⟨hp, line_of_ext hf fun o ho => ?_⟩
    rw [actAt_right h.1 o ho]
    revert o
    exact below11 rfl rfl rfl rfl rfl rfl rfl rfl rfl rfl rfl
theorem news11 (w : World) (f : Nat → Int) : ∀ j u, ([f 0, f 1, f 2, f 3, f 4, f 5, f 6, f 7, f 8, f 9, f 10].map (Value.int .i64))[j]? = some u → (w.alloc (.cells (aCells f) 27)).cell? ((⟨w.heap.size, 0, none⟩ : Addr).add j) = some u :=
  row_cells (T := 27) (heap_alloc_new w _)
theorem keeps_own {W W' : World} {base e size k : Nat} {v : Value} {xs : List Value} (h : W.ownsRow base e size v k xs) (hg : W.grownBy W' v.ownBlock) : KeepsOthers W W' := by
  refine KeepsOthers.of_grownBy hg (fun j o e' ho => ?_)
  rcases h.2 with ⟨rfl, _⟩ | ⟨g', cap, cur, rfl, _, hgb', _⟩
  · cases e'
  · obtain rfl : g' = j := by simpa [Value.ownBlock] using e'
    rw [hgb'] at ho; cases ho; rfl
set_option maxRecDepth 100000 in
set_option maxHeartbeats 4000000 in
theorem read_any (t : List UInt8) (ht : t.length ≤ 4000000) (w : World) (hL : LaidR w) : Calls Tryd.prog 16 #[.string (str t)] w fun e w' => ∃ v D n p er, e = .returned (.tuple #[v, .int .i64 p, .int .i64 er]) ∧ ReadR t D n p er ∧ w'.ownsRow w.heap.size 27 11 v n (D.map (Value.int .i64)) ∧ Below w.heap.size w w' := by
  obtain ⟨i2, hi2, hz20, hz21, hz22⟩ := info_of Tryd.infoAct
  refine (callsIn_wide (n := 3)).1 ?_
  refine callsIn_of_wp_marks Tryd.func16 rfl trivial ?_ rfl
  have hlen : (str t).size = t.length := str_size t
  simp only [Tryd.ntmps16, List.size_toArray, List.length_cons, List.length_nil, Nat.reduceAdd, Nat.reduceSub, Array.replicate_succ, Array.replicate_zero, List.push_toArray, List.append_toArray, List.nil_append, List.cons_append]
  gi_wp2_with (refine ⟨trivial, ?_⟩; gi_at_call 34; refine (callsIn_wide.2 (split_any _ _)).mono ?_; rintro e w' ⟨rfl, rfl⟩)
  simp only [Nat.add_assoc, Nat.reduceAdd]
  obtain ⟨W0, hW0⟩ : ∃ W0, W0 = ((((w.alloc (.cells #[.slice none 0 0] 31)).alloc (.cells #[.int .i64 0] 3)).alloc (.cells #[.int .i64 0] 28)).alloc (.cells #[.slice none 0 0] 31)).alloc (.cells #[.string (str t)] 9) := ⟨_, rfl⟩
  have hS0 : W0.heap.size = w.heap.size + 5 := by rw [hW0]; simp
  have HR0 : Rd w [] W0 ∧ W0.cell? ⟨w.heap.size + 4, 0, none⟩ = some (.string (str t)) := by
    have k1 := Boxed.new w 31 (.slice none 0 0)
    have k2 := Boxed.new (w.alloc (.cells #[.slice none 0 0] 31)) 3 (.int .i64 0)
    have k3 := Boxed.new ((w.alloc (.cells #[.slice none 0 0] 31)).alloc (.cells #[.int .i64 0] 3)) 28 (.int .i64 0)
    have k4 := Boxed.new (((w.alloc (.cells #[.slice none 0 0] 31)).alloc (.cells #[.int .i64 0] 3)).alloc (.cells #[.int .i64 0] 28)) 31 (.slice none 0 0)
    have k5 := Boxed.new ((((w.alloc (.cells #[.slice none 0 0] 31)).alloc (.cells #[.int .i64 0] 3)).alloc (.cells #[.int .i64 0] 28)).alloc (.cells #[.slice none 0 0] 31)) 9 (.string (str t))
    simp only [World.size_alloc, Nat.add_assoc, Nat.reduceAdd] at k2 k3 k4 k5
    rw [hW0]
    exact ⟨⟨(((k1.alloc _).alloc _).alloc _).alloc _, ((k2.alloc _).alloc _).alloc _, (k3.alloc _).alloc _, ⟨.slice none 0 0, [], k4.alloc _, World.ownsRow_nil _ _ _ _, rfl, fun i x h => by simp at h⟩,
      Below.next (Below.next (Below.next (Below.next (below1 w _) (below1 _ _)) (below1 _ _)) (below1 _ _)) (below1 _ _)⟩, k5.cell⟩
  rw [← hW0]
  clear hW0
  have HL : Hid (∀ u, Below w.heap.size w u → LaidR u) := veil fun u b => hL.next b
  clear hL
  refine wpIn_rangeFunc_ownG (w := W0) rfl (by omega) (gf := 44) (lb := #[.pointer (some ⟨w.heap.size + 4, 0, none⟩)]) rfl trivial (enters_of Tryd.func44 (by kernel_rfl) rfl)
    (split_stops 2 (by omega) (w.heap.size + 4) w.heap.size t ht W0 (by omega) HR0.2) belowK_t (belowK_b (by omega)) (Below.refl _ _) (fun _ => rfl)
    (fun pre W => Rd w pre W) (fun c pre W => Rx w c pre W) (by rw [hS0]; exact rd_own w) (fun c => by rw [hS0]; exact rx_own w c) HR0.1
    (fun x => { tmps := #[.string (str t), undef, .pointer (some ⟨w.heap.size, 0, none⟩), .pointer (some ⟨w.heap.size + 1, 0, none⟩), .pointer (some ⟨w.heap.size + 2, 0, none⟩), .pointer (some ⟨w.heap.size + 3, 0, none⟩), .int .i64 (x.1.1 : Int), .string (str x.1.2), undef, undef, .string (str t), .int .i64 t.length, .bool (decide (4000000 < (t.length : Int))), .string (str t), .func (.func 44) #[] #[.pointer (some ⟨w.heap.size + 4, 0, none⟩)], .int .i64 (x.1.1 : Int), .string (str x.1.2), undef, undef, undef, undef, undef, undef, undef, undef, undef, undef, undef, undef, undef, undef, undef, undef], defers := [] }) ?assign ?body ?done ?stop
  case assign =>
    intro l x W K hK
    gi_wp2
    exact hK
  case body =>
    rintro l pre x W hI hlt
    by_cases hp : x.1.1 = 100000
    case pos =>
      have c2 := hI.r.cell
      have f2 := hI.r.frozen
      have c3 := hI.p.cell
      have f3 := hI.p.frozen
      have c4 := hI.e.cell
      have f4 := hI.e.frozen
      have hpi : (x.1.1 : Int) = 100000 := by omega
      obtain ⟨v, D, hv, hrow, hG⟩ := hI.l
      gi_wp2
      obtain ⟨W', hW', g1, g2, g3, g4, g5, g6, _⟩ := three_set hI.r hI.p hI.e hI.bel (.slice none 0 0) 100000 14
      rw [← hW']
      exact ⟨g5.from _, ⟨rfl, ⟨pre, x, 14, rfl, hG.all, .inl ⟨hp, rfl⟩, g1, by rw [hpi]; exact g2, g3⟩, g4⟩⟩
    case neg =>
      have hpi : ¬ ((x.1.1 : Int) = 100000) := by omega
      by_cases hh : ∃ g, IsLine x.1.2 g
      case neg =>
        have hno : ∀ g, ¬ IsLine x.1.2 g := fun g hg => hh ⟨g, hg⟩
        have HC := actOf_no x.1.2 x.2.2 W (unveil HL W hI.bel) hno
        have HNo := veil hno
        have HI := veil hI
        clear hh hno hI HL
        gi_wp2_with (refine ⟨trivial, ?_⟩; gi_at_call 35; refine (CallsIn.inRound l (callsIn_wide.2 HC)).mono ?_; rintro e W1 ⟨f, rfl, b1⟩; clear HC; have q2 := (boxed_below (unveil HI).r b1 (unveil HI).r.lt).alloc (.cells (aCells f) 27); have q3 := (boxed_below (unveil HI).p b1 (unveil HI).p.lt).alloc (.cells (aCells f) 27); have q4 := (boxed_below (unveil HI).e b1 (unveil HI).e.lt).alloc (.cells (aCells f) 27); have c2 : (W1.alloc (.cells #[.int .i64 (f 0), .int .i64 (f 1), .int .i64 (f 2), .int .i64 (f 3), .int .i64 (f 4), .int .i64 (f 5), .int .i64 (f 6), .int .i64 (f 7), .int .i64 (f 8), .int .i64 (f 9), .int .i64 (f 10)] 27)).cell? ⟨w.heap.size, 0, none⟩ = some (.slice none 0 0) := q2.cell; have f2 : (W1.alloc (.cells #[.int .i64 (f 0), .int .i64 (f 1), .int .i64 (f 2), .int .i64 (f 3), .int .i64 (f 4), .int .i64 (f 5), .int .i64 (f 6), .int .i64 (f 7), .int .i64 (f 8), .int .i64 (f 9), .int .i64 (f 10)] 27)).frozen? ⟨w.heap.size, 0, none⟩ = false := q2.frozen; have c3 : (W1.alloc (.cells #[.int .i64 (f 0), .int .i64 (f 1), .int .i64 (f 2), .int .i64 (f 3), .int .i64 (f 4), .int .i64 (f 5), .int .i64 (f 6), .int .i64 (f 7), .int .i64 (f 8), .int .i64 (f 9), .int .i64 (f 10)] 27)).cell? ⟨w.heap.size + 1, 0, none⟩ = some (.int .i64 0) := q3.cell; have f3 : (W1.alloc (.cells #[.int .i64 (f 0), .int .i64 (f 1), .int .i64 (f 2), .int .i64 (f 3), .int .i64 (f 4), .int .i64 (f 5), .int .i64 (f 6), .int .i64 (f 7), .int .i64 (f 8), .int .i64 (f 9), .int .i64 (f 10)] 27)).frozen? ⟨w.heap.size + 1, 0, none⟩ = false := q3.frozen; have c4 : (W1.alloc (.cells #[.int .i64 (f 0), .int .i64 (f 1), .int .i64 (f 2), .int .i64 (f 3), .int .i64 (f 4), .int .i64 (f 5), .int .i64 (f 6), .int .i64 (f 7), .int .i64 (f 8), .int .i64 (f 9), .int .i64 (f 10)] 27)).cell? ⟨w.heap.size + 2, 0, none⟩ = some (.int .i64 0) := q4.cell; have f4 : (W1.alloc (.cells #[.int .i64 (f 0), .int .i64 (f 1), .int .i64 (f 2), .int .i64 (f 3), .int .i64 (f 4), .int .i64 (f 5), .int .i64 (f 6), .int .i64 (f 7), .int .i64 (f 8), .int .i64 (f 9), .int .i64 (f 10)] 27)).frozen? ⟨w.heap.size + 2, 0, none⟩ = false := q4.frozen)
        obtain ⟨v, D, hv, hrow, hG⟩ := (unveil HI).l
        obtain ⟨W', hW', g1, g2, g3, g4, g5, g6, _⟩ := three_set q2 q3 q4 (Below.next (Below.next (unveil HI).bel b1) (below1 _ _)) (.slice none 0 0) (x.1.1 : Int) 3
        rw [← hW']
        exact ⟨(((keeps_below b1).trans (KeepsOthers.alloc _ _)).trans g5).from _, ⟨rfl, ⟨pre, x, 3, rfl, hG.all, .inr ⟨hp, unveil HNo, rfl⟩, g1, g2, g3⟩, g4⟩⟩
      case pos =>
        have HC := actOf_yes x.1.2 x.2.2 W (unveil HL W hI.bel) hh
        obtain ⟨v, D, hv, hrow, hG⟩ := hI.l
        have HI := veil hI
        have HG := veil hG
        have hNl : (linesOf t).length ≤ 4000000 := by
          have h : ∀ n r, (linesF n r).length ≤ n := by
            intro n
            induction n with
            | zero => intro r; exact Nat.le_refl _
            | succ n ih =>
              intro r
              unfold linesF
              split
              · simp
              · have := ih (r.drop (lineEnd r))
                rw [List.length_cons]
                omega
          exact Nat.le_trans (h _ _) ht
        obtain ⟨a1, c1, rfl⟩ := own_form hrow
        have HB := veil hv
        have HO := veil hrow
        clear hh hI HL hG hv hrow
        gi_wp2_with (first | (refine ⟨trivial, ?_⟩; gi_at_call 35; refine (CallsIn.inRound l (callsIn_wide.2 HC)).mono ?_; rintro e W1 ⟨f, rfl, hf, b1⟩; clear HC; have HF := veil hf; clear hf; have q5 := (boxed_below (unveil HB) b1 (unveil HB).lt).alloc (.cells (aCells f) 27); have c5 : (W1.alloc (.cells #[.int .i64 (f 0), .int .i64 (f 1), .int .i64 (f 2), .int .i64 (f 3), .int .i64 (f 4), .int .i64 (f 5), .int .i64 (f 6), .int .i64 (f 7), .int .i64 (f 8), .int .i64 (f 9), .int .i64 (f 10)] 27)).cell? ⟨w.heap.size + 3, 0, none⟩ = some (.slice a1 pre.length c1) := q5.cell; have HO3 : Hid (((W1.alloc (.cells #[.int .i64 (f 0), .int .i64 (f 1), .int .i64 (f 2), .int .i64 (f 3), .int .i64 (f 4), .int .i64 (f 5), .int .i64 (f 6), .int .i64 (f 7), .int .i64 (f 8), .int .i64 (f 9), .int .i64 (f 10)] 27)).alloc (.cells #[.int .i64 (f 0), .int .i64 (f 1), .int .i64 (f 2), .int .i64 (f 3), .int .i64 (f 4), .int .i64 (f 5), .int .i64 (f 6), .int .i64 (f 7), .int .i64 (f 8), .int .i64 (f 9), .int .i64 (f 10)] 27)).ownsRow (w.heap.size + 5) 27 11 (.slice a1 pre.length c1) pre.length (D.map (Value.int .i64))) := veil (own_still (unveil HO) (fun g _ hg => (((b1.trans ((below1 _ _).mono b1.size)).trans ((below1 _ _).mono (by simp; have := b1.size; omega))).block g hg)))) | (gi_at_builtin; refine wpListIn_append_own _ rfl _ _ 31 rfl (w.heap.size + 5) 27 i2 _ 11 88 Tryd.underlying31 hi2 hz20 hz21 hz22 rfl (by decide) (.slice a1 pre.length c1) pre.length (D.map (Value.int .i64)) rfl (unveil HO3) ⟨W1.heap.size + 1, 0, none⟩ 1 1 ([f 0, f 1, f 2, f 3, f 4, f 5, f 6, f 7, f 8, f 9, f 10].map (Value.int .i64)) rfl rfl (by have := news11 (W1.alloc (.cells #[.int .i64 (f 0), .int .i64 (f 1), .int .i64 (f 2), .int .i64 (f 3), .int .i64 (f 4), .int .i64 (f 5), .int .i64 (f 6), .int .i64 (f 7), .int .i64 (f 8), .int .i64 (f 9), .int .i64 (f 10)] 27)) f; rw [World.size_alloc] at this; exact this) (ints_oneCell _ _) (by unfold maxLen; omega) (by omega) (by have h1 := b1.size; have h2 := (unveil HB).lt; have h3 := (unveil HI).bel.size; simp; omega) ?_; intro v' w5 o5 g5 _; have HKp : Hid (∀ B t u, Boxed W B t u → B < w.heap.size + 5 → Boxed w5 B t u) := veil (fun B t u hb hB => (((boxed_below hb b1 hb.lt).alloc _).alloc _).kept g5 (fun e' => by have := ((unveil HO3).lt B e'.symm).1; omega)); have HKo : Hid (KeepsOthers W w5 ∧ Below w.heap.size W w5) := veil ⟨(((keeps_below b1).trans (KeepsOthers.alloc _ _)).trans (KeepsOthers.alloc _ _)).trans (keeps_own (unveil HO3) g5), Below.grown ((((b1.mono (unveil HI).bel.size).trans ((below1 _ _).mono (by have := b1.size; have := (unveil HI).bel.size; omega))).trans ((below1 _ _).mono (by have := b1.size; have := (unveil HI).bel.size; simp; omega)))) g5 (by have := b1.size; have := (unveil HI).bel.size; simp; omega) (fun k e' => by have := ((unveil HO3).lt k e').1; omega)⟩; obtain ⟨a2, c2, rfl⟩ := own_form o5; have HO5 := veil o5; clear o5 g5; have q6 := unveil HKp _ _ _ (unveil HB) (by omega); have c6 := q6.cell; have f6 := q6.frozen; clear c5 HO3))
        have hgn := (unveil HG).next hp (unveil HF)
        refine ⟨((unveil HKo).1.trans (KeepsOthers.setCell _ _ _)).from _, (Turned.set _ 0 _ _).under (unveil HKo).2 (by omega), ⟨boxed_other (unveil HKp _ _ _ (unveil HI).r (by omega)) _ (by omega), boxed_other (unveil HKp _ _ _ (unveil HI).p (by omega)) _ (by omega), boxed_other (unveil HKp _ _ _ (unveil HI).e (by omega)) _ (by omega), ⟨_, _, boxed_set q6 _, ?_, hgn⟩, (Turned.set _ 0 _ _).under ((unveil HI).bel.trans (unveil HKo).2) (by omega)⟩⟩
        have ho := (Turned.set (w.heap.size + 3) 0 w5 (.slice a2 (pre.length + 1) c2)).own (unveil HO5) (by omega)
        rw [List.length_append, List.map_append]
        exact ho
  case done =>
    rintro D ys W hD hN hI hK
    obtain ⟨v, Ds, hv, hrow, hG⟩ := hI.l
    obtain ⟨a1, c1, rfl⟩ := own_form hrow
    have c5 := hv.cell
    have c2 := hI.r.cell
    have f2 := hI.r.frozen
    have c3 := hI.p.cell
    have f3 := hI.p.frozen
    have c4 := hI.e.cell
    have f4 := hI.e.frozen
    gi_wp2
    obtain ⟨W', hW', g1, g2, g3, g4, g5, g6, g7⟩ := three_set hI.r hI.p hI.e hI.bel (.slice a1 ys.length c1) 0 0
    rw [← hW']
    have hK' : W'.heap[D]? = some (.deferred (some [])) := (g7 D (by omega) (by omega) (by omega)).trans hK
    refine ⟨by simp, .inl ⟨_, _, rfl, run_takeDeferred hK', ?_⟩⟩
    have hgr := grownBy_putObj' W' D (.deferred none)
    have hnc : ∀ r, some D = some r → ∃ o : Obj, W'.heap[r]? = some o ∧ o.isCells = false := fun r e => by cases e; exact ⟨_, hK', rfl⟩
    have c2 := (boxed_kept g1 hgr hnc).cell
    have c3 := (boxed_kept g2 hgr hnc).cell
    have c4 := (boxed_kept g3 hgr hnc).cell
    have hl : (linesOf t).length = ys.length := by rw [hN.ls, linesOf_nil]; simp
    have hat : ∀ i s, (linesOf t)[i]? = some s → ∃ x : Ln, ys[i]? = some x ∧ x.1.2 = s := fun i s h => by
      rw [hN.ls, linesOf_nil, List.append_nil, List.getElem?_map] at h
      cases e : ys[i]? with
      | none => rw [e] at h; cases h
      | some x => rw [e] at h; exact ⟨x, e, Option.some.inj h⟩
    have h5 : ys.length ≤ 100000 := by
      by_cases hh : 100000 < ys.length
      · exact absurd (hN.no 100000 hh) (hG.2 100000 _ (List.getElem?_eq_getElem hh)).1
      · omega
    refine ⟨.tuple #[.slice a1 ys.length c1, .int .i64 0, .int .i64 0], ?_, ⟨_, Ds, ys.length, 0, 0, rfl, ?_, ?_, ?_⟩⟩
    · simp [results, Tryd.f16, go_sem, c2, c3, c4]
    · rw [← hl]
      refine .good ht Ds (by omega) (by rw [hl]; exact hG.1) (fun i s h => ?_)
      obtain ⟨x, hx, rfl⟩ := hat i s h
      exact (hG.2 i x hx).2
    · exact own_lower (ownsRow_putObj (own_still hrow (fun g hg _ => g7 g (by have := (hrow.lt g hg).1; omega) (by have := (hrow.lt g hg).1; omega) (by have := (hrow.lt g hg).1; omega))) _ hK' rfl) (by omega)
    · exact g4.trans (belowK_b (w := w) (Nat.le_refl _) _ D _ _ (by omega) hK' rfl rfl)
  case stop =>
    rintro D c pre W hD ⟨r, hN⟩ hX hK
    obtain rfl := hX.c
    obtain ⟨pre', x, er, h1, h2, h3, h4, h5, h6⟩ := hX.o
    gi_wp2
    refine ⟨by simp, .inl ⟨_, _, rfl, run_takeDeferred hK, ?_⟩⟩
    have hgr := grownBy_putObj' W D (.deferred none)
    have hnc : ∀ r, some D = some r → ∃ o : Obj, W.heap[r]? = some o ∧ o.isCells = false := fun r e => by cases e; exact ⟨_, hK, rfl⟩
    have c2 := (boxed_kept h4 hgr hnc).cell
    have c3 := (boxed_kept h5 hgr hnc).cell
    have c4 := (boxed_kept h6 hgr hnc).cell
    have hx : x.1.1 = pre'.length := by
      have := hN.no pre'.length (by rw [h1]; simp)
      simpa [h1] using this
    have hat : ∀ i s, (linesOf t)[i]? = some s → i < pre'.length → ∃ f, IsLine s f := fun i s h hi => by
      rw [hN.ls, h1, List.map_append, List.append_assoc, List.getElem?_append_left (by rw [List.length_map]; exact hi), List.getElem?_map, List.getElem?_eq_getElem hi] at h
      obtain rfl : pre'[i].1.2 = s := Option.some.inj h
      exact (h2 _ (List.getElem_mem hi)).2
    have hxl : (linesOf t)[pre'.length]? = some x.1.2 := by
      rw [hN.ls, h1, List.map_append, List.append_assoc, List.getElem?_append_right (by rw [List.length_map]; exact Nat.le_refl _)]
      simp
    refine ⟨.tuple #[.slice none 0 0, .int .i64 (x.1.1 : Int), .int .i64 er], ?_, ⟨_, [], 0, (x.1.1 : Int), er, rfl, ?_, World.ownsRow_nil _ _ _ _, ?_⟩⟩
    · simp [results, Tryd.f16, go_sem, c2, c3, c4]
    · rcases h3 with ⟨e1, rfl⟩ | ⟨e1, e2, rfl⟩
      · rw [e1]
        refine .full ht ?_ (fun i s h hi => hat i s h (by omega))
        have := (List.getElem?_eq_some_iff.1 hxl).1
        omega
      · rw [hx]
        refine .form ht pre'.length x.1.2 hxl ?_ hat e2
        by_cases hh : pre'.length < 100000
        · exact hh
        · have h7 : 100000 < pre'.length := by omega
          have h8 := (h2 _ (List.getElem_mem h7)).1
          have h9 := hN.no 100000 (by rw [h1]; simp; omega)
          simp only [h1, List.getElem_append_left h7] at h9
          exact absurd h9 h8
    · exact hX.bel.trans (belowK_b (w := w) (Nat.le_refl _) _ D _ _ (by omega) hK rfl rfl)
/-- what Read leaves: the row of acts. -/
def ReadOut (t : List UInt8) (w : World) (e : Ending) (w' : World) : Prop := ∃ v D n p er, e = .returned (.tuple #[v, .int .i64 p, .int .i64 er]) ∧ ReadR t D n p er ∧ w'.ownsRow w.heap.size 27 11 v n (D.map (Value.int .i64)) ∧ Below w.heap.size w w'
set_option maxRecDepth 100000 in
set_option maxHeartbeats 4000000 in
theorem read_size (t : List UInt8) (ht : 4000000 < t.length) (w : World) : Calls Tryd.prog 16 #[.string (str t)] w fun e w' => ReadOut t w e w' := by
  refine (callsIn_wide (n := 3)).1 ?_
  refine callsIn_of_wp_marks Tryd.func16 rfl trivial ?_ rfl
  have hlen : (str t).size = t.length := str_size t
  have hlt : (4000000 : Int) < t.length := by omega
  simp only [Tryd.ntmps16, List.size_toArray, List.length_cons, List.length_nil, Nat.reduceAdd, Nat.reduceSub, Array.replicate_succ, Array.replicate_zero, List.push_toArray, List.append_toArray, List.nil_append, List.cons_append]
  gi_wp2
  refine ⟨.tuple #[.slice none 0 0, .int .i64 0, .int .i64 1], ?_, ⟨_, [], 0, 0, 1, rfl, .size ht, World.ownsRow_nil _ _ _ _, Below.next (Below.next (below1 w _) (below1 _ _)) (below1 _ _)⟩⟩
  simp [results, Tryd.f16, go_sem]
theorem read_full (t : List UInt8) (w : World) (hL : LaidR w) : Calls Tryd.prog 16 #[.string (str t)] w fun e w' => ReadOut t w e w' := by
  by_cases ht : t.length ≤ 4000000
  · exact read_any t ht w hL
  · exact read_size t (by omega) w
end Go.Proofs.YtekbdkppnjnaaaaDoor
