/- The walk of a desk's end: the leases' messages appended, all sorted by their Nos. -/
import Derived.Test.YtcdopnkabbfooaaGreatQuV
import Derived.Test.YtcdopnkabbfooaaGreatQuM
import Derived.Deep.QuietTactic
namespace Go.Proofs.YtcdopnkabbfooaaGreat
open Go.RowKit Go.Lib Go.Sort

/-- a message's two numbers. -/
abbrev encP (x : Int × Int) : List Value := [.int .i64 x.1, .int .i64 x.2]
def pairAt (R : List Int) (i : Nat) : Int × Int := (R.getD (2 * i) 0, R.getD (2 * i + 1) 0)
def pairsOf (R : List Int) (n : Nat) : List (Int × Int) := (List.range n).map (pairAt R)
theorem pairsOf_len (R : List Int) (n : Nat) : (pairsOf R n).length = n := by simp [pairsOf]
/-- R' is R, sorted by the messages' Nos. -/
structure Ordered (R R' : List Int) (n : Nat) : Prop where
  len : R'.length = 2 * n
  perm : (pairsOf R' n).Perm (pairsOf R n)
  rise : ∀ i j, i < j → j < n → R'.getD (2 * i) 0 ≤ R'.getD (2 * j) 0
theorem ltNo (x y : Int × Int) : ltOf (fun x y : Int × Int => Lib.compareInt x.1 y.1) x y = decide (x.1 < y.1) := by
  unfold ltOf Lib.compareInt
  by_cases h1 : x.1 < y.1
  · simp [h1]
  · by_cases h2 : y.1 < x.1 <;> simp [h1, h2]
theorem swoNo : SWO (ltOf fun x y : Int × Int => Lib.compareInt x.1 y.1) where
  irrefl x := by rw [ltNo]; simp
  trans x y z h1 h2 := by rw [ltNo] at *; simp at *; omega
  ntrans x y z h1 h2 := by rw [ltNo] at *; simp at *; omega
set_option maxRecDepth 20000 in
set_option maxHeartbeats 1000000 in
theorem endCmp (x y : Int × Int) (W : World) : Calls Tryz.prog 115 #[.agg #[.int .i64 x.1, .int .i64 x.2], .agg #[.int .i64 y.1, .int .i64 y.2]] W fun e w' => e = .returned (.int .i64 (Lib.compareInt x.1 y.1)) ∧ ∃ q os', w' = grow (W.drewN q) os' := by
  have hcon := fun W' => AnyG.cmp_Compare_int Tryz.laysCompare x.1 y.1 W'
  change ∀ W', Calls Tryz.prog 116 _ _ _ at hcon
  generalize Lib.compareInt x.1 y.1 = r at hcon ⊢
  go_enter Tryz.func115, Tryz.ntmps115
  go_wp2_with (go_at_call 116; refine (hcon _).mono ?_; rintro e w' ⟨rfl, rfl⟩)
  go_ret
  exact ⟨rfl, 0, _, by rw [alloc_eq_grow, alloc_eq_grow, grow_grow]; rfl⟩
def flatOf (d : Array (Int × Int)) : List Int := (List.range (2 * d.size)).map fun j => if j % 2 = 0 then (d[j / 2]!).1 else (d[j / 2]!).2
theorem flatOf_at (d : Array (Int × Int)) (j : Nat) (h : j < 2 * d.size) : (flatOf d).getD j 0 = if j % 2 = 0 then (d[j / 2]!).1 else (d[j / 2]!).2 := by
  simp [flatOf, h]
theorem pairs_flat (d : Array (Int × Int)) : pairsOf (flatOf d) d.size = d.toList := by
  apply List.ext_getElem
  · simp [pairsOf]
  · intro i h1 h2
    have hi : i < d.size := by simpa using h2
    simp only [pairsOf, pairAt, List.getElem_map, List.getElem_range]
    rw [flatOf_at d _ (by omega), flatOf_at d _ (by omega), if_pos (by omega), if_neg (by omega), show 2 * i / 2 = i by omega, show (2 * i + 1) / 2 = i by omega]
    simp [hi]
theorem pairs_at! (R : List Int) (n i : Nat) (h : i < n) : (pairsOf R n).toArray[i]! = pairAt R i := by
  simp [pairsOf, h]
theorem order_some {w : World} {base g n c : Nat} {R : List Int} (h : w.ownsRow base 131 2 (.slice (some ⟨g, 0, none⟩) n c) n (R.map (Value.int .i64))) (hn : n ≤ 500) :
    Calls Tryz.prog 114 #[.slice (some ⟨g, 0, none⟩) n c, .func (.func 115) #[] #[]] w fun e w' => e = .returned (.tuple #[]) ∧ ∃ R', Ordered R R' n ∧ w.grownBy w' (some g) ∧ ∀ j, j < 2 * n → w'.cell? ⟨g, j, none⟩ = some (.int .i64 (R'.getD j 0)) := by
  have hcells : ∀ j u, _ → _ := fun j u hu => h.cells (g := g) rfl j u hu
  have hlen : R.length = n * 2 := by have := h.1; simpa using this
  have hgl := (h.lt g rfl).2
  rcases h.2 with ⟨h0, _⟩ | ⟨g', cap, cur, e, _, hg, _⟩
  · cases h0
  cases e
  have cell : ∀ j, j < n * 2 → w.cell? ⟨g, j, none⟩ = some (.int .i64 (R.getD j 0)) := fun j hj => by
    have := hcells j (.int .i64 (R.getD j 0)) (by simp [List.getElem?_eq_getElem (show j < R.length by omega)])
    simpa [Addr.add_mid] using this
  have eg : ∀ args w, (callFunc 115 args).run Tryz.prog w = .ok (.enter 115 args) w := enters_of Tryz.func115 (by kernel_rfl) rfl
  have hsz : (pairsOf R n).toArray.size = n := by simp [pairsOf]
  have hH : HoldsK encP 2 w g 0 (pairsOf R n).toArray := by
    intro j hj
    rw [size_flatK, hsz] at hj
    refine ⟨?_, by simp [World.frozen?, hg]⟩
    rw [Nat.zero_add, cell j hj, get_flatK _ _ _ _ (by rw [hsz]; exact hj), pairs_at! R n _ (by omega)]
    rcases Nat.mod_two_eq_zero_or_one j with hm | hm
    · rw [hm]; simp only [id, encP, pairAt]; rw [show 2 * (j / 2) = j by omega]; rfl
    · rw [hm]; simp only [id, encP, pairAt]; rw [show 2 * (j / 2) + 1 = j by omega]; rfl
  have hcon := AnyQ.slices_SortFunc Tryz.laysOrder 2 Tryz.isAgg131 Tryz.sizeOf131 encP (fun _ => rfl) (fun x v hv => by simp [encP] at hv; rcases hv with rfl | rfl <;> rfl) (fun x y => Lib.compareInt x.1 y.1) swoNo 115 #[] g 0 c (pairsOf R n).toArray w eg (fun _ _ _ _ x y => endCmp x y _) hH hgl (by rw [hsz]; omega)
  rw [hsz] at hcon
  refine (show Calls Tryz.prog 114 _ _ _ from hcon).mono ?_
  rintro e w' ⟨rfl, d', m, os, ⟨ps, _, pp⟩, so, rfl⟩
  rw [hsz] at ps
  have hK := holdsK_sortWorldK encP 2 w g 0 m (pairsOf R n).toArray d' os hgl hH (by rw [ps, hsz])
  refine ⟨rfl, flatOf d', ⟨by simp [flatOf, ps], ?_, ?_⟩, ?_, ?_⟩
  · have e1 := pairs_flat d'
    rw [ps] at e1
    rw [e1]
    have e2 : (d'.extract 0 n).toList = d'.toList := by rw [← ps]; simp
    have e3 : ((pairsOf R n).toArray.extract 0 n).toList = pairsOf R n := by simp [List.take_of_length_le (Nat.le_of_eq (pairsOf_len R n))]
    rw [e2, e3] at pp
    exact pp
  · intro i j hij hj
    have := so i j (Nat.zero_le _) hij hj
    rw [ltNo] at this
    rw [flatOf_at d' _ (by omega), flatOf_at d' _ (by omega), if_pos (by omega), if_pos (by omega), show 2 * i / 2 = i by omega, show 2 * j / 2 = j by omega]
    simp at this
    exact this
  · refine ⟨rfl, rfl, rfl, ?_, fun k hk hne => ?_⟩
    · simp [sortWorldK, putRowK, Go.Sort.putRow, Go.Sort.mapBlock, Go.Sort.ahead]
    · have : g ≠ k := fun e => hne (by rw [e])
      show (grow (putRowK encP 2 (Go.Sort.ahead w m) g 0 d') os).heap[k]? = w.heap[k]?
      rw [heap_grow_old _ _ (by simp [putRowK, Go.Sort.putRow, Go.Sort.mapBlock, Go.Sort.ahead]; exact hk)]
      simp [putRowK, Go.Sort.putRow, Go.Sort.mapBlock, Go.Sort.ahead, Array.getElem?_modify, this]
  · intro j hj
    have := (hK j (by rw [size_flatK, ps]; omega)).1
    rw [Nat.zero_add] at this
    rw [this, get_flatK _ _ _ _ (by rw [ps]; omega), flatOf_at d' j (by omega)]
    rcases Nat.mod_two_eq_zero_or_one j with hm | hm
    · rw [hm]; simp [encP]
    · rw [hm]; simp [encP]
theorem ret_end {W : World} {R : Nat} {c he no bd : Int} {b : Bool} {tmps : Array Value} (h : ansBlock W R c he no bd) (t : tmps[4]? = some (.pointer (some ⟨R, 0, none⟩))) (tb : tmps[5]? = some (.bool b)) :
    (results Tryz.f99 tmps).run Tryz.prog W = .ok (.tuple #[ansVal c he no bd, .bool b]) W := by
  obtain ⟨k0, k1, k2, k3⟩ := h.cells
  simp [results, Tryz.results99, go_sem, k0, k1, k2, k3, t, tb]
/-- the messages of the first k leases. -/
def msgsTo (L : List Int) : Nat → List Int
  | 0 => []
  | k + 1 => msgsTo L k ++ [L.getD (4 * k + 2) 0, L.getD (4 * k + 3) 0]
theorem msgsTo_wf {L : List Int} (wL : ∀ u ∈ L, (Lit.int .i64 u).wf = true) : ∀ k, ∀ u ∈ msgsTo L k, (Lit.int .i64 u).wf = true
  | 0, u, hu => by cases hu
  | k + 1, u, hu => by
    simp only [msgsTo, List.mem_append, List.mem_cons, List.not_mem_nil, or_false] at hu
    rcases hu with hu | rfl | rfl
    · exact msgsTo_wf wL k u hu
    · exact getD_fits L wL _
    · exact getD_fits L wL _
theorem Ordered.wf {X R' : List Int} {n : Nat} (h : Ordered X R' n) (wX : ∀ u ∈ X, (Lit.int .i64 u).wf = true) : ∀ u ∈ R', (Lit.int .i64 u).wf = true := by
  intro u hu
  obtain ⟨j, hj, rfl⟩ := List.mem_iff_getElem.1 hu
  have hl := h.len
  have hm : pairAt R' (j / 2) ∈ pairsOf R' n := List.mem_map.2 ⟨j / 2, by simp; omega, rfl⟩
  obtain ⟨i, _, hi⟩ := List.mem_map.1 (h.perm.mem_iff.1 hm)
  simp only [pairAt, Prod.mk.injEq] at hi
  rcases Nat.mod_two_eq_zero_or_one j with hm | hm
  · have : R'[j] = R'.getD (2 * (j / 2)) 0 := by rw [show 2 * (j / 2) = j by omega]; simp [hj]
    rw [this, ← hi.1]
    exact getD_fits X wX _
  · have : R'[j] = R'.getD (2 * (j / 2) + 1) 0 := by rw [show 2 * (j / 2) + 1 = j by omega]; simp [hj]
    rw [this, ← hi.2]
    exact getD_fits X wX _
theorem order_any {w : World} {base n c : Nat} {a : Option Addr} {X : List Int} (h : w.ownsRow base 131 2 (.slice a n c) n (X.map (Value.int .i64))) (hn : n ≤ 500) (wX : ∀ u ∈ X, (Lit.int .i64 u).wf = true) :
    Calls Tryz.prog 114 #[.slice a n c, .func (.func 115) #[] #[]] w fun e w' => e = .returned (.tuple #[]) ∧ ∃ R', Ordered X R' n ∧ w.grownBy w' (Value.slice a n c).ownBlock ∧ RowK .i64 w' a (2 * n) R' ∧ (a = none → c = 0) ∧ n ≤ c := by
  have hlen : X.length = n * 2 := by have := h.1; simpa using this
  rcases h.2 with ⟨h0, h1⟩ | ⟨g, cap, cur, e, _, hg, hc, _⟩
  · subst h1
    cases h0
    have hX : X = [] := List.length_eq_zero_iff.1 hlen
    refine (show Calls Tryz.prog 114 _ _ _ from AnyF.slices_SortFunc_none Tryz.laysOrder none 0 _ w).mono ?_
    rintro e w' ⟨rfl, rfl⟩
    exact ⟨rfl, [], ⟨rfl, by simp [pairsOf], fun i j _ h => absurd h (Nat.not_lt_zero _)⟩, World.grownBy.refl _ _, RowK.nil _ _ _, fun _ => rfl, Nat.le_refl _⟩
  · cases e
    have hgl := (h.lt g rfl).2
    refine (order_some h hn).mono ?_
    rintro e w' ⟨rfl, R', o, gr, cell⟩
    refine ⟨rfl, R', o, gr, ⟨o.len, o.wf wX, fun j hj => ⟨g, 0, rfl, by have := gr.size; omega, by rw [Nat.zero_add]; exact cell j hj⟩⟩, (fun h => by cases h), hc⟩
/-- a desk of which the messages are sorted. -/
structure Eo (w wx : World) (base B : Nat) (ep nx gv : Int) (a : Option Addr) (n c : Nat) (R' : List Int) (lv : Value) (ws : Nat → Value) (A : Nat) : Prop where
  d : dBlock wx B ep nx gv (.slice a n c) lv ws
  row : RowK .i64 wx a (2 * n) R'
  off : ∀ x, a = some x → x.block ≠ B ∧ x.block ≠ A ∧ base ≤ x.block
  le : n ≤ c
  nil : a = none → c = 0
  a : ansBlock wx A 0 0 0 0
  bel : Below base w wx
  up : base ≤ B
section
variable {w wx wy : World} {base B : Nat} {ep nx gv : Int} {a a2 : Option Addr} {n ln c c2 : Nat} {X R' L : List Int} {lv : Value} {ws : Nat → Value} {A : Nat} {wt : Nat → Int} {wz : Nat → Nat → Bool}
theorem Pc.sorted (C : Pc w wx base B ep nx gv a n c X a2 ln c2 L ws A) (gr : wx.grownBy wy (Value.slice a n c).ownBlock) (row : RowK .i64 wy a (2 * n) R') (hnil : a = none → c = 0) (hle : n ≤ c) : Eo w wy base B ep nx gv a n c R' (.slice a2 ln c2) ws A := by
  have keep : ∀ Y o, wx.heap[Y]? = some o → (Value.slice a n c).ownBlock ≠ some Y → wy.heap[Y]? = some o := by
    intro Y o hY hne
    rw [gr.block Y (block_lt hY) (fun e => hne e.symm)]
    exact hY
  have oB := own_off C.o1 C.d (by decide)
  have oA := own_off C.o1 C.a (by decide)
  refine ⟨keep B _ C.d (fun e => oB B e rfl), row, fun x hx => ?_, hle, hnil, keep A _ C.a (fun e => oA A e rfl), C.bel.grown gr (by have := C.d.lt; have := C.up; omega) (fun q hq => (C.o1.lt q hq).1), C.up⟩
  subst hx
  exact ⟨oB _ rfl, oA _ rfl, (C.o1.lt _ rfl).1⟩
theorem Eo.turn (E : Eo w wx base B ep nx gv a n c R' lv ws A) (t : Turned B wx wy) {ep' nx' gv' : Int} {lv' : Value} (d : dBlock wy B ep' nx' gv' (.slice a n c) lv' ws) : Eo w wy base B ep' nx' gv' a n c R' lv' ws A :=
  ⟨d, t.row E.row (fun x hx _ => (E.off x hx).1), E.off, E.le, E.nil, E.a.turned t (types_apart E.a E.d (by decide)), t.under E.bel E.up, E.up⟩
theorem Eo.out (E : Eo w wx base B ep nx gv a n c R' (.slice none 0 0) ws A) (t : Turned A wx wy) (hW : Wins ws wt wz) (hA : base ≤ A) : DeskOut wy base B ep nx gv n R' 0 [] wt wz ∧ Below base w wy := by
  have nA : A ≠ B := types_apart E.a E.d (by decide)
  exact ⟨⟨a, c, none, 0, ws, E.d.turned t (fun e => nA e.symm), t.row E.row (fun x hx _ => (E.off x hx).2.1), RowK.nil _ _ _, E.le, Nat.le_refl _, E.nil, fun _ => rfl, hW, fun x hx => (E.off x hx).2.2, fun x hx => by cases hx⟩, t.under E.bel hA⟩
end
set_option maxRecDepth 20000 in
set_option maxHeartbeats 4000000 in
theorem end_any (base B : Nat) (ep nx gv : Int) (a1 : Option Addr) (rn c1 : Nat) (a2 : Option Addr) (ln c2 : Nat) (R L : List Int) (ws : Nat → Value) (wt : Nat → Int) (wz : Nat → Nat → Bool) (k p i b he hn : Int) (w : World) (D : Desk w base B ep nx gv a1 rn c1 a2 ln c2 R L ws) (hW : Wins ws wt wz) (hbase : base ≤ w.heap.size) (hs : rn + ln ≤ 500) (h0 : 0 ≤ ep) (h1 : ep ≤ 1048576)
    (Q : Value → World → Prop) (HF : Hid (ep = 1048576 → ∀ w', Below w.heap.size w w' → Q (.tuple #[ansVal 14 0 0 0, .bool false]) w'))
    (HY : Hid (ep < 1048576 → ∀ R' w', Ordered (R ++ msgsTo L ln) R' (rn + ln) → DeskOut w' base B (ep + 1) nx 0 (rn + ln) R' 0 [] wt wz → Below base w w' → Q (.tuple #[ansVal 0 0 0 0, .bool true]) w')) :
    Calls Tryz.prog 99 #[.pointer (some ⟨B, 0, none⟩), evVal k p i b he hn] w fun e w' => ∃ v, e = .returned v ∧ Q v w' := by
  obtain ⟨i1, hi1, hz10, hz11, hz12⟩ := info_of Tryz.infoMsg
  obtain ⟨d0, d1, d2, d3, d4⟩ := D.d.heads
  have hBl := D.d.lt
  have hBn : B ≠ w.heap.size := by omega
  have hBn2 : B ≠ w.heap.size + 1 := by omega
  by_cases hf : ep = 1048576
  case pos =>
    clear D
    go_enter Tryz.func99, Tryz.ntmps99
    go_wp2_with (go_at_call 110; refine (unchanged_any _ _).mono ?_; rintro e w1 ⟨rfl, b1⟩; obtain ⟨z1, b2⟩ := ev_ans b1; obtain ⟨y0, y1, y2, y3⟩ := z1.cells; have yf := z1.free; have HZ := veil z1; have HB := veil b2; clear b1 z1 b2)
    exact bodyPost_ret (ret_end ((unveil HZ).store _ 0 0 0) rfl rfl) rfl ⟨_, rfl, unveil HF (by simp [hf]) _ ((ans_turned w1 (w.heap.size + 1) _ 0 0 0).under (unveil HB) (Nat.le_succ _))⟩
  case neg =>
    go_enter Tryz.func99, Tryz.ntmps99
    go_wp2_with fail
    obtain ⟨W2, hW2, z2, b2, s2, -⟩ := two_ev w k p i b he hn
    rw [← hW2, show (ep == 1048576) = false by simpa using hf]
    clear hW2
    have D2 := D.next b2
    have C2 : Pc w W2 base B ep nx gv a1 rn c1 R a2 ln c2 L ws (w.heap.size + 1) := ⟨D2.d, D2.o1, D2.o2, z2, b2.mono hbase, D2.up⟩
    have HD := veil D
    have wL := D.wL
    clear d0 d1 d2 d3 d4 hBn hBn2 D D2 z2 b2 s2
    go_loopw [23] (fun t wr => ∃ (m : Nat) (a : Option Addr) (c : Nat), m ≤ ln ∧ t = .int .i64 m ∧ Pc w wr base B ep nx gv a (rn + m) c (R ++ msgsTo L m) a2 ln c2 L ws (w.heap.size + 1)) (fun t _ => ln - (intOf t).toNat)
    case atStart => exact ⟨0, a1, c1, by omega, rfl, by simpa [msgsTo] using C2⟩
    case round =>
      obtain ⟨m, a, c, hm, rfl, C⟩ := hrel
      clear C2
      by_cases hlt : m < ln
      · obtain ⟨_, _, e2, r2, _, _, _, _⟩ := RowK.ofMany C.o2 wL
        cases e2
        obtain ⟨g, off, rfl⟩ := r2.form (by omega)
        obtain ⟨x0, hx0⟩ : ∃ x, x = L.getD (4 * m) 0 := ⟨_, rfl⟩
        obtain ⟨x1, hx1⟩ : ∃ x, x = L.getD (4 * m + 1) 0 := ⟨_, rfl⟩
        obtain ⟨x2, hx2⟩ : ∃ x, x = L.getD (4 * m + 2) 0 := ⟨_, rfl⟩
        obtain ⟨x3, hx3⟩ : ∃ x, x = L.getD (4 * m + 3) 0 := ⟨_, rfl⟩
        have k0 : wr.cell? ⟨g, off + m * 4, none⟩ = some (.int .i64 x0) := by rw [Nat.mul_comm m 4, hx0]; exact r2.at (4 * m) (by omega)
        have k1 : wr.cell? ⟨g, off + m * 4 + 1, none⟩ = some (.int .i64 x1) := by rw [Nat.mul_comm m 4, hx1]; exact r2.at (4 * m + 1) (by omega)
        have k2 : wr.cell? ⟨g, off + m * 4 + 2, none⟩ = some (.int .i64 x2) := by rw [Nat.mul_comm m 4, hx2]; exact r2.at (4 * m + 2) (by omega)
        have k3 : wr.cell? ⟨g, off + m * 4 + 3, none⟩ = some (.int .i64 x3) := by rw [Nat.mul_comm m 4, hx3]; exact r2.at (4 * m + 3) (by omega)
        have hgl : g < wr.heap.size := r2.lt (by omega)
        have hgn : g ≠ wr.heap.size := by omega
        have lB := C.d.lt
        have nB : B ≠ wr.heap.size := by omega
        have hT : Hid (R ++ msgsTo L (m + 1) = (R ++ msgsTo L m) ++ [x2, x3]) := veil (by rw [hx2, hx3]; simp [msgsTo])
        have HC := veil C
        clear C r2 hx0 hx1 hx2 hx3
        go_wp2_with fail
        obtain ⟨W3, hW3, b3, s3, e3⟩ : ∃ W3, W3 = wr.alloc (.cells #[.int .i64 x0, .int .i64 x1, .int .i64 x2, .int .i64 x3] 133) ∧ Below wr.heap.size wr W3 ∧ W3.heap.size = wr.heap.size + 1 ∧ W3.heap[wr.heap.size]? = some (.cells #[.int .i64 x0, .int .i64 x1, .int .i64 x2, .int .i64 x3] 133 (0, 0)) := ⟨_, rfl, below1 _ _, by simp, heap_alloc_new wr _⟩
        rw [← hW3]
        have q2 : W3.cell? ⟨wr.heap.size, 2, none⟩ = some (.int .i64 x2) := by simp [World.cell?, e3]
        have q3 : W3.cell? ⟨wr.heap.size, 3, none⟩ = some (.int .i64 x3) := by simp [World.cell?, e3]
        have hbr : base ≤ wr.heap.size := by have := (unveil HC).up; omega
        have C3 := (unveil HC).next b3 hbr
        obtain ⟨d0, d1, d2, d3, d4⟩ := C3.d.heads
        have df := C3.d.free
        have lB3 := C3.d.lt
        have nB3 : B ≠ W3.heap.size := by omega
        have nw3 : wr.heap.size ≠ W3.heap.size := by omega
        have lw3 : wr.heap.size < W3.heap.size := by omega
        have hb3 : base ≤ W3.heap.size := by omega
        have b7 : Below W3.heap.size W3 (W3.alloc (.cells #[.int .i64 x2, .int .i64 x3] 131)).drew := Below.next (below1 _ _) ⟨rfl, rfl, rfl, Nat.le_refl _, fun _ _ => rfl⟩
        have HO7 : Hid ((W3.alloc (.cells #[.int .i64 x2, .int .i64 x3] 131)).drew.ownsRow base 131 2 (.slice a (rn + m) c) (rn + m) ((R ++ msgsTo L m).map (Value.int .i64))) := veil (own_still C3.o1 (fun q _ hq => b7.block q hq))
        have HC3 := veil C3
        have HB7 := veil b7
        clear hW3 b3 s3 e3 k0 k1 k2 k3 HC C3 b7 lB nB hgl hgn
        generalize hXs : R ++ msgsTo L m = Xs at HO7 HC3 hT
        have HXs := veil hXs
        clear hXs
        go_region_law (refine step_append_many rfl (.tmp 32) (.tmp 35) 85 rfl base 131 i1 _ 2 16 Tryz.underlying85 hi1 hz10 hz11 hz12 rfl (by decide) (.slice a (rn + m) c) (rn + m) Xs rfl (unveil HO7) ⟨W3.heap.size, 0, none⟩ 1 1 [x2, x3] rfl rfl (news2 _ _ _ _) (by unfold maxLen; omega) (by omega) (by simp; omega) ?_; intro v' w7 own7 grow7; obtain ⟨a3, c3, rfl⟩ := own_form own7; obtain ⟨e7, C7⟩ := (unveil HC3).ready (unveil HB7) grow7 [x2, x3] hb3 own7; have f3 := e7.free; have k3 := e7.heads.2.2.2.1; rw [← unveil hT] at C7; have HC7 : Hid (Pc w (w7.setCell ⟨B, 3, none⟩ (.slice a3 (rn + m + 1) c3)) base B ep nx gv a3 (rn + (m + 1)) c3 (R ++ msgsTo L (m + 1)) (some ⟨g, off, none⟩) ln c2 L ws (w.heap.size + 1)) := veil C7; clear C7 e7 own7 grow7)
        all_goals go_wp2
        all_goals
          go_roundw
          case rel => exact ⟨m + 1, _, _, by omega, by go_num, unveil HC7⟩
          case measure => simp [intOf]; omega
      · obtain rfl : m = ln := by omega
        obtain ⟨d0, d1, d2, d3, d4⟩ := C.d.heads
        have df := C.d.free
        have HC := veil C
        have wX : ∀ u ∈ R ++ msgsTo L m, (Lit.int .i64 u).wf = true := by
          intro u hu
          rcases List.mem_append.1 hu with hu | hu
          · exact (unveil HD).wR u hu
          · exact msgsTo_wf wL m u hu
        clear C
        go_wp2_with fail
        refine (order_any (unveil HC).o1 hs wX).mono ?_
        rintro e w5 ⟨rfl, R', o5, g5, r5, n5, l5⟩
        have E5 := (unveil HC).sorted g5 r5 n5 l5
        obtain ⟨u0, u1, u2, u3, u4⟩ := E5.d.heads
        have uf := E5.d.free
        obtain ⟨y0, y1, y2, y3⟩ := E5.a.cells
        have yf := E5.a.free
        have nA : w.heap.size + 1 ≠ B := types_apart E5.a E5.d (by decide)
        have HE5 := veil E5
        have HO5 := veil o5
        clear d0 d1 d2 d3 d4 df HC wX g5 r5 E5 o5 HD n5 l5
        go_wp2
        have E6 := (unveil HE5).turn (Turned.set B 4 w5 (.slice none 0 0)) ((unveil HE5).d.leases _)
        have E7 := E6.turn (Turned.set B 0 _ (.int .i64 (ep + 1))) (E6.d.epoch _)
        have E8 := E7.turn (Turned.set B 2 _ (.int .i64 0)) (E7.d.given _)
        obtain ⟨D9, B9⟩ := E8.out (ans_turned _ (w.heap.size + 1) 0 0 0 0) hW (by omega)
        exact bodyPost_ret (ret_end (E8.a.store 0 0 0 0) rfl rfl) rfl ⟨_, rfl, unveil HY (by omega) R' _ (unveil HO5) D9 B9⟩
end Go.Proofs.YtcdopnkabbfooaaGreat
