/- Texts put together: PkO, QkO, QkE, QkF. -/
import Derived.Test.YtlfecmkpafgcmaaBase
import Derived.Test.YtlfecmkpafgcmaaProg
import Derived.Deep.Slices
import Derived.Test.YtlfecmkpafgcmaaQAll
import Derived.Deep.CutRange
import Derived.Deep.RegionHeld3
namespace Go.Proofs.Ytlfecmkpafgcmaa
open Go.ChangeShapes Go.WideShapes Go.ChangeAt Go.RowKit

section
variable {H : Type} {enc : TypeId × Value → H} {P : Program} {W : World} {base : Nat} {sp : Nat → Bool} {held : Bool}

/-- a list of cells that are all integers of kind i64. -/
def Ints (cs : List Value) : Prop := ∃ zs : List Int, cs = zs.map (Value.int .i64) ∧ ∀ z ∈ zs, (Lit.int .i64 z).wf = true

theorem Ints.nil : Ints [] := ⟨[], rfl, by simp⟩
theorem Ints.app {a b : List Value} (ha : Ints a) (hb : Ints b) : Ints (a ++ b) := by
  obtain ⟨x, rfl, hx⟩ := ha
  obtain ⟨y, rfl, hy⟩ := hb
  refine ⟨x ++ y, by simp, ?_⟩
  intro z hz
  rcases List.mem_append.1 hz with h | h
  · exact hx z h
  · exact hy z h

theorem ints_int {t : TypeId} {fuel : Nat} {cs : List Value} {x : DataW H × List MemPlace} (ht : P.underlying t = some (.int .i64)) (h : DataW.trod enc P W base sp held fuel t cs = some x) : Ints cs := by
  obtain ⟨n, rfl, _, hw⟩ := DataW.trod_int ht h
  exact ⟨[n], rfl, by simpa using hw⟩

theorem take_split (cs : List Value) (o n : Nat) : cs.drop o = (cs.drop o).take n ++ cs.drop (o + n) := by
  rw [← List.drop_drop]; exact (List.take_append_drop n (cs.drop o)).symm

/-- one field more from the front. -/
theorem ints_step {cs : List Value} {o n : Nat} (h1 : Ints ((cs.drop o).take n)) (h2 : Ints (cs.drop (o + n))) : Ints (cs.drop o) := by
  rw [take_split cs o n]; exact h1.app h2
theorem ints_end {cs : List Value} {o : Nat} (h : cs.length ≤ o) : Ints (cs.drop o) := by
  rw [List.drop_eq_nil_of_le h]; exact Ints.nil
end

theorem cells_int : Try.prog.cellsOf 3 = 1 := by kernel_rfl
theorem cells_handle : Try.prog.cellsOf 48 = 2 := by kernel_rfl
theorem cells_event : Try.prog.cellsOf 61 = 6 := by kernel_rfl
theorem cells_record : Try.prog.cellsOf 63 = 10 := by kernel_rfl

section
variable {H : Type} {enc : TypeId × Value → H} {W : World} {base : Nat} {sp : Nat → Bool} {held : Bool}

theorem ints_handle {fuel : Nat} {cs : List Value} {x : DataW H × List MemPlace} (h : DataW.trod enc Try.prog W base sp held fuel 48 cs = some x) : Ints cs := by
  obtain ⟨xs, n, _, _, hl, hlen, hf⟩ := DataW.trod_struct Try.underlying48 h
  rw [cells_handle] at hl
  match xs, hlen with
  | [y0, y1], _ =>
    have f0 : DataW.trod enc Try.prog W base sp held n 3 ((cs.drop 0).take (Try.prog.cellsOf 3)) = some y0 := hf 0 _ rfl
    rw [cells_int] at f0
    have f1 : DataW.trod enc Try.prog W base sp held n 3 ((cs.drop 1).take (Try.prog.cellsOf 3)) = some y1 := hf 1 _ rfl
    rw [cells_int] at f1
    exact ints_step (o := 0) (n := 1) (ints_int Try.underlying3 f0) (ints_step (o := 1) (n := 1) (ints_int Try.underlying3 f1) (ints_end (by omega)))

theorem ints_event {fuel : Nat} {cs : List Value} {x : DataW H × List MemPlace} (h : DataW.trod enc Try.prog W base sp held fuel 61 cs = some x) : Ints cs := by
  obtain ⟨xs, n, _, _, hl, hlen, hf⟩ := DataW.trod_struct Try.underlying61 h
  rw [cells_event] at hl
  match xs, hlen with
  | [y0, y1, y2, y3, y4], _ =>
    have f0 : DataW.trod enc Try.prog W base sp held n 3 ((cs.drop 0).take (Try.prog.cellsOf 3)) = some y0 := hf 0 _ rfl
    rw [cells_int] at f0
    have f1 : DataW.trod enc Try.prog W base sp held n 3 ((cs.drop 1).take (Try.prog.cellsOf 3)) = some y1 := hf 1 _ rfl
    rw [cells_int] at f1
    have f2 : DataW.trod enc Try.prog W base sp held n 3 ((cs.drop 2).take (Try.prog.cellsOf 3)) = some y2 := hf 2 _ rfl
    rw [cells_int] at f2
    have f3 : DataW.trod enc Try.prog W base sp held n 3 ((cs.drop 3).take (Try.prog.cellsOf 3)) = some y3 := hf 3 _ rfl
    rw [cells_int] at f3
    have f4 : DataW.trod enc Try.prog W base sp held n 48 ((cs.drop 4).take (Try.prog.cellsOf 48)) = some y4 := hf 4 _ rfl
    rw [cells_handle] at f4
    exact ints_step (o := 0) (n := 1) (ints_int Try.underlying3 f0) (ints_step (o := 1) (n := 1) (ints_int Try.underlying3 f1) (ints_step (o := 2) (n := 1) (ints_int Try.underlying3 f2)
      (ints_step (o := 3) (n := 1) (ints_int Try.underlying3 f3) (ints_step (o := 4) (n := 2) (ints_handle f4) (ints_end (by omega))))))

theorem ints_record {fuel : Nat} {cs : List Value} {x : DataW H × List MemPlace} (h : DataW.trod enc Try.prog W base sp held fuel 63 cs = some x) : Ints cs := by
  obtain ⟨xs, n, _, _, hl, hlen, hf⟩ := DataW.trod_struct Try.underlying63 h
  rw [cells_record] at hl
  match xs, hlen with
  | [y0, y1, y2, y3, y4], _ =>
    have f0 : DataW.trod enc Try.prog W base sp held n 3 ((cs.drop 0).take (Try.prog.cellsOf 3)) = some y0 := hf 0 _ rfl
    rw [cells_int] at f0
    have f1 : DataW.trod enc Try.prog W base sp held n 3 ((cs.drop 1).take (Try.prog.cellsOf 3)) = some y1 := hf 1 _ rfl
    rw [cells_int] at f1
    have f2 : DataW.trod enc Try.prog W base sp held n 3 ((cs.drop 2).take (Try.prog.cellsOf 3)) = some y2 := hf 2 _ rfl
    rw [cells_int] at f2
    have f3 : DataW.trod enc Try.prog W base sp held n 3 ((cs.drop 3).take (Try.prog.cellsOf 3)) = some y3 := hf 3 _ rfl
    rw [cells_int] at f3
    have f4 : DataW.trod enc Try.prog W base sp held n 61 ((cs.drop 4).take (Try.prog.cellsOf 61)) = some y4 := hf 4 _ rfl
    rw [cells_event] at f4
    exact ints_step (o := 0) (n := 1) (ints_int Try.underlying3 f0) (ints_step (o := 1) (n := 1) (ints_int Try.underlying3 f1) (ints_step (o := 2) (n := 1) (ints_int Try.underlying3 f2)
      (ints_step (o := 3) (n := 1) (ints_int Try.underlying3 f3) (ints_step (o := 4) (n := 6) (ints_event f4) (ints_end (by omega))))))

set_option maxRecDepth 20000 in
theorem open_Event {r : Reach} {b0 : Nat} {v : Value} {d : DataW H} {p : List MemPlace} (hv : Value.okWide Try.prog W r b0 61 v) (h : DataW.Trod enc Try.prog W base sp held 61 v d p) :
    ∃ x0 x1 x2 x3 x4 x5 : Int, v = .agg #[.int .i64 x0, .int .i64 x1, .int .i64 x2, .int .i64 x3, .int .i64 x4, .int .i64 x5] ∧ ∀ z ∈ [x0, x1, x2, x3, x4, x5], (Lit.int .i64 z).wf = true := by
  obtain ⟨cs, n, rfl, hsz, hf⟩ := open_struct Try.underlying61 hv h
  rw [cells_event] at hsz
  obtain ⟨zs, hz, hw⟩ := ints_event hf
  have hl : zs.length = 6 := by have := congrArg List.length hz; simp at this; omega
  match zs, hl with
  | [x0, x1, x2, x3, x4, x5], _ => exact ⟨x0, x1, x2, x3, x4, x5, by rw [← Array.toArray_toList (xs := cs), hz]; rfl, hw⟩

set_option maxRecDepth 20000 in
theorem open_Record {r : Reach} {b0 : Nat} {v : Value} {d : DataW H} {p : List MemPlace} (hv : Value.okWide Try.prog W r b0 63 v) (h : DataW.Trod enc Try.prog W base sp held 63 v d p) :
    ∃ x0 x1 x2 x3 x4 x5 x6 x7 x8 x9 : Int, v = .agg #[.int .i64 x0, .int .i64 x1, .int .i64 x2, .int .i64 x3, .int .i64 x4, .int .i64 x5, .int .i64 x6, .int .i64 x7, .int .i64 x8, .int .i64 x9] ∧ ∀ z ∈ [x0, x1, x2, x3, x4, x5, x6, x7, x8, x9], (Lit.int .i64 z).wf = true := by
  obtain ⟨cs, n, rfl, hsz, hf⟩ := open_struct Try.underlying63 hv h
  rw [cells_record] at hsz
  obtain ⟨zs, hz, hw⟩ := ints_record hf
  have hl : zs.length = 10 := by have := congrArg List.length hz; simp at this; omega
  match zs, hl with
  | [x0, x1, x2, x3, x4, x5, x6, x7, x8, x9], _ => exact ⟨x0, x1, x2, x3, x4, x5, x6, x7, x8, x9, by rw [← Array.toArray_toList (xs := cs), hz]; rfl, hw⟩
end
end Go.Proofs.Ytlfecmkpafgcmaa

namespace Go.Proofs.Ytlfecmkpafgcmaa
open Go.ChangeShapes Go.WideShapes Go.ChangeAt Go.RowKit

theorem cells_deed' : Try.prog.cellsOf 46 = 4 := by kernel_rfl

section
variable {H : Type} {enc : TypeId × Value → H} {W : World}

theorem ints_deed {base : Nat} {sp : Nat → Bool} {held : Bool} {fuel : Nat} {cs : List Value} {x : DataW H × List MemPlace} (h : DataW.trod enc Try.prog W base sp held fuel 46 cs = some x) : Ints cs ∧ cs.length = 4 := by
  obtain ⟨xs, n, _, _, hl, hlen, hf⟩ := DataW.trod_struct Try.underlying46 h
  rw [cells_deed'] at hl
  refine ⟨?_, hl⟩
  match xs, hlen with
  | [y0, y1, y2, y3], _ =>
    have f0 : DataW.trod enc Try.prog W base sp held n 3 ((cs.drop 0).take (Try.prog.cellsOf 3)) = some y0 := hf 0 _ rfl
    have f1 : DataW.trod enc Try.prog W base sp held n 3 ((cs.drop 1).take (Try.prog.cellsOf 3)) = some y1 := hf 1 _ rfl
    have f2 : DataW.trod enc Try.prog W base sp held n 3 ((cs.drop 2).take (Try.prog.cellsOf 3)) = some y2 := hf 2 _ rfl
    have f3 : DataW.trod enc Try.prog W base sp held n 3 ((cs.drop 3).take (Try.prog.cellsOf 3)) = some y3 := hf 3 _ rfl
    rw [cells_int] at f0 f1 f2 f3
    exact ints_step (o := 0) (n := 1) (ints_int Try.underlying3 f0) (ints_step (o := 1) (n := 1) (ints_int Try.underlying3 f1) (ints_step (o := 2) (n := 1) (ints_int Try.underlying3 f2) (ints_step (o := 3) (n := 1) (ints_int Try.underlying3 f3) (ints_end (by omega)))))

/-- the number that a cell holds. -/
def numAtCell (w : World) (a : Addr) : Int := match w.cell? a with
  | some (.int .i64 z) => z
  | _ => 0

set_option maxRecDepth 20000 in
theorem open_Deeds {r : Reach} {b0 : Nat} {v : Value} {d : DataW H} {p : List MemPlace} (hv : Value.okWide Try.prog W r b0 30 v) (h : DataW.Trod enc Try.prog W 0 (fun _ => true) true 30 v d p) :
    ∃ a len cap D, v = .slice a len cap ∧ RowK .i64 W a (4 * len) D ∧ len ≤ cap ∧ cap ≤ maxLen ∧ (a = none → cap = 0) := by
  obtain ⟨a, len, cap, rfl⟩ := okWide_slice Try.underlying30 hv
  obtain ⟨fuel, hf⟩ := h
  rcases Go.Deep.open_slice Try.underlying30 hf with ⟨hcs, _⟩ | ⟨x, l, c, m, n, Dd, Pl, hcs, _, hl, hm, hmm, _, hall⟩
  · simp [Value.cells] at hcs
    obtain ⟨rfl, rfl, rfl⟩ := hcs
    exact ⟨none, 0, 0, [], rfl, RowK.nil _ _ _, Nat.le_refl _, by unfold maxLen; omega, fun _ => rfl⟩
  · simp [Value.cells] at hcs
    obtain ⟨rfl, rfl, rfl⟩ := hcs
    simp only [if_true] at hmm
    subst hmm
    have key : ∀ i, i < len → ∀ t, t < 4 → ∃ z, W.cell? ((x.add (i * 4)).add t) = some (.int .i64 z) ∧ (Lit.int .i64 z).wf = true := by
      intro i hi t ht
      obtain ⟨cs', h1, h2⟩ := hall i (by omega)
      rw [cells_deed'] at h1
      obtain ⟨⟨zs, rfl, hw⟩, hl4⟩ := ints_deed h2
      have hl4' : zs.length = 4 := by simpa using hl4
      have h3 := (World.cells?_some h1).2.2 t ht
      rw [h3, List.getElem?_map, List.getElem?_eq_getElem (show t < zs.length by omega)]
      exact ⟨zs[t]'(by omega), rfl, hw _ (List.getElem_mem _)⟩
    obtain ⟨b, off, spot⟩ := x
    by_cases h0 : len = 0
    · subst h0
      exact ⟨_, _, _, [], rfl, RowK.nil _ _ _, hl, hm, by simp⟩
    have hspot : spot = none := by
      obtain ⟨z, hz, _⟩ := key 0 (by omega) 0 (by omega)
      simpa [Addr.add] using World.cell?_spot hz
    subst hspot
    have hadd : ∀ i t, ((⟨b, off, none⟩ : Addr).add i).add t = ⟨b, off + (i + t), none⟩ := by
      intro i t
      have h1 : ∀ (o j : Nat), (⟨b, o, none⟩ : Addr).add j = ⟨b, o + j, none⟩ := fun o j => by unfold Addr.add; split <;> simp_all
      rw [h1, h1, Nat.add_assoc]
    have cell : ∀ j, j < 4 * len → W.cell? ⟨b, off + j, none⟩ = some (.int .i64 (numAtCell W ⟨b, off + j, none⟩)) ∧ (Lit.int .i64 (numAtCell W ⟨b, off + j, none⟩)).wf = true := by
      intro j hj
      obtain ⟨z, hz, hw⟩ := key (j / 4) (by omega) (j % 4) (by omega)
      rw [hadd, show j / 4 * 4 + j % 4 = j by omega] at hz
      have hn : numAtCell W ⟨b, off + j, none⟩ = z := by unfold numAtCell; rw [hz]
      rw [hn]
      exact ⟨hz, hw⟩
    refine ⟨_, _, _, (List.range (4 * len)).map (fun j => numAtCell W ⟨b, off + j, none⟩), rfl, ⟨by simp, ?_, ?_⟩, hl, hm, by simp⟩
    · intro u hu
      simp only [List.mem_map, List.mem_range] at hu
      obtain ⟨j, hj, rfl⟩ := hu
      exact (cell j hj).2
    · intro j hj
      have hc := (cell j hj).1
      refine ⟨b, off, rfl, ?_, ?_⟩
      · unfold World.cell? at hc
        by_cases hbl : b < W.heap.size
        · exact hbl
        · simp [Array.getElem?_eq_none (show W.heap.size ≤ b by omega)] at hc
      · rw [hc]
        simp [List.getD_eq_getElem?_getD, hj]
end
set_option maxRecDepth 20000 in
theorem open_Deed {H : Type} {enc : TypeId × Value → H} {W : World} {base : Nat} {sp : Nat → Bool} {held : Bool} {r : Reach} {b0 : Nat} {v : Value} {d : DataW H} {p : List MemPlace} (hv : Value.okWide Try.prog W r b0 46 v) (h : DataW.Trod enc Try.prog W base sp held 46 v d p) :
    ∃ x0 x1 x2 x3 : Int, v = .agg #[.int .i64 x0, .int .i64 x1, .int .i64 x2, .int .i64 x3] ∧ ∀ z ∈ [x0, x1, x2, x3], (Lit.int .i64 z).wf = true := by
  have cells_deed : Try.prog.cellsOf 46 = 4 := by kernel_rfl
  obtain ⟨cs, n, rfl, hsz, hf⟩ := open_struct Try.underlying46 hv h
  rw [cells_deed] at hsz
  have hi : Ints cs.toList := by
    obtain ⟨xs, n, _, _, hl, hlen, hf⟩ := DataW.trod_struct Try.underlying46 hf
    rw [cells_deed] at hl
    match xs, hlen with
    | [y0, y1, y2, y3], _ =>
      have f0 : DataW.trod enc Try.prog W base sp held n 3 ((cs.toList.drop 0).take (Try.prog.cellsOf 3)) = some y0 := hf 0 _ rfl
      have f1 : DataW.trod enc Try.prog W base sp held n 3 ((cs.toList.drop 1).take (Try.prog.cellsOf 3)) = some y1 := hf 1 _ rfl
      have f2 : DataW.trod enc Try.prog W base sp held n 3 ((cs.toList.drop 2).take (Try.prog.cellsOf 3)) = some y2 := hf 2 _ rfl
      have f3 : DataW.trod enc Try.prog W base sp held n 3 ((cs.toList.drop 3).take (Try.prog.cellsOf 3)) = some y3 := hf 3 _ rfl
      rw [cells_int] at f0 f1 f2 f3
      exact ints_step (o := 0) (n := 1) (ints_int Try.underlying3 f0) (ints_step (o := 1) (n := 1) (ints_int Try.underlying3 f1) (ints_step (o := 2) (n := 1) (ints_int Try.underlying3 f2) (ints_step (o := 3) (n := 1) (ints_int Try.underlying3 f3) (ints_end (by omega)))))
  obtain ⟨zs, hz, hw⟩ := hi
  have hl : zs.length = 4 := by have := congrArg List.length hz; simp at this; omega
  match zs, hl with
  | [x0, x1, x2, x3], _ => exact ⟨x0, x1, x2, x3, by rw [← Array.toArray_toList (xs := cs), hz]; rfl, hw⟩
end Go.Proofs.Ytlfecmkpafgcmaa

namespace Go.Proofs.Ytlfecmkpafgcmaa
open Go.RowKit

/-- a queue in a box. -/
structure Bx (wx : World) (B : Nat) (s : St) (a1 : Option Addr) (c1 : Nat) (a2 : Option Addr) (c2 : Nat) (ws : Nat → Value) : Prop where
  q : qBlock wx B s.ep s.nx s.gv (.slice a1 s.rn c1) (.slice a2 s.ln c2) ws
  r1 : RowK .i64 wx a1 (2 * s.rn) s.R
  r2 : RowK .i64 wx a2 (4 * s.ln) s.L
  n1 : a1 = none → c1 = 0
  n2 : a2 = none → c2 = 0
  wins : Wins ws s.wt s.wz
theorem Bx.next {wx wy : World} {B : Nat} {s : St} {a1 : Option Addr} {c1 : Nat} {a2 : Option Addr} {c2 : Nat} {ws : Nat → Value} (h : Bx wx B s a1 c1 a2 c2 ws) (b : Below wx.heap.size wx wy) : Bx wy B s a1 c1 a2 c2 ws :=
  ⟨h.q.next b, h.r1.below b, h.r2.below b, h.n1, h.n2, h.wins⟩
theorem Bx.do {wx : World} {B : Nat} {s : St} {a1 : Option Addr} {c1 : Nat} {a2 : Option Addr} {c2 : Nat} {ws : Nat → Value} (h : Bx wx B s a1 c1 a2 c2 ws) (ok : s.Ok) (v : Ev) (hv : v.Ok) :
    Calls Try.prog 27 #[qVal s.ep s.nx s.gv (.slice a1 s.rn c1) (.slice a2 s.ln c2) ws, evIn v] wx fun e w' => ∃ (s' : St) (an : An) (ch : Bool) (x : Value), e = .returned (.tuple #[x, anOf an, .bool ch, .int .i64 0]) ∧ Step s v s' an ch ∧ QOut wx w' s' x ∧ Below wx.heap.size wx w' :=
  do_step s a1 a2 c1 c2 ws v wx h.r1 h.r2 h.n1 h.n2 h.wins ok hv
/-- a queue that was answered, boxed. -/
theorem boxed {w wx wy wz : World} {s : St} {a1 : Option Addr} {c1 : Nat} {a2 : Option Addr} {c2 : Nat} {ws : Nat → Value} (r1 : RowK .i64 wx a1 (2 * s.rn) s.R) (r2 : RowK .i64 wx a2 (4 * s.ln) s.L) (n1 : a1 = none → c1 = 0) (n2 : a2 = none → c2 = 0) (hW : Wins ws s.wt s.wz) (bel : Below w.heap.size w wx)
    (b : Below wx.heap.size wx wy) (t : Turned wx.heap.size wy wz) (q : qBlock wz wx.heap.size s.ep s.nx s.gv (.slice a1 s.rn c1) (.slice a2 s.ln c2) ws) : Bx wz wx.heap.size s a1 c1 a2 c2 ws ∧ Below wx.heap.size wx wz ∧ Below w.heap.size w wz := by
  have bb := t.under b (Nat.le_refl _)
  exact ⟨⟨q, r1.below bb, r2.below bb, n1, n2, hW⟩, bb, Below.next bel bb⟩
/-- a queue and an answer that Do answered, boxed. -/
theorem boxed2 {w wx wy wz : World} {s : St} {a1 : Option Addr} {c1 : Nat} {a2 : Option Addr} {c2 : Nat} {ws : Nat → Value} (c he no bd : Int) (r1 : RowK .i64 wx a1 (2 * s.rn) s.R) (r2 : RowK .i64 wx a2 (4 * s.ln) s.L) (n1 : a1 = none → c1 = 0) (n2 : a2 = none → c2 = 0) (hW : Wins ws s.wt s.wz) (bel : Below w.heap.size w wx)
    (b : Below wx.heap.size wx wy) (hN : wx.heap.size < wy.heap.size) (t : Turned wx.heap.size (wy.alloc (.cells #[.int .i64 0, .int .i64 0, .int .i64 0, .int .i64 0] 50)) wz) (q : qBlock wz wx.heap.size s.ep s.nx s.gv (.slice a1 s.rn c1) (.slice a2 s.ln c2) ws) :
    ∃ W, W = (((wz.setCell ⟨wy.heap.size, 0, none⟩ (.int .i64 c)).setCell ⟨wy.heap.size, 1, none⟩ (.int .i64 he)).setCell ⟨wy.heap.size, 2, none⟩ (.int .i64 no)).setCell ⟨wy.heap.size, 3, none⟩ (.int .i64 bd) ∧ Bx W wx.heap.size s a1 c1 a2 c2 ws ∧ ansBlock W wy.heap.size c he no bd ∧ Below wx.heap.size wx W ∧ Below w.heap.size w W := by
  have y := ansBlock.new wy 0 0 0 0
  have y1 := y.turned t (by omega)
  have b1 : Below wx.heap.size wx (wy.alloc (.cells #[.int .i64 0, .int .i64 0, .int .i64 0, .int .i64 0] 50)) := Below.next b (below1 _ _)
  have b2 := t.under b1 (Nat.le_refl _)
  have t2 := ans_turned wz wy.heap.size c he no bd
  have b3 := t2.under b2 (by omega)
  exact ⟨_, rfl, ⟨t2.queue q (by omega), r1.below b3, r2.below b3, n1, n2, hW⟩, y1.store _ _ _ _, b3, Below.next bel b3⟩
/-- the answer's zero box, ahead of the store. -/
theorem ans0 {wx wy wz : World} (hN : wx.heap.size < wy.heap.size) (t : Turned wx.heap.size (wy.alloc (.cells #[.int .i64 0, .int .i64 0, .int .i64 0, .int .i64 0] 50)) wz) : ansBlock wz wy.heap.size 0 0 0 0 := (ansBlock.new wy 0 0 0 0).turned t (by omega)
/-- two arrays of bools compared. -/
theorem run_equal_seen_at (d : Nat) (a0 a1 a2 a3 a4 a5 a6 a7 b0 b1 b2 b3 b4 b5 b6 b7 : Bool) (w : World) :
    (Op.equalIn (d + 1 + 1) 33 (.agg #[.bool a0, .bool a1, .bool a2, .bool a3, .bool a4, .bool a5, .bool a6, .bool a7]) (.agg #[.bool b0, .bool b1, .bool b2, .bool b3, .bool b4, .bool b5, .bool b6, .bool b7])).run Try.prog w
      = .ok (a0 == b0 && (a1 == b1 && (a2 == b2 && (a3 == b3 && (a4 == b4 && (a5 == b5 && (a6 == b6 && a7 == b7))))))) w := by
  have hb : ∀ (x y : Bool) w, (Op.equalIn (d + 1) 4 (.bool x) (.bool y)).run Try.prog w = .ok (x == y) w := fun x y w => run_equalIn_bool w d 4 x y Try.underlying4
  rw [Op.equalIn]
  generalize d + 1 = dd at hb ⊢
  simp only [Sem.run_bind, run_underlying Try.underlying33, Result.andThen_ok]
  simp [go_sem, List.range', hb]
  repeat' split
  all_goals simp_all
theorem run_equal_seen_same (a0 a1 a2 a3 a4 a5 a6 a7 : Bool) (w : World) :
    (Op.equalIn 9999 33 (.agg #[.bool a0, .bool a1, .bool a2, .bool a3, .bool a4, .bool a5, .bool a6, .bool a7]) (.agg #[.bool a0, .bool a1, .bool a2, .bool a3, .bool a4, .bool a5, .bool a6, .bool a7])).run Try.prog w = .ok true w := by
  have := run_equal_seen_at 9997 a0 a1 a2 a3 a4 a5 a6 a7 a0 a1 a2 a3 a4 a5 a6 a7 w
  simpa using this
/-- the nine cells of a window of a queue in memory. -/
theorem qBlock.nine {wx : World} {B : Nat} {ep nx gv : Int} {r l : Value} {ws : Nat → Value} {wt : Nat → Int} {wz : Nat → Nat → Bool} (q : qBlock wx B ep nx gv r l ws) (h : Wins ws wt wz) (p : Nat) (hp : p < 4) :
    wx.cell? ⟨B, 5 + 9 * p, none⟩ = some (.int .i64 (wt p)) ∧ wx.cell? ⟨B, 5 + (9 * p + 1), none⟩ = some (.bool (wz p 0)) ∧ wx.cell? ⟨B, 5 + (9 * p + 1 + 1), none⟩ = some (.bool (wz p 1)) ∧ wx.cell? ⟨B, 5 + (9 * p + 1 + 2), none⟩ = some (.bool (wz p 2)) ∧ wx.cell? ⟨B, 5 + (9 * p + 1 + 3), none⟩ = some (.bool (wz p 3)) ∧
    wx.cell? ⟨B, 5 + (9 * p + 1 + 4), none⟩ = some (.bool (wz p 4)) ∧ wx.cell? ⟨B, 5 + (9 * p + 1 + 5), none⟩ = some (.bool (wz p 5)) ∧ wx.cell? ⟨B, 5 + (9 * p + 1 + 6), none⟩ = some (.bool (wz p 6)) ∧ wx.cell? ⟨B, 5 + (9 * p + 1 + 7), none⟩ = some (.bool (wz p 7)) := by
  obtain ⟨h0, h1⟩ := h p hp
  have k : ∀ j, j < 36 → wx.cell? ⟨B, 5 + j, none⟩ = some (ws j) := fun j hj => (q.at (5 + j)).trans (qCells_ws _ _ _ _ _ _ j hj)
  have g : ∀ j, j < 8 → wx.cell? ⟨B, 5 + (9 * p + 1 + j), none⟩ = some (.bool (wz p j)) := fun j hj => by rw [k _ (by omega), h1 j hj]
  exact ⟨by rw [k _ (by omega), h0], g 0 (by omega), g 1 (by omega), g 2 (by omega), g 3 (by omega), g 4 (by omega), g 5 (by omega), g 6 (by omega), g 7 (by omega)⟩
theorem Hist.small {es : List Ev} {s : St} {ans : List An} (h : Hist es s ans) {m : Nat} (hm : es.length ≤ m) : s.nx ≤ m ∧ 0 ≤ s.nx ∧ s.ep ≤ m ∧ 0 ≤ s.ep ∧ s.rn + s.ln ≤ m ∧ s.gv ≤ m ∧ 0 ≤ s.gv := by
  obtain ⟨h1, h2, h3, h4⟩ := h.counts
  have c1 := cnt_le es 1
  have c4 := cnt_le es 4
  have := h.wf.ok.count.g0
  omega
theorem ev_pub {p i b : Int} (hp : 0 ≤ p ∧ p ≤ 3) (hi : 0 ≤ i ∧ i ≤ 1073741824) (hb : 0 ≤ b ∧ b ≤ 1000000) : (⟨1, p, i, b, 0, 0⟩ : Ev).Ok := by
  unfold Ev.Ok eventFault
  rw [if_pos rfl, if_neg (fun h => h ⟨hp.1, hp.2, hi.1, hi.2, hb.1, hb.2⟩), if_pos ⟨rfl, rfl⟩]
theorem ev_ack {he hn : Int} (h1 : 0 ≤ he ∧ he ≤ 1048576) (h2 : 0 ≤ hn ∧ hn ≤ 1073741824) : (⟨3, 0, 0, 0, he, hn⟩ : Ev).Ok := by
  unfold Ev.Ok eventFault
  rw [if_neg (by show ¬ (3 : Int) = 1; decide), if_pos rfl, if_neg (fun h => h ⟨h1.1, h1.2, h2.1, h2.2⟩), if_pos ⟨rfl, rfl, rfl⟩]
theorem ev_recv : (⟨2, 0, 0, 0, 0, 0⟩ : Ev).Ok := by unfold Ev.Ok eventFault; simp
theorem ev_break : (⟨4, 0, 0, 0, 0, 0⟩ : Ev).Ok := by unfold Ev.Ok eventFault; simp
end Go.Proofs.Ytlfecmkpafgcmaa

namespace Go.Proofs.Ytlfecmkpafgcmaa
open Go.RowKit

theorem RowK.blk_lt {k : IntKind} {w : World} {a : Option Addr} {len : Nat} {l : List Int} (h : RowK k w a len l) (x : Addr) (hx : a = some x) (h0 : 0 < len) : x.block < w.heap.size := by
  obtain ⟨b, off, ha, hlt, _⟩ := h.cell 0 h0
  rw [hx] at ha
  cases ha
  exact hlt
theorem q_alloc_wp {o : Oper} {a : Act} {K : Act → World → Prop} {Q : Exit → Act → World → Prop} {w : World} (d : Nat) (ho : o.op = .alloc 38) (hd : o.dst = some d)
    (h : ∀ w', qBlock w' w.heap.size 0 0 0 (.slice none 0 0) (.slice none 0 0) zeroW → Below w.heap.size w w' → K (a.put (some d) (.pointer (some ⟨w.heap.size, 0, none⟩))) w') : o.wp Try.prog a w K Q := by
  obtain ⟨z1, z2⟩ := zq_made (w := w) rfl
  have := h _ z1 z2
  rw [← hd] at this
  unfold Oper.wp
  simp only [execOp, ho]
  simpa [go_sem] using this
theorem q_store_wp {o : Oper} {a : Act} {K : Act → World → Prop} {Q : Exit → Act → World → Prop} {w : World} {R : Nat} {ep nx gv : Int} {r l : Value} {ws : Nat → Value} {ra la : Option Addr} {rn rc ln lc : Nat} {ws' : Nat → Value} {ep' nx' gv' : Int} {wt : Nat → Int} {wz : Nat → Nat → Bool} (x y : Operand) (ho : o.op = .store 38 x y) (hx : a.eval x = .pointer (some ⟨R, 0, none⟩)) (hy : a.eval y = qVal ep' nx' gv' (.slice ra rn rc) (.slice la ln lc) ws')
    (qb : qBlock w R ep nx gv r l ws) (hW : Wins ws' wt wz)
    (h : ∀ w', qBlock w' R ep' nx' gv' (.slice ra rn rc) (.slice la ln lc) ws' → Turned R w w' → K (a.put o.dst undef) w') : o.wp Try.prog a w K Q :=
  wp_store_mid 38 x y ho R 0 _ hx hy (by rw [qCells_size]; exact qb.there) (by rw [qCells_size]; exact Try.infoQ) (qCells_one hW) (h _ (qb.stored _ _ _ _ _ _) (Turned.sets R _ 0 w))
end Go.Proofs.Ytlfecmkpafgcmaa
