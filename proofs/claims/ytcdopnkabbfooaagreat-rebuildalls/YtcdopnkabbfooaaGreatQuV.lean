/- A desk on its way: what stands while a method works at it. -/
import Derived.Test.YtcdopnkabbfooaaGreatQuT
namespace Go.Proofs.YtcdopnkabbfooaaGreat
open Go.RowKit

theorem turned_drew (B : Nat) (w : World) : Turned B w w.drew := ⟨rfl, rfl, rfl, rfl, fun _ _ => rfl⟩
/-- a desk and an answer on their way. -/
structure Pc (w wx : World) (base B : Nat) (ep nx gv : Int) (a1 : Option Addr) (rn c1 : Nat) (R : List Int) (a2 : Option Addr) (ln c2 : Nat) (L : List Int) (ws : Nat → Value) (A : Nat) : Prop where
  d : dBlock wx B ep nx gv (.slice a1 rn c1) (.slice a2 ln c2) ws
  o1 : wx.ownsRow base 131 2 (.slice a1 rn c1) rn (R.map (Value.int .i64))
  o2 : wx.ownsRow base 133 4 (.slice a2 ln c2) ln (L.map (Value.int .i64))
  a : ansBlock wx A 0 0 0 0
  bel : Below base w wx
  up : base ≤ B
section
variable {w wx W5 w5 : World} {base B : Nat} {ep nx gv : Int} {a1 a2 a3 : Option Addr} {rn ln c1 c2 c3 : Nat} {R L : List Int} {ws ws' : Nat → Value} {A : Nat}
theorem Pc.turn (C : Pc w wx base B ep nx gv a1 rn c1 R a2 ln c2 L ws A) {wy : World} (t : Turned B wx wy) {ep' nx' gv' : Int} (d : dBlock wy B ep' nx' gv' (.slice a1 rn c1) (.slice a2 ln c2) ws') : Pc w wy base B ep' nx' gv' a1 rn c1 R a2 ln c2 L ws' A :=
  ⟨d, t.owns C.o1 (own_off C.o1 C.d (by decide)), t.owns C.o2 (own_off C.o2 C.d (by decide)), C.a.turned t (types_apart C.a C.d (by decide)), t.under C.bel C.up, C.up⟩
theorem Pc.next (C : Pc w wx base B ep nx gv a1 rn c1 R a2 ln c2 L ws A) {wy : World} (hb : Below wx.heap.size wx wy) (hbase : base ≤ wx.heap.size) : Pc w wy base B ep nx gv a1 rn c1 R a2 ln c2 L ws A :=
  ⟨C.d.next hb, own_still C.o1 (fun g _ hg => hb.block g hg), own_still C.o2 (fun g _ hg => hb.block g hg), C.a.next hb, C.bel.trans (hb.mono hbase), C.up⟩
theorem Pc.ready (C : Pc w wx base B ep nx gv a1 rn c1 R a2 ln c2 L ws A) (b5 : Below wx.heap.size wx W5) (gr : W5.grownBy w5 (Value.slice a1 rn c1).ownBlock) (ys : List Int) (hbase : base ≤ wx.heap.size)
    (own : w5.ownsRow base 131 2 (.slice a3 (rn + 1) c3) (rn + 1) ((R ++ ys).map (Value.int .i64))) :
    dBlock w5 B ep nx gv (.slice a1 rn c1) (.slice a2 ln c2) ws ∧ Pc w (w5.setCell ⟨B, 3, none⟩ (.slice a3 (rn + 1) c3)) base B ep nx gv a3 (rn + 1) c3 (R ++ ys) a2 ln c2 L ws A := by
  have keep : ∀ X o, wx.heap[X]? = some o → (Value.slice a1 rn c1).ownBlock ≠ some X → w5.heap[X]? = some o := by
    intro X o hX hne
    have hl := block_lt hX
    rw [gr.block X (by have := b5.size; omega) (fun e => hne e.symm), b5.block X hl]
    exact hX
  have hB : dBlock w5 B ep nx gv (.slice a1 rn c1) (.slice a2 ln c2) ws := keep B _ C.d (fun e => own_off C.o1 C.d (by decide) B e rfl)
  have t := Turned.set B 3 w5 (.slice a3 (rn + 1) c3)
  have hA : ansBlock w5 A 0 0 0 0 := keep A _ C.a (fun e => own_off C.o1 C.a (by decide) A e rfl)
  have o2' : w5.ownsRow base 133 4 (.slice a2 ln c2) ln (L.map (Value.int .i64)) :=
    own_grown (own_still C.o2 (fun q _ hq => b5.block q hq)) gr (fun q h1 h2 => own_apart C.o2 C.o1 (by decide) q h1 h2)
  have hbel : Below base w w5 := (C.bel.trans (b5.mono hbase)).grown gr (by have := b5.size; omega) (fun q hq => (C.o1.lt q hq).1)
  exact ⟨hB, hB.ready _, t.owns own (own_off own hB (by decide)), t.owns o2' (own_off o2' hB (by decide)), hA.turned t (types_apart hA hB (by decide)), t.under hbel C.up, C.up⟩
/-- a desk behind the method, the answer stored. -/
theorem Pc.out (C : Pc w wx base B ep nx gv a1 rn c1 R a2 ln c2 L ws A) {wt : Nat → Int} {wz : Nat → Nat → Bool} (hW : Wins ws wt wz) (wR : ∀ u ∈ R, (Lit.int .i64 u).wf = true) (wL : ∀ u ∈ L, (Lit.int .i64 u).wf = true) (hA : base ≤ A) (c he no bd : Int) :
    DeskOut (ansStore wx A c he no bd) base B ep nx gv rn R ln L wt wz ∧ Below base w (ansStore wx A c he no bd) := by
  have T8 := ans_turned wx A c he no bd
  have nA : A ≠ B := types_apart C.a C.d (by decide)
  have D : Desk (ansStore wx A c he no bd) base B ep nx gv a1 rn c1 a2 ln c2 R L ws :=
    ⟨C.d.turned T8 (fun e => nA e.symm), C.up, T8.owns C.o1 (own_off C.o1 C.a (by decide)), T8.owns C.o2 (own_off C.o2 C.a (by decide)), wR, wL⟩
  exact ⟨D.out hW, T8.under C.bel hA⟩
end
end Go.Proofs.YtcdopnkabbfooaaGreat
