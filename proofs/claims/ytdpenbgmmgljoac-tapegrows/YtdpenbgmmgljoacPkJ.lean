/- The walk of pack.fill: numbers taken from bytes, stored where pointers lead; it panics with what Take refuses. -/
import Derived.Test.YtdpenbgmmgljoacPkH
import Derived.Test.YtdpenbgmmgljoacPkB
namespace Go.Proofs.Ytdpenbgmmgljoac
open Go.RowKit

/-- the j-th number of some bytes, and its error. -/
def numAt (l : List Int) (j : Nat) : Int := (takenOf (l.drop (4 * j))).1
def errAt (l : List Int) (j : Nat) : Int := (takenOf (l.drop (4 * j))).2

/-- a block of ten numbers, a record. -/
def recBlock (w : World) (R : Nat) (zs : List Int) : Prop := zs.length = 10 ∧ w.heap[R]? = some (.cells (zs.map (Value.int .i64)).toArray 44 (0, 0))

/-- numbers laid one by one, from the place s on. -/
def setNums (l zs : List Int) (s : Nat) : Nat → List Int
  | 0 => zs
  | j + 1 => (setNums l zs s j).set (s + j) (numAt l j)

/-- a world in which the block R alone may be another. -/
structure SameBut (R : Nat) (w w' : World) : Prop where
  os : w'.os = w.os
  tape : w'.tape = w.tape
  output : w'.output = w.output
  size : w'.heap.size = w.heap.size
  block : ∀ k, k ≠ R → w'.heap[k]? = w.heap[k]?

theorem SameBut.refl (R : Nat) (w : World) : SameBut R w w := ⟨rfl, rfl, rfl, rfl, fun _ _ => rfl⟩
theorem SameBut.trans {R : Nat} {a b c : World} (h : SameBut R a b) (k : SameBut R b c) : SameBut R a c :=
  ⟨k.os.trans h.os, k.tape.trans h.tape, k.output.trans h.output, k.size.trans h.size, fun x hx => (k.block x hx).trans (h.block x hx)⟩
theorem SameBut.drewN (R : Nat) (w : World) (n : Nat) : SameBut R w (w.drewN n) := ⟨rfl, rfl, rfl, rfl, fun _ _ => rfl⟩
theorem SameBut.cell {R : Nat} {w w' : World} (h : SameBut R w w') {b o : Nat} (hb : b ≠ R) : w'.cell? ⟨b, o, none⟩ = w.cell? ⟨b, o, none⟩ := World.cell?_of_block (w := w) (h.block b hb)
theorem SameBut.row {R : Nat} {k : IntKind} {w w' : World} (h : SameBut R w w') {a : Option Addr} {len : Nat} {l : List Int} (hr : RowK k w a len l) (hne : ∀ x, a = some x → 0 < len → x.block ≠ R) : RowK k w' a len l :=
  ⟨hr.len_eq, hr.wf, fun i hi => by
    obtain ⟨b, off, ha, hlt, hc⟩ := hr.cell i hi
    exact ⟨b, off, ha, by rw [h.size]; exact hlt, (h.cell (hne _ ha (by omega))).trans hc⟩⟩

theorem recBlock.cell {w : World} {R : Nat} {zs : List Int} (h : recBlock w R zs) (o : Nat) (ho : o < 10) : w.cell? ⟨R, o, none⟩ = some (.int .i64 (zs.getD o 0)) := by
  have := h.1
  simp [World.cell?, h.2, show o < zs.length by omega]
theorem recBlock.free {w : World} {R : Nat} {zs : List Int} (h : recBlock w R zs) (o : Nat) : w.frozen? ⟨R, o, none⟩ = false := by
  simp [World.frozen?, h.2]
theorem recBlock.lt {w : World} {R : Nat} {zs : List Int} (h : recBlock w R zs) : R < w.heap.size := by
  rcases Nat.lt_or_ge R w.heap.size with h' | h'
  · exact h'
  · have := h.2; rw [Array.getElem?_eq_none h'] at this; cases this
theorem recBlock.set {w : World} {R : Nat} {zs : List Int} (h : recBlock w R zs) (o : Nat) (x : Int) : recBlock (w.setCell ⟨R, o, none⟩ (.int .i64 x)) R (zs.set o x) := by
  refine ⟨by simpa using h.1, ?_⟩
  rw [setCell_eq_setRow w R o _ _ (0, 0) _ h.2]
  rw [setRow_heap w R _ _ _ _ h.2]
  simp [List.map_set]
theorem recBlock.drewN {w : World} {R : Nat} {zs : List Int} (h : recBlock w R zs) (n : Nat) : recBlock (w.drewN n) R zs := h
theorem SameBut.set (R o : Nat) (w : World) (v : Value) : SameBut R w (w.setCell ⟨R, o, none⟩ v) := by
  refine ⟨?_, ?_, ?_, ?_, fun k hk => Below.heap_setCell w _ v k hk⟩ <;> (unfold World.setCell; split <;> simp)

theorem RowK.drop4 {k : IntKind} {w : World} {b off len : Nat} {l : List Int} (h : RowK k w (some ⟨b, off, none⟩) len l) (a : Option Addr) (h4 : 4 ≤ len) (ha : 4 < len → a = some ⟨b, off + 4, none⟩) : RowK k w a (len - 4) (l.drop 4) := by
  refine ⟨by simp [h.len_eq], fun u hu => h.wf u (List.mem_of_mem_drop hu), fun i hi => ?_⟩
  refine ⟨b, off + 4, ha (by omega), h.lt (by omega), ?_⟩
  have := h.at (4 + i) (by omega)
  rw [Nat.add_assoc, this]
  simp [List.getD_eq_getElem?_getD]

end Go.Proofs.Ytdpenbgmmgljoac
