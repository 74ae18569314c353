/- Plain facts on sums: one changed byte, two that change places. -/
import Derived.Test.YtdpenbgmmgljoabKtA
import Derived.Deep.RegionHeld3
namespace Go.Proofs.Ytdpenbgmmgljoab
open Go.RowKit

theorem xor_byte (x y : Int) (hx0 : 0 ≤ x) (hx1 : x ≤ 255) (hy0 : 1 ≤ y) (hy1 : y ≤ 255) : 0 ≤ bits .xor .u8 x y ∧ bits .xor .u8 x y ≤ 255 ∧ bits .xor .u8 x y ≠ x := by
  have hx : x = (x.toNat : Int) := by omega
  have hy : y = (y.toNat : Int) := by omega
  generalize x.toNat = a at hx
  generalize y.toNat = b at hy
  subst hx
  subst hy
  have ha : a < 256 := by omega
  have hb : b < 256 := by omega
  have hb0 : b ≠ 0 := by omega
  have e : bits .xor .u8 (a : Int) (b : Int) = ((a ^^^ b : Nat) : Int) := by
    have h1 : (BitVec.ofInt 8 (a : Int) ^^^ BitVec.ofInt 8 (b : Int)).toNat = a ^^^ b := by
      rw [BitVec.toNat_xor, BitVec.ofInt_natCast, BitVec.ofInt_natCast, BitVec.toNat_ofNat, BitVec.toNat_ofNat, Nat.mod_eq_of_lt (by omega), Nat.mod_eq_of_lt (by omega)]
    have hlt : a ^^^ b < 2 ^ 8 := Nat.xor_lt_two_pow (by omega) (by omega)
    show IntKind.u8.wrap (((BitVec.ofInt 8 (a : Int) ^^^ BitVec.ofInt 8 (b : Int)).toNat : Nat) : Int) = _
    rw [h1]
    simp [IntKind.wrap, IntKind.bits, IntKind.signed]
    omega
  rw [e]
  have hlt : a ^^^ b < 2 ^ 8 := Nat.xor_lt_two_pow (by omega) (by omega)
  refine ⟨by omega, by omega, fun h => hb0 ?_⟩
  have h2 : a ^^^ b = a := by omega
  have h3 : a ^^^ (a ^^^ b) = a ^^^ a := by rw [h2]
  rw [← Nat.xor_assoc, Nat.xor_self, Nat.zero_xor] at h3
  exact h3

/-- the whole numbers of a sum, from a state on. -/
theorem whole_append (l l' : List Int) (p : Int × Int) : (l ++ l').foldl wholeStep p = l'.foldl wholeStep (l.foldl wholeStep p) := List.foldl_append
theorem whole_shift (l : List Int) : ∀ (p q : Int × Int), (l.foldl wholeStep p).1 - (l.foldl wholeStep q).1 = p.1 - q.1 ∧ (l.foldl wholeStep p).2 - (l.foldl wholeStep q).2 = p.2 - q.2 + l.length * (p.1 - q.1) := by
  induction l with
  | nil => intro p q; simp
  | cons b l ih =>
    intro p q
    have := ih (wholeStep p b) (wholeStep q b)
    simp only [wholeStep] at this
    simp only [List.foldl_cons, wholeStep, List.length_cons]
    constructor
    · omega
    · have h2 := this.2
      rw [h2, show p.1 + b - (q.1 + b) = p.1 - q.1 by omega]
      push_cast
      rw [Int.add_mul]
      omega
theorem sum_ne_first {l l' : List Int} (h : ¬ (sumPair l).1 = (sumPair l').1) : ¬ sumOf l = sumOf l' := by
  have a := sumPair_bounds l
  have b := sumPair_bounds l'
  unfold sumOf
  omega
theorem sum_ne_second {l l' : List Int} (h : ¬ (sumPair l).2 = (sumPair l').2) : ¬ sumOf l = sumOf l' := by
  have a := sumPair_bounds l
  have b := sumPair_bounds l'
  unfold sumOf
  omega
theorem sumPair_first (l : List Int) : (sumPair l).1 = (l.foldl wholeStep (1, 0)).1 % 65521 := by rw [sumPair_whole]; rfl
theorem sumPair_second (l : List Int) : (sumPair l).2 = (l.foldl wholeStep (1, 0)).2 % 65521 := by rw [sumPair_whole]; rfl

/-- one changed byte changes the sum. -/
theorem sum_one {l : List Int} {i : Nat} {z : Int} (hi : i < l.length) (hz0 : 0 ≤ z) (hz1 : z ≤ 255) (hx0 : 0 ≤ l.getD i 0) (hx1 : l.getD i 0 ≤ 255) (hne : z ≠ l.getD i 0) : ¬ sumOf l = sumOf (l.set i z) := by
  have hl : l = l.take i ++ l.getD i 0 :: l.drop (i + 1) := by
    rw [List.getD_eq_getElem?_getD, List.getElem?_eq_getElem hi]
    simp
  have hs : l.set i z = l.take i ++ z :: l.drop (i + 1) := by rw [List.set_eq_take_append_cons_drop, if_pos hi]
  generalize l.getD i 0 = x at *
  refine sum_ne_first ?_
  have hfl := congrArg sumPair hl
  rw [hs, hfl]
  rw [sumPair_first, sumPair_first, whole_append, whole_append, List.foldl_cons, List.foldl_cons]
  have := (whole_shift (l.drop (i + 1)) (wholeStep ((l.take i).foldl wholeStep (1, 0)) x) (wholeStep ((l.take i).foldl wholeStep (1, 0)) z)).1
  simp only [wholeStep] at this ⊢
  omega

/-- two neighbours that change places. -/
theorem sum_swap (A C : List Int) (u v : Int) (hu0 : 0 ≤ u) (hu1 : u ≤ 255) (hv0 : 0 ≤ v) (hv1 : v ≤ 255) : sumOf (A ++ u :: v :: C) = sumOf (A ++ v :: u :: C) ↔ u = v := by
  constructor
  · intro h
    by_cases huv : u = v
    · exact huv
    refine absurd h (sum_ne_second ?_)
    rw [sumPair_second, sumPair_second, whole_append, whole_append, List.foldl_cons, List.foldl_cons, List.foldl_cons, List.foldl_cons]
    have := (whole_shift C (wholeStep (wholeStep (A.foldl wholeStep (1, 0)) u) v) (wholeStep (wholeStep (A.foldl wholeStep (1, 0)) v) u)).2
    simp only [wholeStep] at this ⊢
    generalize A.foldl wholeStep (1, 0) = p at *
    rw [show p.1 + u + v - (p.1 + v + u) = 0 by omega, Int.mul_zero] at this
    omega
  · rintro rfl
    rfl

theorem RowK.set {k : IntKind} {w : World} {g off len : Nat} {l : List Int} (h : RowK k w (some ⟨g, off, none⟩) len l) (i : Nat) (hi : i < len) (z : Int) (hz : (Lit.int k z).wf = true) : RowK k (w.setCell ⟨g, off + i, none⟩ (.int k z)) (some ⟨g, off, none⟩) len (l.set i z) := by
  have hl := h.len_eq
  refine ⟨by simp [hl], fun u hu => ?_, fun j hj => ⟨g, off, rfl, ?_, ?_⟩⟩
  · rcases List.mem_or_eq_of_mem_set hu with h1 | h1
    · exact h.wf u h1
    · rw [h1]; exact hz
  · have hs : (w.setCell ⟨g, off + i, none⟩ (.int k z)).heap.size = w.heap.size := (SameBut.set g (off + i) w (.int k z)).size
    rw [hs]
    exact h.lt (by omega)
  · by_cases hij : i = j
    · subst hij
      rw [World.cell?_setCell_same' _ _ _ (by rw [h.at i hi]; rfl)]
      simp [List.getD_eq_getElem?_getD, hl, hi]
    · rw [show (w.setCell ⟨g, off + i, none⟩ (.int k z)).cell? ⟨g, off + j, none⟩ = w.cell? ⟨g, off + j, none⟩ from World.cell?_setCell_other _ _ _ _ (by simp), h.at j hj]
      simp [List.getD_eq_getElem?_getD, List.getElem?_set_ne hij]
end Go.Proofs.Ytdpenbgmmgljoab
