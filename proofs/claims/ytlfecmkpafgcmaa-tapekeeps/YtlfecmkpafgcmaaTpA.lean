/- Walks of tape.Sum and berthshiftref.Summed: the sum of bytes, taken modulo at each byte or at the end. -/
import Derived.Test.YtlfecmkpafgcmaaPkB
namespace Go.Proofs.Ytlfecmkpafgcmaa
open Go.RowKit

/-- both numbers of a sum behind one more byte. -/
def sumStep (p : Int × Int) (b : Int) : Int × Int := ((p.1 + b) % 65521, (p.2 + (p.1 + b) % 65521) % 65521)
def sumPair (l : List Int) : Int × Int := l.foldl sumStep (1, 0)
def sumOf (l : List Int) : Int := (sumPair l).2 * 65536 + (sumPair l).1
/-- both numbers whole. -/
def wholeStep (p : Int × Int) (b : Int) : Int × Int := (p.1 + b, p.2 + (p.1 + b))
def wholePair (l : List Int) : Int × Int := l.foldl wholeStep (1, 0)

theorem sumPair_snoc (l : List Int) (k : Nat) (h : k < l.length) : sumPair (l.take (k + 1)) = sumStep (sumPair (l.take k)) (l.getD k 0) := by
  rw [List.take_succ_eq_append_getElem h]
  simp only [sumPair, List.foldl_append, List.foldl_cons, List.foldl_nil]
  simp [h]
theorem wholePair_snoc (l : List Int) (k : Nat) (h : k < l.length) : wholePair (l.take (k + 1)) = wholeStep (wholePair (l.take k)) (l.getD k 0) := by
  rw [List.take_succ_eq_append_getElem h]
  simp only [wholePair, List.foldl_append, List.foldl_cons, List.foldl_nil]
  simp [h]
theorem foldl_bounds (l : List Int) (p : Int × Int) (h0 : 0 ≤ p.1) (h1 : p.1 < 65521) (h2 : 0 ≤ p.2) (h3 : p.2 < 65521) :
    0 ≤ (l.foldl sumStep p).1 ∧ (l.foldl sumStep p).1 < 65521 ∧ 0 ≤ (l.foldl sumStep p).2 ∧ (l.foldl sumStep p).2 < 65521 := by
  induction l generalizing p with
  | nil => exact ⟨h0, h1, h2, h3⟩
  | cons b l ih => exact ih (sumStep p b) (by simp only [sumStep]; omega) (by simp only [sumStep]; omega) (by simp only [sumStep]; omega) (by simp only [sumStep]; omega)
theorem sumPair_bounds (l : List Int) : 0 ≤ (sumPair l).1 ∧ (sumPair l).1 < 65521 ∧ 0 ≤ (sumPair l).2 ∧ (sumPair l).2 < 65521 :=
  foldl_bounds l (1, 0) (by decide) (by decide) (by decide) (by decide)
theorem sumOf_bounds (l : List Int) : 0 ≤ sumOf l ∧ sumOf l < 4293984256 := by
  have := sumPair_bounds l
  unfold sumOf
  omega
theorem whole_bounds (l : List Int) (hw : ∀ u ∈ l, (Lit.int .u8 u).wf = true) (k : Nat) (hk : k ≤ l.length) (hb : k ≤ 1048576) :
    0 ≤ (wholePair (l.take k)).1 ∧ (wholePair (l.take k)).1 ≤ 1 + 255 * k ∧ 0 ≤ (wholePair (l.take k)).2 ∧ (wholePair (l.take k)).2 ≤ 300000000 * k := by
  induction k with
  | zero => simp [wholePair]
  | succ k ih =>
    have := ih (by omega) (by omega)
    rw [wholePair_snoc l k (by omega)]
    have hx := byte_bounds hw k
    simp only [wholeStep]
    generalize wholePair (l.take k) = p at *
    generalize l.getD k 0 = x at *
    push_cast
    omega
theorem whole_mod (l : List Int) : ∀ (p : Int × Int), l.foldl sumStep (p.1 % 65521, p.2 % 65521) = ((l.foldl wholeStep p).1 % 65521, (l.foldl wholeStep p).2 % 65521) := by
  induction l with
  | nil => intro p; rfl
  | cons b l ih =>
    intro p
    simp only [List.foldl_cons]
    have : sumStep (p.1 % 65521, p.2 % 65521) b = ((wholeStep p b).1 % 65521, (wholeStep p b).2 % 65521) := by
      simp only [sumStep, wholeStep, Prod.mk.injEq]
      omega
    rw [this, ih]
theorem sumPair_whole (l : List Int) : sumPair l = ((wholePair l).1 % 65521, (wholePair l).2 % 65521) := whole_mod l (1, 0)

theorem or_sum (s f : Int) (h0 : 0 ≤ f) (h1 : f < 65521) (h2 : 0 ≤ s) (h3 : s < 65521) : bits .or .i64 (s * 65536) f = s * 65536 + f :=
  bits_join .i64 62 (by decide) wraps_i64 16 _ _ (by omega) (by omega) (by omega) (by omega) (by omega) (by omega)

set_option maxRecDepth 20000 in
set_option maxHeartbeats 400000 in
theorem sum_any (a : Option Addr) (len cap : Nat) (l : List Int) (w : World) (h : RowK .u8 w a len l) (hm : len ≤ 140737488351232) :
    Calls Try.prog 67 #[.slice a len cap] w fun e w' => e = .returned (.int .i64 (sumOf l)) ∧ w = w' := by
  have hl := h.len_eq
  go_enter Try.func67, Try.ntmps67
  go_wp2
  go_loopw [3, 4, 9] (fun x y i wr => ∃ k : Nat, k ≤ len ∧ i = .int .i64 k ∧ x = .int .i64 (sumPair (l.take k)).1 ∧ y = .int .i64 (sumPair (l.take k)).2 ∧ wr = w)
    (fun _ _ i _ => len - (intOf i).toNat)
  case atStart => exact ⟨0, Nat.zero_le _, rfl, rfl, rfl, rfl⟩
  case round =>
    obtain ⟨k, hk, rfl, rfl, rfl, rfl⟩ := hrel
    have hb := sumPair_bounds (l.take k)
    by_cases hlt : k < len
    · have HX : Hid (sumPair (l.take (k + 1)) = sumStep (sumPair (l.take k)) (l.getD k 0)) := sumPair_snoc l k (by omega)
      obtain ⟨b, off, rfl⟩ := h.form (by omega)
      have hcx := h.at k hlt
      have hx := byte_bounds h.wf k
      generalize sumPair (l.take k) = p at hb HX
      generalize l.getD k 0 = x at hcx hx HX
      obtain ⟨p, q⟩ := p
      obtain ⟨hb0, hb1, hb2, hb3⟩ := hb
      obtain ⟨hx0, hx1⟩ := hx
      simp only at hb0 hb1 hb2 hb3
      clear h
      go_wp2
      go_roundw
      case rel => exact ⟨k + 1, by omega, by go_num, by rw [HX.out]; first | done | rfl, by rw [HX.out]; first | done | rfl, by first | rfl | trivial⟩
      case measure => simp [intOf]; omega
    · have hk' : k = len := by omega
      subst hk'
      rw [List.take_of_length_le (by omega)] at *
      have J := or_sum (sumPair l).2 (sumPair l).1 hb.1 hb.2.1 hb.2.2.1 hb.2.2.2
      have HX : Hid (sumOf l = (sumPair l).2 * 65536 + (sumPair l).1) := rfl
      generalize sumPair l = p at hb HX J
      obtain ⟨p, q⟩ := p
      obtain ⟨hb0, hb1, hb2, hb3⟩ := hb
      simp only at hb0 hb1 hb2 hb3 J
      go_wp2
      go_ret
      exact ⟨by rw [HX.out]; rfl, rfl⟩

end Go.Proofs.Ytlfecmkpafgcmaa
