/- Facts on the four bytes of a number; picked: KpP. -/
import Derived.Test.YtlfecmkpafgcmaaKpP
import Derived.Test.YtlfecmkpafgcmaaPkB
import Derived.Test.YtlfecmkpafgcmaaPkO
import Derived.Test.YtlfecmkpafgcmaaPkC
namespace Go.Proofs.Ytlfecmkpafgcmaa
open Go.RowKit

theorem takenOf_four (k : Int) (t : List Int) (h0 : 0 ≤ k) (h1 : k ≤ 2147483647) : takenOf (four k ++ t) = (k, 0) := by
  unfold takenOf four
  have hl : ¬ ([k / 16777216, k / 65536 % 256, k / 256 % 256, k % 256] ++ t).length < 4 := by simp
  rw [if_neg hl]
  simp only [List.cons_append, List.getD_cons_zero, List.getD_cons_succ]
  rw [if_neg (by omega)]
  congr 1
  omega

theorem lt8 (a b : Int) (ha0 : 0 ≤ a) (ha1 : a ≤ 255) (hb0 : 0 ≤ b) (hb1 : b ≤ 255) : decide (UInt8.ofNat a.toNat < UInt8.ofNat b.toNat) = decide (a < b) := by
  rw [decide_eq_decide, UInt8.lt_iff_toNat_lt]
  simp only [UInt8.toNat_ofNat']
  omega
theorem eq8 (a b : Int) (ha0 : 0 ≤ a) (ha1 : a ≤ 255) (hb0 : 0 ≤ b) (hb1 : b ≤ 255) : (UInt8.ofNat a.toNat == UInt8.ofNat b.toNat) = decide (a = b) := by
  rw [Bool.eq_iff_iff, beq_iff_eq, decide_eq_true_iff, ← UInt8.toNat_inj]
  simp only [UInt8.toNat_ofNat']
  omega

theorem byteLess_four (x y : Int) (hx0 : 0 ≤ x) (hx1 : x ≤ 2147483647) (hy0 : 0 ≤ y) (hy1 : y ≤ 2147483647) :
    Op.bytesLess (strOfNums (four x)).toList (strOfNums (four y)).toList = decide (x < y) := by
  have e : ∀ l : List Int, (strOfNums l).toList = l.map fun n => UInt8.ofNat n.toNat := fun l => by
    rw [ByteArray.toList_eq]; exact strOfNums_data l
  rw [e, e]
  simp only [four, List.map_cons, List.map_nil, Op.bytesLess]
  rw [lt8 _ _ (by omega) (by omega) (by omega) (by omega), eq8 _ _ (by omega) (by omega) (by omega) (by omega), lt8 _ _ (by omega) (by omega) (by omega) (by omega), eq8 _ _ (by omega) (by omega) (by omega) (by omega),
    lt8 _ _ (by omega) (by omega) (by omega) (by omega), eq8 _ _ (by omega) (by omega) (by omega) (by omega), lt8 _ _ (by omega) (by omega) (by omega) (by omega), eq8 _ _ (by omega) (by omega) (by omega) (by omega)]
  rw [Bool.eq_iff_iff]
  simp only [Bool.or_eq_true, Bool.and_eq_true, decide_eq_true_iff, Bool.and_false, Bool.or_false]
  omega
end Go.Proofs.Ytlfecmkpafgcmaa
