/- An act's line: walks of the document's ActLine and of lines.line. -/
import Derived.Test.YtekbdkppnjnaaaaDoorLnR
import Derived.Lib.LaidTab
namespace Go.Proofs.YtekbdkppnjnaaaaDoor
open Go.RowKit

/-- numbers, a blank ahead of each. -/
def numsL (l : List Int) : List UInt8 := l.flatMap fun z => 32 :: Lib.decDigits z.toNat
theorem numsL_next {l : List Int} {k : Nat} (hk : k < l.length) : numsL (l.take (k + 1)) = numsL (l.take k) ++ (32 :: Lib.decDigits l[k].toNat) := by
  unfold numsL
  rw [show l.take (k + 1) = l.take k ++ [l[k]] by rw [List.take_add_one, List.getElem?_eq_getElem hk]; rfl, List.flatMap_append]
  simp
theorem numsL_len {l : List Int} (h : ∀ z ∈ l, z.toNat < 10000000000) : (numsL l).length ≤ 11 * l.length := by
  induction l with
  | nil => simp [numsL]
  | cons z l ih =>
    have h1 := ih (fun y hy => h y (List.mem_cons_of_mem _ hy))
    have h2 := dec_len z.toNat 9 (by have := h z (List.mem_cons_self ..); omega)
    show (32 :: Lib.decDigits z.toNat ++ numsL l).length ≤ _
    simp only [List.length_append, List.length_cons]
    omega
/-- an act's word and numbers. -/
def wordL (i : Nat) : List UInt8 := (kword i).data.toList
theorem wordL_len : ∀ i, i < 12 → (wordL i).length ≤ 7 := by
  refine below12 ?_ ?_ ?_ ?_ ?_ ?_ ?_ ?_ ?_ ?_ ?_ ?_ <;> decide
theorem str_word (i : Nat) : str (wordL i) = kword i := by simp [str, wordL]
def lineL (f : Nat → Int) : List UInt8 := wordL (kno (f 0) (f 5)) ++ numsL ((noffs (kno (f 0) (f 5))).map f)
/-- the numbers of an act that may be. -/
def Nums (f : Nat → Int) : Prop := kno (f 0) (f 5) < 12 ∧ ∀ z ∈ (noffs (kno (f 0) (f 5))).map f, 0 ≤ z ∧ z ≤ 1073741824
theorem mosts_le : ∀ i, i < 12 → ∀ z ∈ mosts i, z ≤ 1073741824 := by
  refine below12 ?_ ?_ ?_ ?_ ?_ ?_ ?_ ?_ ?_ ?_ ?_ ?_ <;> simp [mosts]
theorem chk_nums {f : Nat → Int} (h : chk f = 0) : Nums f := by
  rw [chk_ref] at h
  unfold refFault at h
  by_cases hi : kno (f 0) (f 5) < 12
  · refine ⟨hi, ?_⟩
    rw [if_pos hi] at h
    by_cases ha : allIn ((noffs (kno (f 0) (f 5))).map f) (mosts (kno (f 0) (f 5)))
    · intro z hz
      obtain ⟨k, hk, rfl⟩ := List.mem_iff_getElem.1 hz
      have hl : ((noffs (kno (f 0) (f 5))).map f).length = (mosts (kno (f 0) (f 5))).length := by rw [List.length_map]; exact (noffs_facts _ hi).2.1
      have := ha k hk (by omega)
      have hm := mosts_le _ hi _ (List.getElem_mem (show k < (mosts (kno (f 0) (f 5))).length by omega))
      omega
    · rw [if_neg ha] at h
      cases h
  · rw [if_neg hi] at h
    cases h
theorem line_len {f : Nat → Int} (h : Nums f) : (lineL f).length ≤ 62 := by
  unfold lineL
  have h1 := wordL_len _ h.1
  have h2 := numsL_len (l := (noffs (kno (f 0) (f 5))).map f) (fun z hz => by have := h.2 z hz; omega)
  have h3 := (noffs_facts _ h.1).1
  rw [List.length_map] at h2
  rw [List.length_append]
  omega
set_option maxRecDepth 20000 in
set_option maxHeartbeats 4000000 in
theorem actLine_any (f : Nat → Int) (w : World) (hN : Nums f) : Calls Tryd.prog 33 #[aVal f] w fun e w' => e = .returned (.string (str (lineL f))) ∧ Below w.heap.size w w' := by
  obtain ⟨W1, hW1, A1, B1⟩ : ∃ W1, W1 = w.alloc (.cells (aCells f) 27) ∧ aBlock W1 w.heap.size f ∧ Below w.heap.size w W1 := ⟨_, rfl, aBlock.new w f, below1 _ _⟩
  have HC1 := actNumbers_any f W1
  have HC2 : Hid (∀ u, Calls Tryd.prog 26 #[aVal f] u fun e w' => e = .returned (.string (str (wordL (kno (f 0) (f 5))))) ∧ Below u.heap.size u w') := veil fun u => by rw [str_word]; exact actWord_any f u
  have HD : Hid (∀ n : Nat, (n : Int) ≤ 1073741824 → ∀ u, Calls Tryd.prog 43 #[.int .i64 n] u fun e w' => e = .returned (.string (str (Lib.decDigits n))) ∧ Below u.heap.size u w') := veil fun n hn u => dec_any n (by omega) u
  unfold lineL
  obtain ⟨hi, hz⟩ := hN
  have hl5 := (noffs_facts _ hi).1
  have hw7 := wordL_len _ hi
  generalize wordL (kno (f 0) (f 5)) = wd at *
  have hl5' : ((noffs (kno (f 0) (f 5))).map f).length ≤ 5 := by rw [List.length_map]; exact hl5
  generalize (noffs (kno (f 0) (f 5))).map f = l at *
  clear hl5 hi
  obtain ⟨x0, x1, x2, x3, x4, x5, x6, x7, x8, x9, x10⟩ := A1.cells
  have HA := veil A1
  clear A1
  go_enter Tryd.func33, Tryd.ntmps33
  go_upto_region 1 with fail
  rw [← hW1]
  clear hW1
  go_upto_region 2 with (go_at_call 27; refine HC1.mono ?_; rintro e V1 ⟨v1, v2, rfl, o1, o2, b1⟩; clear HC1 x0 x1 x2 x3 x4 x5 x6 x7 x8 x9 x10)
  have HA1 := veil ((unveil HA).next b1)
  have B2 := Below.next B1 b1
  have HO := veil o1
  obtain ⟨a1, c1, rfl⟩ := own_form o1
  obtain ⟨a2, c2, rfl⟩ := own_form o2
  clear HA B1 b1 o1 o2
  obtain ⟨x0, x1, x2, x3, x4, x5, x6, x7, x8, x9, x10⟩ := (unveil HA1).cells
  have HC3 := unveil HC2 V1
  clear HC2 HA1
  go_upto_region 3 with (go_at_call 26; refine HC3.mono ?_; rintro e V2 ⟨rfl, b2⟩; clear HC3 x0 x1 x2 x3 x4 x5 x6 x7 x8 x9 x10)
  have B3 := Below.next B2 b2
  have HO2 : Hid (iRow V2 W1.heap.size (.slice a1 l.length c1) l) := veil (own_still (unveil HO) (fun g _ hg => b2.block g hg))
  clear HO B2 b2
  go_wp2_with fail
  go_loopw [5, 6] (fun sv t wr => ∃ k : Nat, k ≤ l.length ∧ t = .int .i64 k ∧ sv = .string (str (wd ++ numsL (l.take k))) ∧ Below V2.heap.size V2 wr) (fun _ t _ => l.length - (intOf t).toNat)
  case atStart => exact ⟨0, Nat.zero_le _, rfl, by simp [numsL], Below.refl _ _⟩
  case round =>
    obtain ⟨k, hk, rfl, rfl, bk⟩ := hrel
    by_cases hlt : k < l.length
    case neg =>
      obtain rfl : k = l.length := by omega
      rw [List.take_length]
      clear HD HO2
      go_wp2
      go_ret
      exact ⟨rfl, Below.next B3 bk⟩
    case pos =>
      obtain ⟨G, c1', e1, _, hG, y, hc⟩ := iRow.at (own_still (unveil HO2) (fun g _ hg => bk.block g hg)) (show 0 < l.length by omega)
      obtain ⟨rfl, rfl⟩ : a1 = some ⟨G, 0, none⟩ ∧ c1 = c1' := by simpa using e1
      have yk := y k hlt
      have hzk := hz l[k] (List.getElem_mem hlt)
      obtain ⟨z, hzz⟩ : ∃ z : Nat, l[k] = (z : Int) := ⟨l[k].toNat, by omega⟩
      have HNx : Hid (str (wd ++ numsL (l.take k)) ++ str [32] ++ str (Lib.decDigits z) = str (wd ++ numsL (l.take (k + 1)))) := veil (by
        rw [numsL_next hlt, str_app, str_app, hzz, Int.toNat_natCast, List.append_assoc, List.append_assoc]
        rfl)
      have hlen : (str (wd ++ numsL (l.take k))).size ≤ 62 := by
        rw [str_size, List.length_append]
        have := numsL_len (l := l.take k) (fun x hx => by have := hz x (List.mem_of_mem_take hx); omega)
        rw [List.length_take] at this
        omega
      have hlen2 : (str (Lib.decDigits z)).size ≤ 10 := by rw [str_size]; exact dec_len z 9 (by omega)
      rw [hzz] at yk hzk
      have H1 := unveil HD z hzk.2 wr
      clear e1 y hzz HD HO2 hc
      have hs1 : (str [32]).size = 1 := rfl
      have h32 : (⟨#[32]⟩ : ByteArray) = str [32] := rfl
      rw [h32] at *
      generalize str (wd ++ numsL (l.take k)) = s1 at *
      generalize str (Lib.decDigits z) = s2 at *
      generalize str [32] = s3 at *
      clear h32
      have hs13 : (s1 ++ s3).size = s1.size + s3.size := ByteArray.size_append
      go_wp2_with (go_at_call 43; refine H1.mono ?_; rintro x V3 ⟨rfl, b3⟩; clear H1)
      go_roundw <;> first | exact ⟨k + 1, by omega, by go_num, by rw [← unveil HNx], Below.next bk b3⟩ | (simp [intOf]; omega)
end Go.Proofs.YtekbdkppnjnaaaaDoor
