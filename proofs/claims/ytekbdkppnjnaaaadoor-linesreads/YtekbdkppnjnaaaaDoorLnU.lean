/- Walk of lines.line. -/
import Derived.Test.YtekbdkppnjnaaaaDoorLnT
namespace Go.Proofs.YtekbdkppnjnaaaaDoor
open Go.RowKit

theorem gPow : Tryd.prog.globalNamed "internal/strconv.uint64pow10" = some 4 := by kernel_rfl
/-- the two tables lie where the program keeps them. -/
structure Laid (w : World) : Prop where
  k : Kinds w
  t : Lib.TabIs Tryd.prog w "internal/strconv.uint64pow10" .u64 Lib.pow10Tab
theorem Laid.next {w w' : World} (h : Laid w) (b : Below w.heap.size w w') : Laid w' := by
  refine ⟨h.k.next b, ?_⟩
  have ht := h.t
  unfold Lib.TabIs World.var? at ht ⊢
  rw [gPow, Option.bind_some] at ht ⊢
  by_cases hg : 4 < w.heap.size
  · rw [b.block _ hg]; exact ht
  · rw [Array.getElem?_eq_none (by omega)] at ht
    cases ht
set_option maxRecDepth 20000 in
set_option maxHeartbeats 4000000 in
theorem line_any (f : Nat → Int) (w : World) (hL : Laid w) (hN : Nums f) : Calls Tryd.prog 31 #[aVal f] w fun e w' => e = .returned (.string (str (lineL f ++ [10]))) ∧ Below w.heap.size w w' := by
  obtain ⟨W1, hW1, A1, B1⟩ : ∃ W1, W1 = w.alloc (.cells (aCells f) 27) ∧ aBlock W1 w.heap.size f ∧ Below w.heap.size w W1 := ⟨_, rfl, aBlock.new w f, below1 _ _⟩
  have HC1 := kindOf_any f W1 (hL.next B1).k
  have HD : Hid (∀ n : Nat, (n : Int) ≤ 1073741824 → ∀ u, Below w.heap.size w u → Calls Tryd.prog 42 #[.int .i64 n] u fun e w' => e = .returned (.string (str (Lib.decDigits n))) ∧ Below u.heap.size u w') := veil fun n hn u b => itoa_any n (by omega) u (hL.next b).t
  have HC2 : Hid (∀ u, aBlock u w.heap.size f → Calls Tryd.prog 38 #[ptr w.heap.size 0] u fun e w' => ∃ v, e = .returned v ∧ pRow w' u.heap.size v w.heap.size (noffs (kno (f 0) (f 5))) ∧ Below u.heap.size u w') := veil fun u h => by
    have := numbers_any w.heap.size f u h
    rw [offs_noffs hN.1] at this
    exact this
  clear hL
  unfold lineL
  obtain ⟨hi, hz⟩ := hN
  obtain ⟨hl5, _, ho11, _, _, _⟩ := noffs_facts _ hi
  have hw7 := wordL_len _ hi
  rw [decide_eq_true hi] at HC1
  have hkw := str_word (kno (f 0) (f 5))
  rw [kVal, ← hkw] at HC1
  clear hkw
  generalize wordL (kno (f 0) (f 5)) = wd at *
  generalize noffs (kno (f 0) (f 5)) = os at *
  generalize kact (kno (f 0) (f 5)) = ka at *
  generalize kop (kno (f 0) (f 5)) = ko at *
  clear hi
  obtain ⟨x0, x1, x2, x3, x4, x5, x6, x7, x8, x9, x10⟩ := A1.cells
  have HA := veil A1
  clear A1
  go_enter Tryd.func31, Tryd.ntmps31
  go_upto_region 1 with fail
  rw [← hW1]
  clear hW1
  go_upto_region 2 with (go_at_call 22; refine HC1.mono ?_; rintro e V1 ⟨rfl, b1⟩; clear HC1 x0 x1 x2 x3 x4 x5 x6 x7 x8 x9 x10)
  obtain ⟨W2, hW2, k2, b2⟩ : ∃ W2, W2 = V1.alloc (.cells #[.string (str wd), .int .i64 ka, .int .i64 ko] 49) ∧ kBlock W2 V1.heap.size (str wd) ka ko ∧ Below V1.heap.size V1 W2 := ⟨_, rfl, kBlock.new _ _ _ _, below1 _ _⟩
  rw [← hW2]
  clear hW2
  have HA2 := veil (((unveil HA).next b1).next b2)
  have B2 := Below.next (Below.next B1 b1) b2
  obtain ⟨z0, z1, z2⟩ := k2.cells
  clear HA B1 b1 b2 k2
  go_upto_region 3 with fail
  clear z0 z1 z2
  have HC3 := unveil HC2 W2 (unveil HA2)
  clear HC2
  go_wp2_with (go_at_call 38; refine HC3.mono ?_; rintro e V2 ⟨v, rfl, o1, b3⟩; clear HC3; have HO := veil o1; have HA3 := veil ((unveil HA2).next b3); have B3 := Below.next B2 b3; obtain ⟨a1, c1, rfl⟩ := own_form o1; clear o1 b3 HA2 B2)
  go_loopw [5, 17] (fun sv t wr => ∃ k : Nat, k ≤ os.length ∧ t = .int .i64 k ∧ sv = .string (str (wd ++ numsL ((os.map f).take k))) ∧ Below V2.heap.size V2 wr) (fun _ t _ => os.length - (intOf t).toNat)
  case atStart => exact ⟨0, Nat.zero_le _, rfl, by simp [numsL], Below.refl _ _⟩
  case round =>
    obtain ⟨k, hk, rfl, rfl, bk⟩ := hrel
    have hlen : (str (wd ++ numsL ((os.map f).take k))).size ≤ 62 := by
      rw [str_size, List.length_append]
      have := numsL_len (l := (os.map f).take k) (fun x hx => by have := hz x (List.mem_of_mem_take hx); omega)
      rw [List.length_take, List.length_map] at this
      omega
    have hs1 : (str [32]).size = 1 := rfl
    have hs2 : (str [10]).size = 1 := rfl
    have h32 : (⟨#[32]⟩ : ByteArray) = str [32] := rfl
    have h10 : (⟨#[10]⟩ : ByteArray) = str [10] := rfl
    rw [h32, h10] at *
    by_cases hlt : k < os.length
    case neg =>
      obtain rfl : k = os.length := by omega
      have HF : Hid (str (wd ++ numsL ((os.map f).take os.length)) ++ str [10] = str (wd ++ numsL (os.map f) ++ [10])) := veil (by
        rw [str_app, List.take_of_length_le (by simp)])
      clear HD HO HA3 hz h32 h10 hs1
      generalize str (wd ++ numsL ((os.map f).take os.length)) = s1 at *
      go_wp2
      go_ret
      exact ⟨congrArg (fun s => Ending.returned (Value.string s)) (unveil HF), Below.next B3 bk⟩
    case pos =>
      obtain ⟨G, c1', e1, _, hG, yk, hc⟩ := pRow.at (own_still (unveil HO) (fun g _ hg => bk.block g hg)) k hlt
      obtain ⟨rfl, rfl⟩ : a1 = some ⟨G, 0, none⟩ ∧ c1 = c1' := by simpa using e1
      have hml : k < (os.map f).length := by rw [List.length_map]; exact hlt
      have hzk := hz (os.map f)[k] (List.getElem_mem hml)
      have hok : os[k] < 11 := ho11 _ (List.getElem_mem hlt)
      have xk := ((unveil HA3).next bk).cell os[k] hok
      have hfk : (os.map f)[k] = f os[k] := List.getElem_map ..
      obtain ⟨z, hzz⟩ : ∃ z : Nat, f os[k] = (z : Int) := ⟨(f os[k]).toNat, by rw [hfk] at hzk; omega⟩
      have HNx : Hid (str (wd ++ numsL ((os.map f).take k)) ++ (str [32] ++ str (Lib.decDigits z)) = str (wd ++ numsL ((os.map f).take (k + 1)))) := veil (by
        rw [numsL_next hml, str_app, str_app, hfk, hzz, Int.toNat_natCast, List.append_assoc]
        rfl)
      have hlen2 : (str (Lib.decDigits z)).size ≤ 10 := by rw [str_size]; exact dec_len z 9 (by rw [hfk, hzz] at hzk; omega)
      rw [hzz] at xk
      rw [hfk, hzz] at hzk
      have H1 := unveil HD z hzk.2 wr (Below.next B3 bk)
      obtain ⟨o, hoo⟩ : ∃ o, o = os[k] := ⟨_, rfl⟩
      rw [← hoo] at yk xk
      clear e1 hzz HD HO hc h32 h10 hs2 hoo hfk hml hok
      generalize str (wd ++ numsL ((os.map f).take k)) = s1 at *
      generalize str (Lib.decDigits z) = s2 at *
      generalize str [32] = s3 at *
      have hs13 : (s3 ++ s2).size = s3.size + s2.size := ByteArray.size_append
      go_wp2_with (go_at_call 42; refine H1.mono ?_; rintro x V3 ⟨rfl, b3⟩; clear H1)
      go_roundw <;> first | exact ⟨k + 1, by omega, by go_num, by rw [← unveil HNx], Below.next bk b3⟩ | (simp [intOf]; omega)
end Go.Proofs.YtekbdkppnjnaaaaDoor
