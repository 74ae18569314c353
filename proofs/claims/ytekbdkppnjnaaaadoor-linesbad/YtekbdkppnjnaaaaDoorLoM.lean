/- Walk of LinesBad: a line that is none is told by its place. -/
import Derived.Test.YtekbdkppnjnaaaaDoorLoL
namespace Go.Proofs.YtekbdkppnjnaaaaDoor
open Go.RowKit

/-- the ten lines that are none. -/
def badL : Nat → List UInt8
  | 0 => [97, 108, 108, 32, 49, 10]
  | 1 => [115, 116, 101, 112, 10]
  | 2 => [115, 116, 101, 112, 32, 53, 10]
  | 3 => [109, 97, 107, 101, 32, 52, 32, 48, 10]
  | 4 => [10]
  | 5 => [112, 117, 98, 108, 105, 115, 104, 32, 48, 32, 48, 32, 48, 32, 48, 10]
  | 6 => [114, 101, 99, 101, 105, 118, 101, 32, 49, 10]
  | 7 => [99, 97, 114, 114, 121, 32, 48, 49, 10]
  | 8 => [99, 114, 97, 115, 104, 32, 49, 32, 49, 48, 48, 48, 48, 49, 10]
  | 9 => [65, 108, 108, 10]
  | _ => []
theorem below10 {P : Nat → Prop} (h0 : P 0) (h1 : P 1) (h2 : P 2) (h3 : P 3) (h4 : P 4) (h5 : P 5) (h6 : P 6) (h7 : P 7) (h8 : P 8) (h9 : P 9) : ∀ i, i < 10 → P i
  | 0, _ => h0
  | 1, _ => h1
  | 2, _ => h2
  | 3, _ => h3
  | 4, _ => h4
  | 5, _ => h5
  | 6, _ => h6
  | 7, _ => h7
  | 8, _ => h8
  | 9, _ => h9
  | n + 10, h => absurd h (by omega)
theorem chk_all {f : Nat → Int} (h : chk f = 0) : allIn ((noffs (kno (f 0) (f 5))).map f) (mosts (kno (f 0) (f 5))) := by
  have hi := (chk_nums h).1
  rw [chk_ref] at h
  unfold refFault at h
  rw [if_pos hi] at h
  by_cases ha : allIn ((noffs (kno (f 0) (f 5))).map f) (mosts (kno (f 0) (f 5)))
  · exact ha
  · rw [if_neg ha] at h; cases h
/-- a line with this word, and these numbers' digits. -/
theorem line_is {f : Nat → Int} (h : chk f = 0) (K : Nat) (hK : K < 12) (r : List UInt8) (hr : Opens r) (e : lineL f = wordL K ++ r) : kno (f 0) (f 5) = K ∧ numsL ((noffs K).map f) = r := by
  have hi := (chk_nums h).1
  unfold lineL at e
  obtain ⟨e1, e2⟩ := word_eq (word_no _ hi).1 (word_no _ hK).1 (nums_opens _) hr e
  have e3 := word_inj _ hi _ hK e1
  rw [e3] at e2
  exact ⟨e3, e2⟩
theorem line_nums {f : Nat → Int} (h : chk f = 0) (K : Nat) (hK : K < 12) (m : List Int) (hm : ∀ z ∈ m, 0 ≤ z) (e : lineL f = wordL K ++ numsL m) : (noffs K).map f = m ∧ allIn m (mosts K) := by
  obtain ⟨e1, e2⟩ := line_is h K hK _ (nums_opens m) e
  have hn := (chk_nums h).2
  have ha := chk_all h
  rw [e1] at hn ha
  have e3 := nums_inj _ _ (fun z hz => (hn z hz).1) hm e2
  rw [e3] at ha
  exact ⟨e3, ha⟩
theorem dec_small : ∀ n, n < 10 → Lib.decDigits n = [UInt8.ofNat (48 + n)] := fun n h => by rw [Lib.decDigits, dif_pos h]
theorem dec_100001 : Lib.decDigits 100001 = [49, 48, 48, 48, 48, 49] := by
  rw [Lib.decDigits, dif_neg (by omega), Lib.decDigits, dif_neg (by omega), Lib.decDigits, dif_neg (by omega), Lib.decDigits, dif_neg (by omega), Lib.decDigits, dif_neg (by omega), Lib.decDigits, dif_pos (by omega)]
  decide
theorem nums1 (z : Int) : numsL [z] = 32 :: Lib.decDigits z.toNat := by simp [numsL]
theorem nums2 (z y : Int) : numsL [z, y] = 32 :: (Lib.decDigits z.toNat ++ (32 :: Lib.decDigits y.toNat)) := by simp [numsL]
theorem bad_none : ∀ i, i < 10 → ∀ f, ¬ IsLine (badL i) f := by
  refine below10 ?_ ?_ ?_ ?_ ?_ ?_ ?_ ?_ ?_ ?_
  · rintro f ⟨h, e⟩
    have e' : lineL f = wordL 8 ++ numsL [1] := List.append_cancel_right (e.symm.trans (show badL 0 = (wordL 8 ++ numsL [1]) ++ [10] by rw [nums1, show (1 : Int).toNat = 1 from rfl, dec_small 1 (by omega)]; rfl))
    exact absurd (line_nums h 8 (by omega) [1] (by decide) e').1 (by simp [noffs])
  · rintro f ⟨h, e⟩
    have e' : lineL f = wordL 2 ++ numsL [] := List.append_cancel_right (e.symm.trans (show badL 1 = (wordL 2 ++ numsL []) ++ [10] from rfl))
    exact absurd (line_nums h 2 (by omega) [] (by simp) e').1 (by simp [noffs])
  · rintro f ⟨h, e⟩
    have e' : lineL f = wordL 2 ++ numsL [5] := List.append_cancel_right (e.symm.trans (show badL 2 = (wordL 2 ++ numsL [5]) ++ [10] by rw [nums1, show (5 : Int).toNat = 5 from rfl, dec_small 5 (by omega)]; rfl))
    have := (line_nums h 2 (by omega) [5] (by decide) e').2 0 (by decide) (by decide)
    simp [mosts] at this
  · rintro f ⟨h, e⟩
    have e' : lineL f = wordL 0 ++ numsL [4, 0] := List.append_cancel_right (e.symm.trans (show badL 3 = (wordL 0 ++ numsL [4, 0]) ++ [10] by rw [nums2, show (4 : Int).toNat = 4 from rfl, show (0 : Int).toNat = 0 from rfl, dec_small 4 (by omega), dec_small 0 (by omega)]; rfl))
    have := (line_nums h 0 (by omega) [4, 0] (by decide) e').2 0 (by decide) (by decide)
    simp [mosts] at this
  · rintro f ⟨h, e⟩
    exact (line_no h).2 (List.append_cancel_right (e.symm.trans (show badL 4 = [] ++ [10] from rfl)))
  · rintro f ⟨h, e⟩
    have e' : lineL f = wordL 9 ++ numsL [0, 0, 0, 0] := List.append_cancel_right (e.symm.trans (show badL 5 = (wordL 9 ++ numsL [0, 0, 0, 0]) ++ [10] by
      unfold numsL
      simp only [List.flatMap_cons, List.flatMap_nil, show (0 : Int).toNat = 0 from rfl, dec_small 0 (by omega)]
      rfl))
    exact absurd (line_nums h 9 (by omega) [0, 0, 0, 0] (by decide) e').1 (by simp [noffs])
  · rintro f ⟨h, e⟩
    have e' : lineL f = wordL 10 ++ numsL [1] := List.append_cancel_right (e.symm.trans (show badL 6 = (wordL 10 ++ numsL [1]) ++ [10] by rw [nums1, show (1 : Int).toNat = 1 from rfl, dec_small 1 (by omega)]; rfl))
    exact absurd (line_nums h 10 (by omega) [1] (by decide) e').1 (by simp [noffs])
  · rintro f ⟨h, e⟩
    have e' : lineL f = wordL 5 ++ [32, 48, 49] := List.append_cancel_right (e.symm.trans (show badL 7 = (wordL 5 ++ [32, 48, 49]) ++ [10] from rfl))
    have e2 := (line_is h 5 (by omega) [32, 48, 49] (.inr ⟨_, rfl⟩) e').2
    have e3 : Lib.decDigits (f 3).toNat = [48, 49] := by
      have : numsL [f 3] = [32, 48, 49] := e2
      rw [nums1] at this
      exact (List.cons.inj this).2
    have e4 := dec_from (f 3).toNat
    rw [e3] at e4
    have e5 : (f 3).toNat = 1 := (Option.some.inj (e4.symm.trans (show Lib.decFrom 0 [48, 49] = some 1 by decide)))
    rw [e5, dec_small 1 (by omega)] at e3
    exact absurd e3 (by decide)
  · rintro f ⟨h, e⟩
    have e' : lineL f = wordL 4 ++ numsL [1, 100001] := List.append_cancel_right (e.symm.trans (show badL 8 = (wordL 4 ++ numsL [1, 100001]) ++ [10] by rw [nums2, show (1 : Int).toNat = 1 from rfl, show (100001 : Int).toNat = 100001 from rfl, dec_small 1 (by omega), dec_100001]; rfl))
    have := (line_nums h 4 (by omega) [1, 100001] (by decide) e').2 1 (by decide) (by decide)
    simp [mosts] at this
  · rintro f ⟨h, e⟩
    have e' : lineL f = [65, 108, 108] ++ [] := List.append_cancel_right (e.symm.trans (show badL 9 = ([65, 108, 108] ++ []) ++ [10] from rfl))
    have hi := (chk_nums h).1
    unfold lineL at e'
    obtain ⟨e1, _⟩ := word_eq (word_no _ hi).1 (by decide) (nums_opens _) (.inl rfl) e'
    revert e1
    generalize kno (f 0) (f 5) = k at hi
    revert k
    refine below12 ?_ ?_ ?_ ?_ ?_ ?_ ?_ ?_ ?_ ?_ ?_ ?_ <;> decide
theorem bad_form : ∀ i, i < 10 → ∃ l, badL i = l ++ [10] ∧ (10 : UInt8) ∉ l ∧ l.length ≤ 20 := by
  refine below10 ?_ ?_ ?_ ?_ ?_ ?_ ?_ ?_ ?_ ?_
  · exact ⟨[97, 108, 108, 32, 49], rfl, by decide, by decide⟩
  · exact ⟨[115, 116, 101, 112], rfl, by decide, by decide⟩
  · exact ⟨[115, 116, 101, 112, 32, 53], rfl, by decide, by decide⟩
  · exact ⟨[109, 97, 107, 101, 32, 52, 32, 48], rfl, by decide, by decide⟩
  · exact ⟨[], rfl, by decide, by decide⟩
  · exact ⟨[112, 117, 98, 108, 105, 115, 104, 32, 48, 32, 48, 32, 48, 32, 48], rfl, by decide, by decide⟩
  · exact ⟨[114, 101, 99, 101, 105, 118, 101, 32, 49], rfl, by decide, by decide⟩
  · exact ⟨[99, 97, 114, 114, 121, 32, 48, 49], rfl, by decide, by decide⟩
  · exact ⟨[99, 114, 97, 115, 104, 32, 49, 32, 49, 48, 48, 48, 48, 49], rfl, by decide, by decide⟩
  · exact ⟨[65, 108, 108], rfl, by decide, by decide⟩
/-- what Read answers of it. -/
theorem read_bad {E F D : List Int} {k m n i : Nat} {p er : Int} (hE : Acts E k) (hk : k ≤ 60) (hF : Acts F m) (hm : m ≤ 60) (hi : i < 10) (h : ReadR (showL E k ++ badL i ++ showL F m) D n p er) : n = 0 ∧ p = k ∧ er = 3 := by
  obtain ⟨l, el, hl, hl2⟩ := bad_form i hi
  have hls : linesOf (showL E k ++ badL i ++ showL F m) = ((List.range k).map fun i => lineL (actAt E i) ++ [10]) ++ (badL i :: linesOf (showL F m)) := by
    rw [List.append_assoc, lines_show hE, el, lines_cons hl]
  have hlen : (showL E k ++ badL i ++ showL F m).length ≤ 4000000 := by
    have h1 := showL_len (k := k) hE.2
    have h2 := showL_len (k := m) hF.2
    rw [el]
    simp only [List.length_append, List.length_singleton]
    omega
  have hgood : ∀ j s, (linesOf (showL E k ++ badL i ++ showL F m))[j]? = some s → j < k → ∃ f, IsLine s f := fun j s hs hj => by
    rw [hls, List.getElem?_append_left (by simpa using hj)] at hs
    exact ⟨actAt E j, hE.2 j hj, by simpa [hj] using hs.symm⟩
  have hbad : (linesOf (showL E k ++ badL i ++ showL F m))[k]? = some (badL i) := by
    rw [hls, List.getElem?_append_right (by simp)]
    simp
  cases h with
  | size h => omega
  | full h h1 hg => obtain ⟨f, hf⟩ := hg k _ hbad (by omega); exact absurd hf (bad_none i hi f)
  | form h k' s hk' h1 hg hb =>
    refine ⟨rfl, ?_, rfl⟩
    rcases Nat.lt_trichotomy k' k with e | e | e
    · obtain ⟨f, hf⟩ := hgood k' s hk' e; exact absurd hf (hb f)
    · rw [e]
    · obtain ⟨f, hf⟩ := hg k _ hbad e; exact absurd hf (bad_none i hi f)
  | good h D h1 hD hg => exact absurd (hg k _ hbad) (bad_none i hi _)
/-- acts cut in two. -/
theorem acts_take {E : List Int} {n k : Nat} (h : Acts E n) (hk : k ≤ n) : Acts (E.take (11 * k)) k := by
  refine ⟨by rw [List.length_take, h.1]; omega, fun i hi => chk_ext (fun o ho => ?_) (h.2 i (by omega))⟩
  unfold actAt
  rw [List.getD_eq_getElem?_getD, List.getD_eq_getElem?_getD, List.getElem?_take, if_pos (by omega)]
theorem acts_drop {E : List Int} {n k : Nat} (h : Acts E n) (hk : k ≤ n) : Acts (E.drop (11 * k)) (n - k) := by
  refine ⟨by rw [List.length_drop, h.1]; omega, fun i hi => chk_ext (fun o ho => ?_) (h.2 (k + i) (by omega))⟩
  unfold actAt
  rw [List.getD_eq_getElem?_getD, List.getD_eq_getElem?_getD, List.getElem?_drop]
  congr 2
  omega
def acut (ad : Option Addr) (c l : Nat) : Option Addr := if c = l then ad else ad.map (·.add (l * 11))
theorem actT : Tryd.prog.underlying 31 = some (.slice (Tryd.prog.elem 31)) := by kernel_rfl
theorem actSize (w : World) : (sizeOf (Tryd.prog.elem 31)).run Tryd.prog w = .ok 11 w := by
  have : Tryd.prog.elem 31 = 27 := by kernel_rfl
  rw [this]
  simp [sizeOf, go_sem]
  rfl
theorem run_acut_l (ad : Option Addr) (n c l : Nat) (h1 : l ≤ n) (w : World) : (Instr.sliceAt 31 (.slice ad n c) (some (.int .i64 l)) none none).run Tryd.prog w = .ok (.slice (acut ad c l) (n - l) (c - l)) w := by
  rw [run_sliceAt_slice w _ _ _ _ _ actT, run_slice_l w _ _ _ _ actT _ _ (by omega) (by omega), actSize]
  simp [sliced, acut]
theorem run_acut_hm (ad : Option Addr) (n c h : Nat) (h1 : h ≤ c) (w : World) : (Instr.sliceAt 31 (.slice ad n c) none (some (.int .i64 h)) (some (.int .i64 h))).run Tryd.prog w = .ok (.slice (acut ad h 0) h h) w := by
  rw [run_sliceAt_slice w _ _ _ _ _ actT, run_slice_hm w _ _ _ _ actT _ _ _ _ (by omega) (by omega) (by omega), actSize]
  simp [sliced, acut]
theorem row_within {k : IntKind} {w : World} {b off len : Nat} {L : List Int} (h : RowK k w (some ⟨b, off, none⟩) len L) (d m : Nat) (hd : d + m ≤ len) : RowK k w (some ⟨b, off + d, none⟩) m ((L.drop d).take m) := by
  have hl := h.len_eq
  refine ⟨by rw [List.length_take, List.length_drop]; omega, fun u hu => h.wf u (List.mem_of_mem_drop (List.mem_of_mem_take hu)), fun i hi => ⟨b, off + d, rfl, h.lt (by omega), ?_⟩⟩
  have hc := h.at (d + i) (by omega)
  rw [Nat.add_assoc, hc]
  congr 2
  simp only [List.getD_eq_getElem?_getD]
  rw [List.getElem?_take, if_pos hi, List.getElem?_drop]
theorem acut_first {w : World} {ad : Option Addr} {n k : Nat} {E : List Int} (hr : RowK .i64 w ad (11 * n) E) (hk : k ≤ n) : RowK .i64 w (acut ad k 0) (11 * k) (E.take (11 * k)) := by
  rcases Nat.eq_zero_or_pos k with h0 | h0
  · subst h0
    simp only [Nat.mul_zero, List.take_zero]
    exact RowK.nil _ _ _
  · obtain ⟨b, off, rfl⟩ := hr.form (by omega)
    have := row_within hr 0 (11 * k) (by omega)
    simpa [acut, Addr.add] using this
theorem acut_rest {w : World} {ad : Option Addr} {n c k : Nat} {E : List Int} (hr : RowK .i64 w ad (11 * n) E) (hk : k ≤ n) (hc : n ≤ c) : RowK .i64 w (acut ad c k) (11 * (n - k)) (E.drop (11 * k)) := by
  rcases Nat.eq_zero_or_pos (n - k) with h0 | h0
  · have hl := hr.len_eq
    rw [h0, List.drop_eq_nil_of_le (by omega)]
    exact RowK.nil _ _ _
  · obtain ⟨b, off, rfl⟩ := hr.form (by omega)
    have hl := hr.len_eq
    have h2 := row_within hr (11 * k) (11 * (n - k)) (by omega)
    rw [List.take_of_length_le (by rw [List.length_drop]; omega)] at h2
    unfold acut
    rw [if_neg (by omega)]
    rw [Nat.mul_comm 11 k] at h2
    by_cases hk0 : k = 0
    · subst hk0
      simpa [Addr.add] using h2
    · have hk1 : ¬ k * 11 = 0 := by omega
      rw [Nat.mul_comm 11 k]
      simpa [Addr.add, hk1] using h2
set_option maxRecDepth 20000 in
set_option maxHeartbeats 8000000 in
theorem walk_LinesBad (w : World) (hL : LaidR w) (a : Option Addr) (len cap : Nat) (D : List Int) (h : RowK .i64 w a (5 * len) D) (_ : len ≤ cap) (_ : a = none → cap = 0) (_ : cap * 40 ≤ 140737488351232) (at0 : Int) (wat : (Lit.int .i64 at0).wf = true) (bad : Int) (wbad : (Lit.int .i64 bad).wf = true) :
    Calls Tryd.prog 9 #[.slice a len cap, .int .i64 at0, .int .i64 bad] w fun x w' => x = .returned (.bool true) ∧ Below w.heap.size w w' := by
  have H1 := feats_any a len cap D w h 20 (by omega)
  have HS : Hid (∀ u a n c E, Below w.heap.size w u → RowK .i64 u a (11 * n) E → n ≤ 50 → Acts E n → Calls Tryd.prog 13 #[.slice a n c] u fun x w' => x = .returned (.tuple #[.string (str (showL E n)), .int .i64 0, .int .i64 0]) ∧ Below u.heap.size u w') := veil fun u a n c E b h hn hE => by
    refine (show_any a n c E u (hL.l.next b) h (by omega)).mono ?_
    rintro x w' ⟨s, c, e, rfl, r, b'⟩
    obtain ⟨rfl, rfl, rfl⟩ := r.det (.good (by omega) hE.2)
    exact ⟨rfl, b'⟩
  have HR : Hid (∀ u E k F m i, Below w.heap.size w u → k ≤ 50 → Acts E k → m ≤ 50 → Acts F m → i < 10 → Calls Tryd.prog 16 #[.string (str (showL E k ++ badL i ++ showL F m))] u fun x w' => ∃ a c, x = .returned (.tuple #[.slice a 0 c, .int .i64 k, .int .i64 3]) ∧ Below u.heap.size u w') := veil fun u E k F m i b hk hE hm hF hi => by
    refine (read_full _ u (hL.next b)).mono ?_
    rintro x w' ⟨v, D, n', p, er, rfl, r, o, b'⟩
    obtain ⟨rfl, rfl, rfl⟩ := read_bad hE (by omega) hF (by omega) hi r
    obtain ⟨a, c, rfl⟩ := own_form o
    exact ⟨a, c, rfl, b'⟩
  clear hL h
  go_enter Tryd.func9, Tryd.ntmps9
  go_upto_region 2 with (go_at_call 20; refine H1.mono ?_; rintro x V1 ⟨v, E, n, rfl, hn, hE, o1, b1⟩; clear H1)
  obtain ⟨a1, c1, rfl, r1, hc1, _⟩ := RowK.ofMany o1 (acts_wf hE.1 hE.2)
  clear o1
  have hp := pickedOf_range at0 (n + 1) (by omega)
  obtain ⟨k, hk⟩ : ∃ k : Nat, pickedOf at0 (n + 1) = k := ⟨(pickedOf at0 (n + 1)).toNat, by omega⟩
  have hkn : k ≤ n := by omega
  have HP : Hid (∀ u, Calls Tryd.prog 21 #[.int .i64 at0, .int .i64 ((n : Int) + 1)] u fun e w' => e = .returned (.int .i64 k) ∧ u = w') := veil fun u => by
    have := picked_any at0 ((n : Int) + 1) u wat (by omega) (by omega)
    rw [hk] at this
    exact this
  have H2 := unveil HP V1
  clear HP hp hk
  go_upto_region 3 with (go_at_call 21; refine H2.mono ?_; rintro e w' ⟨rfl, rfl⟩; clear H2)
  have hs1 := run_acut_hm a1 n c1 k (by omega)
  have H3 := unveil HS V1 (acut a1 k 0) k k (E.take (11 * k)) b1 (acut_first r1 hkn) (by omega) (acts_take hE hkn)
  go_upto_region 4 with (go_at_call 13; refine H3.mono ?_; rintro x V2 ⟨rfl, b2⟩; clear H3)
  have B2 := Below.next b1 b2
  have r2 := r1.below b2
  have hs2 := run_acut_l a1 n c1 k hkn
  have H4 := unveil HS V2 (acut a1 c1 k) (n - k) (c1 - k) (E.drop (11 * k)) B2 (acut_rest r2 hkn hc1) (by omega) (acts_drop hE hkn)
  clear HS hs1 b1 b2 r1
  go_upto_region 5 with (go_at_call 13; refine H4.mono ?_; rintro x V3 ⟨rfl, b3⟩; clear H4)
  have B3 := Below.next B2 b3
  clear hs2 r2 B2 b3
  have hq := pickedOf_range bad 10 (by omega)
  obtain ⟨i, hi⟩ : ∃ i : Nat, pickedOf bad 10 = i := ⟨(pickedOf bad 10).toNat, by omega⟩
  have hi10 : i < 10 := by omega
  have HP : Hid (∀ u, Calls Tryd.prog 21 #[.int .i64 bad, .int .i64 10] u fun e w' => e = .returned (.int .i64 i) ∧ u = w') := veil fun u => by
    have := picked_any bad 10 u wbad (by omega) (by omega)
    rw [hi] at this
    exact this
  clear hq hi
  go_upto_region 6 with fail
  obtain ⟨W4, hW4, y, b4⟩ : ∃ W4, W4 = V3.alloc (.cells #[.string ⟨#[97, 108, 108, 32, 49, 10]⟩, .string ⟨#[115, 116, 101, 112, 10]⟩, .string ⟨#[115, 116, 101, 112, 32, 53, 10]⟩, .string ⟨#[109, 97, 107, 101, 32, 52, 32, 48, 10]⟩, .string ⟨#[10]⟩, .string ⟨#[112, 117, 98, 108, 105, 115, 104, 32, 48, 32, 48, 32, 48, 32, 48, 10]⟩, .string ⟨#[114, 101, 99, 101, 105, 118, 101, 32, 49, 10]⟩, .string ⟨#[99, 97, 114, 114, 121, 32, 48, 49, 10]⟩, .string ⟨#[99, 114, 97, 115, 104, 32, 49, 32, 49, 48, 48, 48, 48, 49, 10]⟩, .string ⟨#[65, 108, 108, 10]⟩] 9) ∧ (∀ j, j < 10 → W4.cell? ⟨V3.heap.size, j, none⟩ = some (.string (str (badL j)))) ∧ Below V3.heap.size V3 W4 := by
    refine ⟨_, rfl, ?_, below1 _ _⟩
    have hb := heap_alloc_new V3 (.cells #[.string ⟨#[97, 108, 108, 32, 49, 10]⟩, .string ⟨#[115, 116, 101, 112, 10]⟩, .string ⟨#[115, 116, 101, 112, 32, 53, 10]⟩, .string ⟨#[109, 97, 107, 101, 32, 52, 32, 48, 10]⟩, .string ⟨#[10]⟩, .string ⟨#[112, 117, 98, 108, 105, 115, 104, 32, 48, 32, 48, 32, 48, 32, 48, 10]⟩, .string ⟨#[114, 101, 99, 101, 105, 118, 101, 32, 49, 10]⟩, .string ⟨#[99, 97, 114, 114, 121, 32, 48, 49, 10]⟩, .string ⟨#[99, 114, 97, 115, 104, 32, 49, 32, 49, 48, 48, 48, 48, 49, 10]⟩, .string ⟨#[65, 108, 108, 10]⟩] 9)
    refine below10 ?_ ?_ ?_ ?_ ?_ ?_ ?_ ?_ ?_ ?_ <;> (simp only [World.cell?, hb]; rfl)
  rw [← hW4]
  clear hW4
  have yi := y i hi10
  have B4 := Below.next B3 b4
  have H5 := unveil HP W4
  have H6 := unveil HR W4 (E.take (11 * k)) k (E.drop (11 * k)) (n - k) i B4 (by omega) (acts_take hE hkn) (by omega) (acts_drop hE hkn) hi10
  have z1 := showL_len (k := k) (acts_take hE hkn).2
  have z3 := showL_len (k := n - k) (acts_drop hE hkn).2
  have z2 : (badL i).length ≤ 21 := by obtain ⟨l, el, _, hl⟩ := bad_form i hi10; rw [el]; simp; omega
  clear HP HR y B3 b4 hE
  generalize showL (E.take (11 * k)) k = l1 at *
  generalize badL i = l2 at *
  generalize showL (E.drop (11 * k)) (n - k) = l3 at *
  rw [← str_app, ← str_app] at H6
  have s1 : (str l1).size ≤ 4000 := by rw [str_size]; omega
  have s2 : (str l2).size ≤ 4000 := by rw [str_size]; omega
  have s3 : (str l3).size ≤ 4000 := by rw [str_size]; omega
  generalize str l1 = S1 at *
  generalize str l2 = S2 at *
  generalize str l3 = S3 at *
  have s12 : (S1 ++ S2).size = S1.size + S2.size := ByteArray.size_append
  clear z1 z2 z3
  have hlt : (i : Int) < 10 := by omega
  have ek : ((k : Int) == (k : Int)) = true := by simp
  go_wp2_with (first | (go_at_call 21; refine H5.mono ?_; rintro e w' ⟨rfl, rfl⟩; clear H5) | (go_at_call 16; refine H6.mono ?_; rintro e V5 ⟨a5, c5, rfl, b5⟩; clear H6))
  go_ret
  exact ⟨by simp, Below.next B4 b5⟩
end Go.Proofs.YtekbdkppnjnaaaaDoor
