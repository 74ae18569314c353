/- Walk of lines.actOf. -/
import Derived.Test.YtekbdkppnjnaaaaDoorLoC
namespace Go.Proofs.YtekbdkppnjnaaaaDoor
open Go.RowKit

theorem trim_line {l : List UInt8} : Lib.trimSuffix (l ++ [10]) [10] = l := by
  unfold Lib.trimSuffix Lib.hasSuffix
  rw [if_pos (List.isSuffixOf_iff_suffix.2 ⟨l, rfl⟩)]
  simp
theorem trim_len (s : List UInt8) : (Lib.trimSuffix s [10]).length ≤ s.length := by
  unfold Lib.trimSuffix
  split
  · rw [List.length_take]; omega
  · exact Nat.le_refl _
theorem cut_len (s : List UInt8) : (Lib.cut s [32]).1.length ≤ s.length ∧ (Lib.cut s [32]).2.1.length ≤ s.length := by
  unfold Lib.cut
  split
  · refine ⟨?_, ?_⟩
    · simp only [List.length_take]; omega
    · simp only [List.length_drop]; omega
  · exact ⟨Nat.le_refl _, by simp⟩
/-- how far an act's numbers are read: R is left, f is what was made. -/
structure Par (s : List UInt8) (i k : Nat) (R : List UInt8) (f : Nat → Int) : Prop where
  bare : ∀ j, j < 11 → j ∉ noffs i → f j = bareK i j
  is : ∀ g, IsLine s g → kno (g 0) (g 5) = i ∧ R = (numsL (((noffs i).drop k).map g)).drop 1 ∧ ∀ j, j ∈ (noffs i).take k → f j = g j
theorem Par.first {s : List UInt8} {i : Nat} (hN : Named (str (Lib.cut (Lib.trimSuffix s [10]) [32]).1) i) (hi : i < 12) : Par s i 0 (Lib.cut (Lib.trimSuffix s [10]) [32]).2.1 (bareK i) := by
  refine ⟨fun _ _ _ => rfl, fun g hg => ?_⟩
  obtain ⟨cg, rfl⟩ := hg
  have hp := line_parts cg
  rw [trim_line] at hN
  rw [trim_line]
  have hw := hN.2.2 hi
  rw [hp.1] at hw
  have e : i = kno (g 0) (g 5) := word_inj _ hi _ (chk_nums cg).1 (by
    have := congrArg (fun b : ByteArray => b.data.toList) hw
    rw [str_data] at this
    exact this)
  subst e
  refine ⟨rfl, ?_, fun j hj => by simp at hj⟩
  rw [hp.2]
  simp
/-- a line whose word is none is no act's. -/
theorem no_word {s : List UInt8} {i : Nat} (hN : Named (str (Lib.cut (Lib.trimSuffix s [10]) [32]).1) i) (hi : ¬ i < 12) : ∀ g, ¬ IsLine s g := fun g hg => by
  obtain ⟨cg, rfl⟩ := hg
  rw [trim_line, (line_parts cg).1, str_word] at hN
  have := (chk_nums cg).1
  exact hN.2.1 _ (by omega) rfl
theorem Par.next {s : List UInt8} {i k : Nat} {R : List UInt8} {f : Nat → Int} {v : Int} (hi : i < 12) (h : Par s i k R f) (hk : k < (noffs i).length) (hv : ∀ u : Nat, u ≤ 1073741824 → (Lib.cut R [32]).1 = Lib.decDigits u → v = u) :
    Par s i (k + 1) (Lib.cut R [32]).2.1 (put1 f (noffs i)[k] v) := by
  obtain ⟨_, _, _, hnd, _, _⟩ := noffs_facts i hi
  refine ⟨fun j hj hn => ?_, fun g hg => ?_⟩
  · rw [put1_other _ _ (fun e => hn (by rw [e]; exact List.getElem_mem hk))]
    exact h.bare j hj hn
  · obtain ⟨h1, h2, h3⟩ := h.is g hg
    have hd : (noffs i).drop k = (noffs i)[k] :: (noffs i).drop (k + 1) := List.drop_eq_getElem_cons hk
    rw [hd, List.map_cons, nums_cons] at h2
    obtain ⟨c1, c2⟩ := cut_word (dec_no (c := 32) (by decide) (g (noffs i)[k]).toNat) (nums_opens (((noffs i).drop (k + 1)).map g))
    rw [← h2] at c1 c2
    have hb := (chk_nums hg.1).2 (g (noffs i)[k]) (by rw [h1]; exact List.mem_map_of_mem (List.getElem_mem hk))
    have hv' := hv _ (by omega) c1
    refine ⟨h1, c2, fun j hj => ?_⟩
    rw [List.take_add_one, List.getElem?_eq_getElem hk] at hj
    rcases List.mem_append.1 hj with hj | hj
    · by_cases e : j = (noffs i)[k]
      · rw [e, put1_same]; omega
      · rw [put1_other _ _ e]; exact h3 j hj
    · have e : j = (noffs i)[k] := by simpa using hj
      rw [e, put1_same]; omega
/-- behind all numbers. -/
theorem Par.last {s : List UInt8} {i : Nat} {R : List UInt8} {f : Nat → Int} (h : Par s i (noffs i).length R f) {g : Nat → Int} (hg : IsLine s g) : ∀ j, j < 11 → g j = f j := by
  obtain ⟨h1, _, h3⟩ := h.is g hg
  refine act_eq hg.1 h1 h.bare ?_
  rw [List.take_length] at h3
  exact List.map_congr_left fun j hj => (h3 j hj).symm
theorem chk_ext {f g : Nat → Int} (h : ∀ j, j < 11 → g j = f j) (hg : chk g = 0) : chk f = 0 := by
  have e : chk f = chk g := by
    unfold chk
    have hk : kno (f 0) (f 5) = kno (g 0) (g 5) := by rw [h 0 (by omega), h 5 (by omega)]
    have ho : offs (f 0) (f 5) = offs (g 0) (g 5) := by rw [h 0 (by omega), h 5 (by omega)]
    rw [hk, ho]
    have hb : boundB (over (offs (g 0) (g 5)) (bareK (kno (g 0) (g 5))) f) = boundB (over (offs (g 0) (g 5)) (bareK (kno (g 0) (g 5))) g) := by
      have : ∀ j, j < 11 → over (offs (g 0) (g 5)) (bareK (kno (g 0) (g 5))) f j = over (offs (g 0) (g 5)) (bareK (kno (g 0) (g 5))) g j := fun j hj => by
        unfold over
        rw [h j hj]
      unfold boundB
      rw [this 0 (by omega), this 1 (by omega), this 2 (by omega), this 3 (by omega), this 4 (by omega), this 5 (by omega), this 6 (by omega), this 7 (by omega), this 8 (by omega), this 9 (by omega), this 10 (by omega)]
    have hl : eqA (less (offs (g 0) (g 5)) f) (bareK (kno (g 0) (g 5))) = eqA (less (offs (g 0) (g 5)) g) (bareK (kno (g 0) (g 5))) := by
      have : ∀ j, j < 11 → less (offs (g 0) (g 5)) f j = less (offs (g 0) (g 5)) g j := fun j hj => by
        unfold less
        rw [h j hj]
      unfold eqA
      rw [this 0 (by omega), this 1 (by omega), this 2 (by omega), this 3 (by omega), this 4 (by omega), this 5 (by omega), this 6 (by omega), this 7 (by omega), this 8 (by omega), this 9 (by omega), this 10 (by omega)]
    rw [hb, hl]
  rw [e, hg]
theorem line_ext {f g : Nat → Int} (hi : kno (f 0) (f 5) < 12) (h : ∀ j, j < 11 → g j = f j) : lineL g = lineL f := by
  unfold lineL
  rw [h 0 (by omega), h 5 (by omega)]
  congr 2
  exact List.map_congr_left fun j hj => h j ((noffs_facts _ hi).2.2.1 j hj)
/-- the boxes of actOf: the result, the act. -/
structure Aw (w wx : World) (B : Nat) (f : Nat → Int) : Prop where
  r : aBlock wx w.heap.size (fun _ => 0)
  a : aBlock wx B f
  lt : w.heap.size < B
  b : Below w.heap.size w wx
theorem Aw.next {w wx wy : World} {B : Nat} {f : Nat → Int} (h : Aw w wx B f) (b : Below wx.heap.size wx wy) : Aw w wy B f := ⟨h.r.next b, h.a.next b, h.lt, Below.next h.b b⟩
theorem Aw.put {w wx : World} {B : Nat} {f : Nat → Int} (h : Aw w wx B f) (o : Nat) (ho : o < 11) (v : Int) : Aw w (wx.setCell ⟨B, o, none⟩ (.int .i64 v)) B (put1 f o v) := by
  have t := Turned.set B o wx (.int .i64 v)
  exact ⟨h.r.turned t (by have := h.lt; omega), h.a.put o ho v, h.lt, t.under h.b (by have := h.lt; omega)⟩
/-- what actOf answers. -/
def ActOut (s : List UInt8) (e : Ending) : Prop := ∃ f b, e = .returned (.tuple #[aVal f, .bool b]) ∧ (b = true → IsLine s f) ∧ (b = false → ∀ g, ¬ IsLine s g)
theorem ret_lactOf {w : World} {R : Nat} {f : Nat → Int} {tmps : Array Value} {b : Bool} (d : aBlock w R f) (t2 : tmps[2]? = some (.pointer (some ⟨R, 0, none⟩))) (t3 : tmps[3]? = some (.bool b)) :
    (results Tryd.f35 tmps).run Tryd.prog w = .ok (.tuple #[aVal f, .bool b]) w := by
  simp [results, Tryd.results35, t2, t3, asAddr, load_act d]
set_option maxRecDepth 20000 in
set_option maxHeartbeats 8000000 in
theorem actOf_any (s : List UInt8) (hs : s.length ≤ 4000000) (w : World) (hL : LaidR w) : Calls Tryd.prog 35 #[.string (str s)] w fun e w' => ActOut s e ∧ Below w.heap.size w w' := by
  obtain ⟨W1, hW1, A1, B1⟩ : ∃ W1, W1 = w.alloc (.cells (aCells fun _ => 0) 27) ∧ aBlock W1 w.heap.size (fun _ => 0) ∧ Below w.heap.size w W1 := ⟨_, rfl, aBlock.new w _, below1 _ _⟩
  have HC1 := trim_any s hs W1
  have hl1 := trim_len s
  have HC2 := cut_any (Lib.trimSuffix s [10]) (by omega) W1 (hL.next B1)
  have hl2 := cut_len (Lib.trimSuffix s [10])
  have HK : Hid (∀ S u, Below w.heap.size w u → Calls Tryd.prog 48 #[.string S] u fun e w' => ∃ i, Named S i ∧ e = .returned (.tuple #[kVal i, .bool (decide (i < 12))]) ∧ Below u.heap.size u w') := veil fun S u b => kindNamed_any S u (hL.next b).l.k
  have HP : Hid (∀ i, Named (str (Lib.cut (Lib.trimSuffix s [10]) [32]).1) i → i < 12 → Par s i 0 (Lib.cut (Lib.trimSuffix s [10]) [32]).2.1 (bareK i)) := veil fun i h hi => Par.first h hi
  have HQ : Hid (∀ i, Named (str (Lib.cut (Lib.trimSuffix s [10]) [32]).1) i → ¬ i < 12 → ∀ g, ¬ IsLine s g) := veil fun i h hi => no_word h hi
  have HL := veil hL
  clear hL
  obtain ⟨wd, hwd⟩ : ∃ x, x = (Lib.cut (Lib.trimSuffix s [10]) [32]).1 := ⟨_, rfl⟩
  obtain ⟨R0, hR0⟩ : ∃ x, x = (Lib.cut (Lib.trimSuffix s [10]) [32]).2.1 := ⟨_, rfl⟩
  rw [← hwd] at HC2 HP HQ
  rw [← hR0] at HC2 HP hl2
  generalize (Lib.cut (Lib.trimSuffix s [10]) [32]).2.2 = fnd at HC2
  have hR0l : R0.length ≤ 4000000 := by omega
  clear hwd hR0 hl2
  have h32 : (⟨#[32]⟩ : ByteArray) = str [32] := rfl
  have h10 : (⟨#[10]⟩ : ByteArray) = str [10] := rfl
  rw [← h32] at HC2
  rw [← h10] at HC1
  generalize str (Lib.trimSuffix s [10]) = S1 at HC1 HC2
  clear hl1 h10
  have HA := veil A1
  clear A1
  go_enter Tryd.func35, Tryd.ntmps35
  go_upto_region 1 with fail
  have hW1' : w.alloc (.cells #[.int .i64 0, .int .i64 0, .int .i64 0, .int .i64 0, .int .i64 0, .int .i64 0, .int .i64 0, .int .i64 0, .int .i64 0, .int .i64 0, .int .i64 0] 27) = W1 := hW1.symm
  rw [hW1']
  clear hW1 hW1'
  go_upto_region 2 with (first | (go_at_call 47; refine HC1.mono ?_; rintro e V ⟨rfl, hV⟩; rw [hV]; clear hV V HC1) | (go_at_call 46; refine HC2.mono ?_; rintro e V1 ⟨rfl, b1⟩; clear HC2))
  have HC3 := unveil HK (str wd) V1 (Below.next B1 b1)
  have HA1 := veil ((unveil HA).next b1)
  have B2 := Below.next B1 b1
  clear HK HA B1 b1
  go_upto_region 3 with (go_at_call 48; refine HC3.mono ?_; rintro e V2 ⟨i, hN, rfl, b2⟩; clear HC3)
  obtain ⟨W2, hW2, k2, b3⟩ : ∃ W2, W2 = V2.alloc (.cells #[.string (kword i), .int .i64 (kact i), .int .i64 (kop i)] 49) ∧ kBlock W2 V2.heap.size (kword i) (kact i) (kop i) ∧ Below V2.heap.size V2 W2 := ⟨_, rfl, kBlock.new _ _ _ _, below1 _ _⟩
  rw [← hW2]
  clear hW2
  have HA2 := veil (((unveil HA1).next b2).next b3)
  have B3 := Below.next (Below.next B2 b2) b3
  have HKB := veil k2
  clear HA1 B2 b2 b3 k2
  by_cases hi : i < 12
  case neg =>
    have HNo := veil (unveil HQ i hN hi)
    have hd : decide (i < 12) = false := decide_eq_false hi
    rw [hd]
    clear HQ HP HKB hN hd
    obtain ⟨z0, z1, z2, z3, z4, z5, z6, z7, z8, z9, z10⟩ := (unveil HA2).cells
    have zf := (unveil HA2).free
    go_wp2
    obtain ⟨W4, hW4, d4, b4, _⟩ := a_stored (unveil HA2) B3 (Nat.le_refl _) 0 0 0 0 0 0 0 0 0 0 0
    rw [← hW4]
    exact bodyPost_ret (ret_lactOf d4 rfl rfl) rfl ⟨⟨_, false, rfl, (fun h => by cases h), fun _ => unveil HNo⟩, b4⟩
  case pos =>
    have HP0 := veil (unveil HP i hN hi)
    have hd : decide (i < 12) = true := decide_eq_true hi
    rw [hd]
    clear HP HQ hN hd
    obtain ⟨y0, y1, y2⟩ := (unveil HKB).cells
    have HC4 : Hid (∀ u, Calls Tryd.prog 24 #[kVal i] u fun e w' => e = .returned (aVal (bareK i)) ∧ Below u.heap.size u w') := veil fun u => bare_any i u
    have HC5 := unveil HC4 W2
    go_upto_region 6 with (go_at_call 24; refine HC5.mono ?_; rintro e V3 ⟨rfl, b4⟩; clear HC5)
    clear y0 y1 y2 HKB HC4
    have hV3 : V3.alloc (.cells (aCells (bareK i)) 27) = V3.alloc (.cells (aCells (bareK i)) 27) := rfl
    obtain ⟨W3, hW3, A3⟩ : ∃ W3, W3 = V3.alloc (.cells (aCells (bareK i)) 27) ∧ Aw w W3 V3.heap.size (bareK i) := ⟨_, rfl, ((unveil HA2).next b4).next (below1 _ _), aBlock.new _ _, Nat.lt_of_lt_of_le (unveil HA2).lt b4.size, Below.next (Below.next B3 b4) (below1 _ _)⟩
    rw [← hW3]
    obtain ⟨B, hB⟩ : ∃ B, B = V3.heap.size := ⟨_, rfl⟩
    rw [← hB] at A3 ⊢
    clear hW3 hB hV3 HA2 B3 b4
    have hBl := A3.a.lt
    have HNu := numbers_any B (bareK i) W3 A3.a
    have hoff : offs (bareK i 0) (bareK i 5) = noffs i := by
      have : ∀ i, i < 12 → offs (bareK i 0) (bareK i 5) = noffs i := by
        refine below12 ?_ ?_ ?_ ?_ ?_ ?_ ?_ ?_ ?_ ?_ ?_ ?_ <;> rfl
      exact this i hi
    rw [hoff] at HNu
    clear hoff
    have HA3 := veil A3
    clear A3
    go_wp2_with (go_at_call 38; refine HNu.mono ?_; rintro e V4 ⟨v, rfl, o1, b5⟩; clear HNu; have HO := veil o1; have HA4 := veil ((unveil HA3).next b5); obtain ⟨a1, c1, rfl⟩ := own_form o1; clear o1 b5 HA3)
    have hl5 := (noffs_facts i hi).1
    have ho11 := (noffs_facts i hi).2.2.1
    have HS : Hid (∀ k R f (v : Int), Par s i k R f → (hk : k < (noffs i).length) → (∀ u : Nat, u ≤ 1073741824 → (Lib.cut R [32]).1 = Lib.decDigits u → v = u) → Par s i (k + 1) (Lib.cut R [32]).2.1 (put1 f (noffs i)[k] v)) := veil fun k R f v h hk hv => h.next hi hk hv
    have HE : Hid (∀ R f g, Par s i (noffs i).length R f → IsLine s g → ∀ j, j < 11 → g j = f j) := veil fun R f g h hg => h.last hg
    have HCut : Hid (∀ R : List UInt8, R.length ≤ 4000000 → ∀ u, Below w.heap.size w u → Calls Tryd.prog 46 #[.string (str R), .string ⟨#[32]⟩] u fun e w' => e = .returned (.tuple #[.string (str (Lib.cut R [32]).1), .string (str (Lib.cut R [32]).2.1), .bool (Lib.cut R [32]).2.2]) ∧ Below u.heap.size u w') := veil fun R hR u b => cut_any R hR u ((unveil HL).next b)
    have HAt : Hid (∀ R : List UInt8, R.length ≤ 4000000 → ∀ u, Below w.heap.size w u → Calls Tryd.prog 49 #[.string (str R)] u fun e w' => ∃ v ev, e = .returned (.tuple #[.int .i64 v, ev]) ∧ (∀ q : Nat, q ≤ 1073741824 → R = Lib.decDigits q → v = q) ∧ Below u.heap.size u w') := veil fun R hR u b => atoi_any R hR u ((unveil HL).next b)
    clear hi
    have HOs := veil ho11
    clear ho11
    generalize hos : noffs i = os at *
    have HOS := veil hos
    clear hos
    go_loopw [5, 32] (fun rv t wr => ∃ (k : Nat) (R : List UInt8) (f : Nat → Int), k ≤ os.length ∧ t = .int .i64 k ∧ rv = .string (str R) ∧ R.length ≤ 4000000 ∧ Hid (Par s i k R f) ∧ Hid (Aw w wr B f) ∧ Hid (pRow wr W3.heap.size (.slice a1 os.length c1) B os)) (fun _ t _ => os.length - (intOf t).toNat)
    case atStart => exact ⟨0, R0, bareK i, Nat.zero_le _, rfl, rfl, hR0l, HP0, HA4, HO⟩
    case round =>
      clear HP0 HA4 HO hR0l
      obtain ⟨k, R, f, hk, rfl, rfl, hRl, HPk, HAk, HO⟩ := hrel
      by_cases hlt : k < os.length
      case pos =>
        obtain ⟨G, c1', e1, hG0, hG, yk, hc⟩ := pRow.at (unveil HO) k hlt
        obtain ⟨rfl, rfl⟩ : a1 = some ⟨G, 0, none⟩ ∧ c1 = c1' := by simpa using e1
        have hok : os[k] < 11 := unveil HOs _ (List.getElem_mem hlt)
        have hcl := cut_len R
        have C1 := unveil HCut R hRl wr (unveil HAk).b
        have C2 := unveil HAt (Lib.cut R [32]).1 (by omega)
        have HSt := veil (fun v => unveil HS k R f v (unveil HPk) hlt)
        obtain ⟨dg, hdg⟩ : ∃ x, x = (Lib.cut R [32]).1 := ⟨_, rfl⟩
        obtain ⟨R2, hR2⟩ : ∃ x, x = (Lib.cut R [32]).2.1 := ⟨_, rfl⟩
        rw [← hdg] at C1 C2 HSt hcl
        rw [← hR2] at C1 HSt hcl
        generalize (Lib.cut R [32]).2.2 = b0 at C1
        clear hdg hR2 HS HE HPk e1 hc
        have HC2 := veil C2
        clear C2
        have HHN : Hid (∀ u, Below wr.heap.size wr u → Aw w u B f ∧ pRow u W3.heap.size (.slice (some ⟨G, 0, none⟩) os.length c1) B os) := veil fun u b => ⟨(unveil HAk).next b, own_still (unveil HO) (fun g _ hg => b.block g hg)⟩
        have hBw : Hid (∀ u o v, pRow u W3.heap.size (.slice (some ⟨G, 0, none⟩) os.length c1) B os → Aw w u B f → pRow (u.setCell ⟨B, o, none⟩ (.int .i64 v)) W3.heap.size (.slice (some ⟨G, 0, none⟩) os.length c1) B os) := veil fun u o v h hA => own_still h (fun g hg _ => (Turned.set B o u _).block g (fun e => by subst e; have e2 : G = g := by { simpa [Value.ownBlock] using hg }; omega))
        clear HAk HO
        obtain ⟨o, ho⟩ : ∃ o, o = os[k] := ⟨_, rfl⟩
        rw [← ho] at yk hok HSt
        clear ho
        go_upto_region 11 with (go_at_call 46; refine C1.mono ?_; rintro e V5 ⟨rfl, b6⟩; clear C1)
        obtain ⟨hA5, hO5⟩ := unveil HHN V5 b6
        have C3 := unveil HC2 V5 hA5.b
        have HHM : Hid (∀ u, Below V5.heap.size V5 u → Aw w u B f ∧ pRow u W3.heap.size (.slice (some ⟨G, 0, none⟩) os.length c1) B os) := veil fun u b => ⟨hA5.next b, own_still hO5 (fun g _ hg => b.block g hg)⟩
        clear HC2 HHN hA5 hO5
        have hxo : ∀ u, Aw w u B f → u.cell? ⟨B, o, none⟩ = some (.int .i64 (f o)) := fun u h => h.a.cell o hok
        have hxf : ∀ u, Aw w u B f → u.frozen? ⟨B, o, none⟩ = false := fun u h => h.a.free o
        go_wp2_with (go_at_call 49; refine C3.mono ?_; rintro e V6 ⟨v, ev, rfl, hv, b7⟩; clear C3; obtain ⟨hA6, hO6⟩ := unveil HHM V6 b7; have x6 := hxo V6 hA6; have x7 := hxf V6 hA6; clear HHM hxo hxf; have HV := veil hv; clear hv)
        go_roundw
        case rel => exact ⟨k + 1, R2, put1 f o v, by omega, by go_num, rfl, by omega, veil (unveil HSt v (unveil HV)), veil (hA6.put o hok v), veil (unveil hBw V6 o v hO6 hA6)⟩
        case measure => simp [intOf]; omega
      case neg =>
        obtain rfl : k = os.length := by omega
        have HEk := veil (fun g hg => unveil HE R f g (unveil HPk) hg)
        have HCh : Hid (∀ u, Below w.heap.size w u → Calls Tryd.prog 10 #[aVal f] u fun e w' => e = .returned (.int .i64 (chk f)) ∧ Below u.heap.size u w') := veil fun u b => lcheck_any f u ((unveil HL).next b).l.k
        have HLn : Hid (chk f = 0 → ∀ u, Below w.heap.size w u → Calls Tryd.prog 31 #[aVal f] u fun e w' => e = .returned (.string (str (lineL f ++ [10]))) ∧ Below u.heap.size u w') := veil fun h u b => line_any f u ((unveil HL).next b).l (chk_nums h)
        have HNo : Hid (¬ chk f = 0 → ∀ g, ¬ IsLine s g) := veil fun h g hg => h (chk_ext (unveil HEk g hg) hg.1)
        have HNo2 : Hid (chk f = 0 → ¬ lineL f ++ [10] = s → ∀ g, ¬ IsLine s g) := veil fun h h' g hg => h' (by
          rw [hg.2, line_ext (chk_nums h).1 (unveil HEk g hg)])
        have HYes : Hid (chk f = 0 → lineL f ++ [10] = s → IsLine s f) := veil fun h h' => ⟨h, h'.symm⟩
        have hcs : chk f = 0 ∨ chk f = 2 ∨ chk f = 3 := by
          unfold chk
          split
          · split
            · split
              · exact .inl rfl
              · exact .inr (.inr rfl)
            · exact .inr (.inl rfl)
          · exact .inr (.inr rfl)
        generalize chk f = r at *
        have hA := unveil HAk
        clear HS HCut HAt HO HOs HE HEk HPk HAk
        go_upto_region 13 with fail
        have hA0 := hA
        rcases hcs with rfl | rfl | rfl
        · by_cases hyes : lineL f ++ [10] = s
          case pos =>
            have hst : str (lineL f ++ [10]) = str s := by rw [hyes]
            rw [hst] at HLn
            clear hst
            refine wp_region_held_drew (S := fun u => aBlock u B f) (by kernel_rfl) (hA.a.next (below_drew wr)) (fun hHeld => ?_)
            refine wpAnyH_take (i := 0) (v := aVal f) rfl (by kernel_rfl) (by kernel_rfl) (by kernel_rfl) (fun _ _ _ h => h) (Or.inl ⟨by rfl, fun u b => by obtain ⟨z0, z1, z2, z3, z4, z5, z6, z7, z8, z9, z10⟩ := aBlock.cells b; go_simp⟩) hHeld ?_
            simp only [List.getElem_toArray, List.getElem_cons_zero, Act.put, List.setIfInBounds_toArray, List.set_cons_zero, List.set_cons_succ]
            refine wpAnyH_take (i := 1) (v := aVal f) rfl (by kernel_rfl) (by kernel_rfl) (by kernel_rfl) (fun _ _ _ h => h) (Or.inl ⟨by rfl, fun u b => by obtain ⟨z0, z1, z2, z3, z4, z5, z6, z7, z8, z9, z10⟩ := aBlock.cells b; go_simp⟩) hHeld ?_
            simp only [List.getElem_toArray, List.getElem_cons_zero, List.getElem_cons_succ, Act.put, List.setIfInBounds_toArray, List.set_cons_zero, List.set_cons_succ]
            have bW0 := below_drew wr
            have hA := hA.next bW0
            obtain ⟨W0, hW0⟩ : ∃ W0, W0 = wr.drew := ⟨_, rfl⟩
            rw [← hW0] at bW0 hA hHeld ⊢
            clear hW0
            refine wpAnyH_ready (rs := [2]) (by kernel_rfl) (by simp) ?_
            refine AllReadyH.cons rfl (fun K hK => ?_) AllReadyH.nil
            simp only [List.getElem_toArray, List.getElem_cons_zero, List.getElem_cons_succ]
            go_simp
            refine (unveil HCh W0 hA.b).mono ?_
            rintro e W1 ⟨rfl, bn⟩
            have bW1 := Below.next bW0 bn
            have hA := hA.next bn
            clear bn
            refine hK.out _ _ hA.a (fun hHeld => ?_)
            clear hK K
            refine wpAnyH_take (i := 3) (v := .bool true) rfl (by kernel_rfl) (by kernel_rfl) (by kernel_rfl) (fun _ _ _ h => h) (Or.inl ⟨by rfl, fun _ _ => by go_simp⟩) hHeld ?_
            simp only [List.getElem_toArray, List.getElem_cons_zero, List.getElem_cons_succ, Act.put, List.setIfInBounds_toArray, List.set_cons_zero, List.set_cons_succ]
            refine wpAnyH_take (i := 4) (v := .bool true) rfl (by kernel_rfl) (by kernel_rfl) (by kernel_rfl) (fun _ _ _ h => h) (Or.inl ⟨by rfl, fun _ _ => by go_simp⟩) hHeld ?_
            simp only [List.getElem_toArray, List.getElem_cons_zero, List.getElem_cons_succ, Act.put, List.setIfInBounds_toArray, List.set_cons_zero, List.set_cons_succ]
            refine wpAnyH_take (i := 5) (v := aVal f) rfl (by kernel_rfl) (by kernel_rfl) (by kernel_rfl) (fun _ _ _ h => h) (Or.inl ⟨by rfl, fun u b => by obtain ⟨z0, z1, z2, z3, z4, z5, z6, z7, z8, z9, z10⟩ := aBlock.cells b; go_simp⟩) hHeld ?_
            simp only [List.getElem_toArray, List.getElem_cons_zero, List.getElem_cons_succ, Act.put, List.setIfInBounds_toArray, List.set_cons_zero, List.set_cons_succ]
            refine wpAnyH_take (i := 7) (v := .string (str s)) rfl (by kernel_rfl) (by kernel_rfl) (by kernel_rfl) (fun _ _ _ h => h) (Or.inl ⟨by rfl, fun _ _ => by go_simp⟩) hHeld ?_
            simp only [List.getElem_toArray, List.getElem_cons_zero, List.getElem_cons_succ, Act.put, List.setIfInBounds_toArray, List.set_cons_zero, List.set_cons_succ]
            refine wpAnyH_ready (rs := [6]) (by kernel_rfl) (by simp) ?_
            refine AllReadyH.cons rfl (fun K hK => ?_) AllReadyH.nil
            simp only [List.getElem_toArray, List.getElem_cons_zero, List.getElem_cons_succ]
            refine ite_wanted rfl ?_
            go_simp
            refine (unveil HLn rfl W1 hA.b).mono ?_
            rintro e W2 ⟨rfl, bn⟩
            have bW2 := Below.next bW1 bn
            have hA := hA.next bn
            clear bn
            refine hK.out _ _ hA.a (fun hHeld => ?_)
            clear hK K
            refine wpAnyH_take (i := 8) (v := .bool true) rfl (by kernel_rfl) (by kernel_rfl) (by kernel_rfl) (fun _ _ _ h => h) (Or.inl ⟨by rfl, fun _ _ => by go_simp⟩) hHeld ?_
            simp only [List.getElem_toArray, List.getElem_cons_zero, List.getElem_cons_succ, Act.put, List.setIfInBounds_toArray, List.set_cons_zero, List.set_cons_succ]
            refine wpAnyH_take (i := 9) (v := .bool true) rfl (by kernel_rfl) (by kernel_rfl) (by kernel_rfl) (fun _ _ _ h => h) (Or.inl ⟨by rfl, fun _ _ => by go_simp⟩) hHeld ?_
            simp only [List.getElem_toArray, List.getElem_cons_zero, List.getElem_cons_succ, Act.put, List.setIfInBounds_toArray, List.set_cons_zero, List.set_cons_succ]
            refine wpAnyH_ready (rs := [10]) (by kernel_rfl) (by simp) ?_
            refine AllReadyH.cons rfl (fun K hK => ?_) AllReadyH.nil
            simp only [List.getElem_toArray, List.getElem_cons_zero, List.getElem_cons_succ]
            obtain ⟨z0, z1, z2, z3, z4, z5, z6, z7, z8, z9, z10⟩ := hA.r.cells
            have zf := hA.r.free
            go_simp
            obtain ⟨W3, hN, d, b9, tn⟩ := a_stored hA.r hA.b (Nat.le_refl _) (f 0) (f 1) (f 2) (f 3) (f 4) (f 5) (f 6) (f 7) (f 8) (f 9) (f 10)
            rw [← hN]
            clear hN z0 z1 z2 z3 z4 z5 z6 z7 z8 z9 z10 zf
            refine hK.out _ _ (hA.a.turned tn (by have := hA.lt; omega)) (fun hHeld => ?_)
            clear hK K
            refine wpAnyH_take (i := 11) (v := .bool true) rfl (by kernel_rfl) (by kernel_rfl) (by kernel_rfl) (fun _ _ _ h => h) (Or.inl ⟨by rfl, fun _ _ => by go_simp⟩) hHeld ?_
            simp only [List.getElem_toArray, List.getElem_cons_zero, List.getElem_cons_succ, Act.put, List.setIfInBounds_toArray, List.set_cons_zero, List.set_cons_succ]
            refine wpAnyH_done (by kernel_rfl) ?_ _
            go_wp2
            exact bodyPost_ret (ret_lactOf d rfl rfl) rfl ⟨⟨f, true, (congrArg (fun v => Ending.returned (.tuple #[v, _])) (aVal_ext (below11 rfl rfl rfl rfl rfl rfl rfl rfl rfl rfl rfl))), (fun _ => unveil HYes (by simp) hyes), (fun h => by cases h)⟩, b9⟩
          case neg =>
            have hno := hyes
            have hst : ¬ str (lineL f ++ [10]) = str s := fun e => hno (by have := congrArg (fun b : ByteArray => b.data.toList) e; rw [str_data, str_data] at this; exact this)
            have hst := str_ne hst
            obtain ⟨S2, hS2⟩ : ∃ S2, S2 = str (lineL f ++ [10]) := ⟨_, rfl⟩
            rw [← hS2] at HLn hst
            clear hyes hS2
            refine wp_region_held_drew (S := fun u => aBlock u B f) (by kernel_rfl) (hA.a.next (below_drew wr)) (fun hHeld => ?_)
            refine wpAnyH_take (i := 0) (v := aVal f) rfl (by kernel_rfl) (by kernel_rfl) (by kernel_rfl) (fun _ _ _ h => h) (Or.inl ⟨by rfl, fun u b => by obtain ⟨z0, z1, z2, z3, z4, z5, z6, z7, z8, z9, z10⟩ := aBlock.cells b; go_simp⟩) hHeld ?_
            simp only [List.getElem_toArray, List.getElem_cons_zero, Act.put, List.setIfInBounds_toArray, List.set_cons_zero, List.set_cons_succ]
            refine wpAnyH_take (i := 1) (v := aVal f) rfl (by kernel_rfl) (by kernel_rfl) (by kernel_rfl) (fun _ _ _ h => h) (Or.inl ⟨by rfl, fun u b => by obtain ⟨z0, z1, z2, z3, z4, z5, z6, z7, z8, z9, z10⟩ := aBlock.cells b; go_simp⟩) hHeld ?_
            simp only [List.getElem_toArray, List.getElem_cons_zero, List.getElem_cons_succ, Act.put, List.setIfInBounds_toArray, List.set_cons_zero, List.set_cons_succ]
            have bW0 := below_drew wr
            have hA := hA.next bW0
            obtain ⟨W0, hW0⟩ : ∃ W0, W0 = wr.drew := ⟨_, rfl⟩
            rw [← hW0] at bW0 hA hHeld ⊢
            clear hW0
            refine wpAnyH_ready (rs := [2]) (by kernel_rfl) (by simp) ?_
            refine AllReadyH.cons rfl (fun K hK => ?_) AllReadyH.nil
            simp only [List.getElem_toArray, List.getElem_cons_zero, List.getElem_cons_succ]
            go_simp
            refine (unveil HCh W0 hA.b).mono ?_
            rintro e W1 ⟨rfl, bn⟩
            have bW1 := Below.next bW0 bn
            have hA := hA.next bn
            clear bn
            refine hK.out _ _ hA.a (fun hHeld => ?_)
            clear hK K
            refine wpAnyH_take (i := 3) (v := .bool true) rfl (by kernel_rfl) (by kernel_rfl) (by kernel_rfl) (fun _ _ _ h => h) (Or.inl ⟨by rfl, fun _ _ => by go_simp⟩) hHeld ?_
            simp only [List.getElem_toArray, List.getElem_cons_zero, List.getElem_cons_succ, Act.put, List.setIfInBounds_toArray, List.set_cons_zero, List.set_cons_succ]
            refine wpAnyH_take (i := 4) (v := .bool true) rfl (by kernel_rfl) (by kernel_rfl) (by kernel_rfl) (fun _ _ _ h => h) (Or.inl ⟨by rfl, fun _ _ => by go_simp⟩) hHeld ?_
            simp only [List.getElem_toArray, List.getElem_cons_zero, List.getElem_cons_succ, Act.put, List.setIfInBounds_toArray, List.set_cons_zero, List.set_cons_succ]
            refine wpAnyH_take (i := 5) (v := aVal f) rfl (by kernel_rfl) (by kernel_rfl) (by kernel_rfl) (fun _ _ _ h => h) (Or.inl ⟨by rfl, fun u b => by obtain ⟨z0, z1, z2, z3, z4, z5, z6, z7, z8, z9, z10⟩ := aBlock.cells b; go_simp⟩) hHeld ?_
            simp only [List.getElem_toArray, List.getElem_cons_zero, List.getElem_cons_succ, Act.put, List.setIfInBounds_toArray, List.set_cons_zero, List.set_cons_succ]
            refine wpAnyH_take (i := 7) (v := .string (str s)) rfl (by kernel_rfl) (by kernel_rfl) (by kernel_rfl) (fun _ _ _ h => h) (Or.inl ⟨by rfl, fun _ _ => by go_simp⟩) hHeld ?_
            simp only [List.getElem_toArray, List.getElem_cons_zero, List.getElem_cons_succ, Act.put, List.setIfInBounds_toArray, List.set_cons_zero, List.set_cons_succ]
            refine wpAnyH_ready (rs := [6]) (by kernel_rfl) (by simp) ?_
            refine AllReadyH.cons rfl (fun K hK => ?_) AllReadyH.nil
            simp only [List.getElem_toArray, List.getElem_cons_zero, List.getElem_cons_succ]
            refine ite_wanted rfl ?_
            go_simp
            refine (unveil HLn rfl W1 hA.b).mono ?_
            rintro e W2 ⟨rfl, bn⟩
            have bW2 := Below.next bW1 bn
            have hA := hA.next bn
            clear bn
            refine hK.out _ _ hA.a (fun hHeld => ?_)
            clear hK K
            refine wpAnyH_take (i := 8) (v := .bool false) rfl (by kernel_rfl) (by kernel_rfl) (by kernel_rfl) (fun _ _ _ h => h) (Or.inl ⟨by rfl, fun _ _ => by go_simp⟩) hHeld ?_
            simp only [List.getElem_toArray, List.getElem_cons_zero, List.getElem_cons_succ, Act.put, List.setIfInBounds_toArray, List.set_cons_zero, List.set_cons_succ]
            refine wpAnyH_take (i := 9) (v := .bool false) rfl (by kernel_rfl) (by kernel_rfl) (by kernel_rfl) (fun _ _ _ h => h) (Or.inl ⟨by rfl, fun _ _ => by go_simp⟩) hHeld ?_
            simp only [List.getElem_toArray, List.getElem_cons_zero, List.getElem_cons_succ, Act.put, List.setIfInBounds_toArray, List.set_cons_zero, List.set_cons_succ]
            refine wpAnyH_ready (rs := [10]) (by kernel_rfl) (by simp) ?_
            refine AllReadyH.cons rfl (fun K hK => ?_) AllReadyH.nil
            simp only [List.getElem_toArray, List.getElem_cons_zero, List.getElem_cons_succ]
            obtain ⟨z0, z1, z2, z3, z4, z5, z6, z7, z8, z9, z10⟩ := hA.r.cells
            have zf := hA.r.free
            go_simp
            obtain ⟨W3, hN, d, b9, tn⟩ := a_stored hA.r hA.b (Nat.le_refl _) (f 0) (f 1) (f 2) (f 3) (f 4) (f 5) (f 6) (f 7) (f 8) (f 9) (f 10)
            rw [← hN]
            clear hN z0 z1 z2 z3 z4 z5 z6 z7 z8 z9 z10 zf
            refine hK.out _ _ (hA.a.turned tn (by have := hA.lt; omega)) (fun hHeld => ?_)
            clear hK K
            refine wpAnyH_take (i := 11) (v := .bool false) rfl (by kernel_rfl) (by kernel_rfl) (by kernel_rfl) (fun _ _ _ h => h) (Or.inl ⟨by rfl, fun _ _ => by go_simp⟩) hHeld ?_
            simp only [List.getElem_toArray, List.getElem_cons_zero, List.getElem_cons_succ, Act.put, List.setIfInBounds_toArray, List.set_cons_zero, List.set_cons_succ]
            refine wpAnyH_done (by kernel_rfl) ?_ _
            go_wp2
            exact bodyPost_ret (ret_lactOf d rfl rfl) rfl ⟨⟨f, false, (congrArg (fun v => Ending.returned (.tuple #[v, _])) (aVal_ext (below11 rfl rfl rfl rfl rfl rfl rfl rfl rfl rfl rfl))), (fun h => by cases h), (fun _ => unveil HNo2 (by simp) hno)⟩, b9⟩
        · refine wp_region_held_drew (S := fun u => aBlock u B f) (by kernel_rfl) (hA.a.next (below_drew wr)) (fun hHeld => ?_)
          refine wpAnyH_take (i := 0) (v := aVal f) rfl (by kernel_rfl) (by kernel_rfl) (by kernel_rfl) (fun _ _ _ h => h) (Or.inl ⟨by rfl, fun u b => by obtain ⟨z0, z1, z2, z3, z4, z5, z6, z7, z8, z9, z10⟩ := aBlock.cells b; go_simp⟩) hHeld ?_
          simp only [List.getElem_toArray, List.getElem_cons_zero, Act.put, List.setIfInBounds_toArray, List.set_cons_zero, List.set_cons_succ]
          refine wpAnyH_take (i := 1) (v := aVal f) rfl (by kernel_rfl) (by kernel_rfl) (by kernel_rfl) (fun _ _ _ h => h) (Or.inl ⟨by rfl, fun u b => by obtain ⟨z0, z1, z2, z3, z4, z5, z6, z7, z8, z9, z10⟩ := aBlock.cells b; go_simp⟩) hHeld ?_
          simp only [List.getElem_toArray, List.getElem_cons_zero, List.getElem_cons_succ, Act.put, List.setIfInBounds_toArray, List.set_cons_zero, List.set_cons_succ]
          have bW0 := below_drew wr
          have hA := hA.next bW0
          obtain ⟨W0, hW0⟩ : ∃ W0, W0 = wr.drew := ⟨_, rfl⟩
          rw [← hW0] at bW0 hA hHeld ⊢
          clear hW0
          refine wpAnyH_ready (rs := [2]) (by kernel_rfl) (by simp) ?_
          refine AllReadyH.cons rfl (fun K hK => ?_) AllReadyH.nil
          simp only [List.getElem_toArray, List.getElem_cons_zero, List.getElem_cons_succ]
          go_simp
          refine (unveil HCh W0 hA.b).mono ?_
          rintro e W1 ⟨rfl, bn⟩
          have bW1 := Below.next bW0 bn
          have hA := hA.next bn
          clear bn
          refine hK.out _ _ hA.a (fun hHeld => ?_)
          clear hK K
          refine wpAnyH_take (i := 3) (v := .bool false) rfl (by kernel_rfl) (by kernel_rfl) (by kernel_rfl) (fun _ _ _ h => h) (Or.inl ⟨by rfl, fun _ _ => by go_simp⟩) hHeld ?_
          simp only [List.getElem_toArray, List.getElem_cons_zero, List.getElem_cons_succ, Act.put, List.setIfInBounds_toArray, List.set_cons_zero, List.set_cons_succ]
          refine wpAnyH_take (i := 4) (v := .bool false) rfl (by kernel_rfl) (by kernel_rfl) (by kernel_rfl) (fun _ _ _ h => h) (Or.inl ⟨by rfl, fun _ _ => by go_simp⟩) hHeld ?_
          simp only [List.getElem_toArray, List.getElem_cons_zero, List.getElem_cons_succ, Act.put, List.setIfInBounds_toArray, List.set_cons_zero, List.set_cons_succ]
          refine wpAnyH_take (i := 5) (v := undef) rfl (by kernel_rfl) (by kernel_rfl) (by kernel_rfl) (fun _ _ _ h => h) (Or.inr ⟨by rfl, rfl⟩) hHeld ?_
          simp only [List.getElem_toArray, List.getElem_cons_zero, List.getElem_cons_succ, Act.put, List.setIfInBounds_toArray, List.set_cons_zero, List.set_cons_succ]
          refine wpAnyH_take (i := 6) (v := undef) rfl (by kernel_rfl) (by kernel_rfl) (by kernel_rfl) (fun _ _ _ h => h) (Or.inr ⟨by rfl, rfl⟩) hHeld ?_
          simp only [List.getElem_toArray, List.getElem_cons_zero, List.getElem_cons_succ, Act.put, List.setIfInBounds_toArray, List.set_cons_zero, List.set_cons_succ]
          refine wpAnyH_take (i := 7) (v := undef) rfl (by kernel_rfl) (by kernel_rfl) (by kernel_rfl) (fun _ _ _ h => h) (Or.inr ⟨by rfl, rfl⟩) hHeld ?_
          simp only [List.getElem_toArray, List.getElem_cons_zero, List.getElem_cons_succ, Act.put, List.setIfInBounds_toArray, List.set_cons_zero, List.set_cons_succ]
          refine wpAnyH_take (i := 8) (v := undef) rfl (by kernel_rfl) (by kernel_rfl) (by kernel_rfl) (fun _ _ _ h => h) (Or.inr ⟨by rfl, rfl⟩) hHeld ?_
          simp only [List.getElem_toArray, List.getElem_cons_zero, List.getElem_cons_succ, Act.put, List.setIfInBounds_toArray, List.set_cons_zero, List.set_cons_succ]
          refine wpAnyH_take (i := 9) (v := .bool false) rfl (by kernel_rfl) (by kernel_rfl) (by kernel_rfl) (fun _ _ _ h => h) (Or.inl ⟨by rfl, fun _ _ => by go_simp⟩) hHeld ?_
          simp only [List.getElem_toArray, List.getElem_cons_zero, List.getElem_cons_succ, Act.put, List.setIfInBounds_toArray, List.set_cons_zero, List.set_cons_succ]
          refine wpAnyH_ready (rs := [10]) (by kernel_rfl) (by simp) ?_
          refine AllReadyH.cons rfl (fun K hK => ?_) AllReadyH.nil
          simp only [List.getElem_toArray, List.getElem_cons_zero, List.getElem_cons_succ]
          obtain ⟨z0, z1, z2, z3, z4, z5, z6, z7, z8, z9, z10⟩ := hA.r.cells
          have zf := hA.r.free
          go_simp
          obtain ⟨W2, hN, d, b9, tn⟩ := a_stored hA.r hA.b (Nat.le_refl _) (f 0) (f 1) (f 2) (f 3) (f 4) (f 5) (f 6) (f 7) (f 8) (f 9) (f 10)
          rw [← hN]
          clear hN z0 z1 z2 z3 z4 z5 z6 z7 z8 z9 z10 zf
          refine hK.out _ _ (hA.a.turned tn (by have := hA.lt; omega)) (fun hHeld => ?_)
          clear hK K
          refine wpAnyH_take (i := 11) (v := .bool false) rfl (by kernel_rfl) (by kernel_rfl) (by kernel_rfl) (fun _ _ _ h => h) (Or.inl ⟨by rfl, fun _ _ => by go_simp⟩) hHeld ?_
          simp only [List.getElem_toArray, List.getElem_cons_zero, List.getElem_cons_succ, Act.put, List.setIfInBounds_toArray, List.set_cons_zero, List.set_cons_succ]
          refine wpAnyH_done (by kernel_rfl) ?_ _
          go_wp2
          exact bodyPost_ret (ret_lactOf d rfl rfl) rfl ⟨⟨f, false, (congrArg (fun v => Ending.returned (.tuple #[v, _])) (aVal_ext (below11 rfl rfl rfl rfl rfl rfl rfl rfl rfl rfl rfl))), (fun h => by cases h), (fun _ => unveil HNo (by decide))⟩, b9⟩
        · refine wp_region_held_drew (S := fun u => aBlock u B f) (by kernel_rfl) (hA.a.next (below_drew wr)) (fun hHeld => ?_)
          refine wpAnyH_take (i := 0) (v := aVal f) rfl (by kernel_rfl) (by kernel_rfl) (by kernel_rfl) (fun _ _ _ h => h) (Or.inl ⟨by rfl, fun u b => by obtain ⟨z0, z1, z2, z3, z4, z5, z6, z7, z8, z9, z10⟩ := aBlock.cells b; go_simp⟩) hHeld ?_
          simp only [List.getElem_toArray, List.getElem_cons_zero, Act.put, List.setIfInBounds_toArray, List.set_cons_zero, List.set_cons_succ]
          refine wpAnyH_take (i := 1) (v := aVal f) rfl (by kernel_rfl) (by kernel_rfl) (by kernel_rfl) (fun _ _ _ h => h) (Or.inl ⟨by rfl, fun u b => by obtain ⟨z0, z1, z2, z3, z4, z5, z6, z7, z8, z9, z10⟩ := aBlock.cells b; go_simp⟩) hHeld ?_
          simp only [List.getElem_toArray, List.getElem_cons_zero, List.getElem_cons_succ, Act.put, List.setIfInBounds_toArray, List.set_cons_zero, List.set_cons_succ]
          have bW0 := below_drew wr
          have hA := hA.next bW0
          obtain ⟨W0, hW0⟩ : ∃ W0, W0 = wr.drew := ⟨_, rfl⟩
          rw [← hW0] at bW0 hA hHeld ⊢
          clear hW0
          refine wpAnyH_ready (rs := [2]) (by kernel_rfl) (by simp) ?_
          refine AllReadyH.cons rfl (fun K hK => ?_) AllReadyH.nil
          simp only [List.getElem_toArray, List.getElem_cons_zero, List.getElem_cons_succ]
          go_simp
          refine (unveil HCh W0 hA.b).mono ?_
          rintro e W1 ⟨rfl, bn⟩
          have bW1 := Below.next bW0 bn
          have hA := hA.next bn
          clear bn
          refine hK.out _ _ hA.a (fun hHeld => ?_)
          clear hK K
          refine wpAnyH_take (i := 3) (v := .bool false) rfl (by kernel_rfl) (by kernel_rfl) (by kernel_rfl) (fun _ _ _ h => h) (Or.inl ⟨by rfl, fun _ _ => by go_simp⟩) hHeld ?_
          simp only [List.getElem_toArray, List.getElem_cons_zero, List.getElem_cons_succ, Act.put, List.setIfInBounds_toArray, List.set_cons_zero, List.set_cons_succ]
          refine wpAnyH_take (i := 4) (v := .bool false) rfl (by kernel_rfl) (by kernel_rfl) (by kernel_rfl) (fun _ _ _ h => h) (Or.inl ⟨by rfl, fun _ _ => by go_simp⟩) hHeld ?_
          simp only [List.getElem_toArray, List.getElem_cons_zero, List.getElem_cons_succ, Act.put, List.setIfInBounds_toArray, List.set_cons_zero, List.set_cons_succ]
          refine wpAnyH_take (i := 5) (v := undef) rfl (by kernel_rfl) (by kernel_rfl) (by kernel_rfl) (fun _ _ _ h => h) (Or.inr ⟨by rfl, rfl⟩) hHeld ?_
          simp only [List.getElem_toArray, List.getElem_cons_zero, List.getElem_cons_succ, Act.put, List.setIfInBounds_toArray, List.set_cons_zero, List.set_cons_succ]
          refine wpAnyH_take (i := 6) (v := undef) rfl (by kernel_rfl) (by kernel_rfl) (by kernel_rfl) (fun _ _ _ h => h) (Or.inr ⟨by rfl, rfl⟩) hHeld ?_
          simp only [List.getElem_toArray, List.getElem_cons_zero, List.getElem_cons_succ, Act.put, List.setIfInBounds_toArray, List.set_cons_zero, List.set_cons_succ]
          refine wpAnyH_take (i := 7) (v := undef) rfl (by kernel_rfl) (by kernel_rfl) (by kernel_rfl) (fun _ _ _ h => h) (Or.inr ⟨by rfl, rfl⟩) hHeld ?_
          simp only [List.getElem_toArray, List.getElem_cons_zero, List.getElem_cons_succ, Act.put, List.setIfInBounds_toArray, List.set_cons_zero, List.set_cons_succ]
          refine wpAnyH_take (i := 8) (v := undef) rfl (by kernel_rfl) (by kernel_rfl) (by kernel_rfl) (fun _ _ _ h => h) (Or.inr ⟨by rfl, rfl⟩) hHeld ?_
          simp only [List.getElem_toArray, List.getElem_cons_zero, List.getElem_cons_succ, Act.put, List.setIfInBounds_toArray, List.set_cons_zero, List.set_cons_succ]
          refine wpAnyH_take (i := 9) (v := .bool false) rfl (by kernel_rfl) (by kernel_rfl) (by kernel_rfl) (fun _ _ _ h => h) (Or.inl ⟨by rfl, fun _ _ => by go_simp⟩) hHeld ?_
          simp only [List.getElem_toArray, List.getElem_cons_zero, List.getElem_cons_succ, Act.put, List.setIfInBounds_toArray, List.set_cons_zero, List.set_cons_succ]
          refine wpAnyH_ready (rs := [10]) (by kernel_rfl) (by simp) ?_
          refine AllReadyH.cons rfl (fun K hK => ?_) AllReadyH.nil
          simp only [List.getElem_toArray, List.getElem_cons_zero, List.getElem_cons_succ]
          obtain ⟨z0, z1, z2, z3, z4, z5, z6, z7, z8, z9, z10⟩ := hA.r.cells
          have zf := hA.r.free
          go_simp
          obtain ⟨W2, hN, d, b9, tn⟩ := a_stored hA.r hA.b (Nat.le_refl _) (f 0) (f 1) (f 2) (f 3) (f 4) (f 5) (f 6) (f 7) (f 8) (f 9) (f 10)
          rw [← hN]
          clear hN z0 z1 z2 z3 z4 z5 z6 z7 z8 z9 z10 zf
          refine hK.out _ _ (hA.a.turned tn (by have := hA.lt; omega)) (fun hHeld => ?_)
          clear hK K
          refine wpAnyH_take (i := 11) (v := .bool false) rfl (by kernel_rfl) (by kernel_rfl) (by kernel_rfl) (fun _ _ _ h => h) (Or.inl ⟨by rfl, fun _ _ => by go_simp⟩) hHeld ?_
          simp only [List.getElem_toArray, List.getElem_cons_zero, List.getElem_cons_succ, Act.put, List.setIfInBounds_toArray, List.set_cons_zero, List.set_cons_succ]
          refine wpAnyH_done (by kernel_rfl) ?_ _
          go_wp2
          exact bodyPost_ret (ret_lactOf d rfl rfl) rfl ⟨⟨f, false, (congrArg (fun v => Ending.returned (.tuple #[v, _])) (aVal_ext (below11 rfl rfl rfl rfl rfl rfl rfl rfl rfl rfl rfl))), (fun h => by cases h), (fun _ => unveil HNo (by decide))⟩, b9⟩
end Go.Proofs.YtekbdkppnjnaaaaDoor
