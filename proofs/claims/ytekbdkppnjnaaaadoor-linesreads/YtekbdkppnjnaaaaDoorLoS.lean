/- Walk of the document's ActsRead. -/
import Derived.Test.YtekbdkppnjnaaaaDoorLoR
import Derived.Test.YtekbdkppnjnaaaaDoorLoL
namespace Go.Proofs.YtekbdkppnjnaaaaDoor
open Go.RowKit

theorem chk_kind {f : Nat → Int} (h : chk f = 0) : 0 < f 0 := by
  have hi := (chk_nums h).1
  have := (kno_act _ _ hi).1
  rw [← this]
  generalize kno (f 0) (f 5) = k at hi
  revert k
  refine below12 ?_ ?_ ?_ ?_ ?_ ?_ ?_ ?_ ?_ ?_ ?_ ?_ <;> decide
/-- how far the lines are read. -/
structure Rt (t : List UInt8) (D : List Int) (n fr i : Nat) : Prop where
  le : fr ≤ i
  clear : (10 : UInt8) ∉ (t.drop fr).take (i - fr)
  len : D.length = 11 * n
  ls : ∃ ls : List (List UInt8), ls.length = n ∧ (∀ j s, ls[j]? = some s → IsLine s (actAt D j)) ∧ linesOf t = ls ++ linesOf (t.drop fr)
theorem Rt.first (t : List UInt8) : Rt t [] 0 0 0 := ⟨Nat.le_refl _, by simp, rfl, [], rfl, (fun j s h => by simp at h), by simp⟩
theorem Rt.on {t : List UInt8} {D : List Int} {n fr i : Nat} (h : Rt t D n fr i) (hi : i < t.length) (hc : ¬ t[i] = 10) : Rt t D n fr (i + 1) := by
  refine ⟨by have := h.le; omega, ?_, h.len, h.ls⟩
  rw [take_next h.le hi]
  intro e
  rcases List.mem_append.1 e with e | e
  · exact h.clear e
  · exact hc (List.mem_singleton.1 e).symm
theorem Rt.line {t : List UInt8} {D : List Int} {n fr i : Nat} (h : Rt t D n fr i) (hi : i < t.length) (hc : t[i] = 10) : linesOf (t.drop fr) = ((t.drop fr).take (i - fr) ++ [10]) :: linesOf (t.drop (i + 1)) := by
  have hle := h.le
  have e : t.drop fr = (t.drop fr).take (i - fr) ++ [10] ++ t.drop (i + 1) := by
    have h1 : t.drop fr = (t.drop fr).take (i - fr) ++ (t.drop fr).drop (i - fr) := (List.take_append_drop _ _).symm
    rw [List.drop_drop, show fr + (i - fr) = i by omega, List.drop_eq_getElem_cons hi, hc] at h1
    rw [List.append_assoc]
    exact h1
  conv => lhs; rw [e]
  exact lines_cons h.clear
theorem Rt.rest {t : List UInt8} {D : List Int} {n fr : Nat} (h : Rt t D n fr t.length) (hf : fr < t.length) : linesOf (t.drop fr) = [t.drop fr] ∧ ∀ g, ¬ IsLine (t.drop fr) g := by
  have hno : (10 : UInt8) ∉ t.drop fr := by
    have := h.clear
    rwa [List.take_of_length_le (by rw [List.length_drop]; omega)] at this
  have hne : t.drop fr ≠ [] := fun e => by
    have := congrArg List.length e
    rw [List.length_drop] at this
    simp at this
    omega
  refine ⟨?_, fun g hg => hno (by rw [hg.2]; simp)⟩
  have hx : ∀ r : List UInt8, (10 : UInt8) ∉ r → Lib.indexByte r 10 = -1 := by
    intro r
    induction r with
    | nil => intro _; rfl
    | cons x r ih =>
      intro hr
      have h1 : ¬ x = 10 := fun e => hr (e ▸ List.mem_cons_self ..)
      have h2 := ih (fun e => hr (List.mem_cons_of_mem _ e))
      simp [Lib.indexByte, h1, h2]
  have he : lineEnd (t.drop fr) = (t.drop fr).length := by
    unfold lineEnd
    rw [if_pos (hx _ hno)]
  rw [linesOf_cons hne, he, List.take_length, List.drop_length, linesOf_nil]
theorem Rt.next {t : List UInt8} {D : List Int} {n fr i : Nat} {f : Nat → Int} (h : Rt t D n fr i) (hi : i < t.length) (hc : t[i] = 10) (hf : chk f = 0) (hx : (t.drop fr).take (i - fr) = lineL f) : Rt t (D ++ [f 0, f 1, f 2, f 3, f 4, f 5, f 6, f 7, f 8, f 9, f 10]) (n + 1) (i + 1) (i + 1) := by
  obtain ⟨ls, l1, l2, l3⟩ := h.ls
  refine ⟨Nat.le_refl _, by simp, by rw [List.length_append, h.len]; simp; omega, ls ++ [lineL f ++ [10]], by simp [l1], fun j s hs => ?_, ?_⟩
  · by_cases e : j < n
    · rw [List.getElem?_append_left (by omega)] at hs
      exact line_of_ext (l2 j s hs) fun o ho => (actAt_left h.len e o ho).symm
    · have hj : j = n := by
        have := (List.getElem?_eq_some_iff.1 hs).1
        simp at this
        omega
      subst hj
      have es : lineL f ++ [10] = s := by
        rw [List.getElem?_append_right (by omega), l1] at hs
        simpa using hs
      refine line_of_ext (f := f) ⟨hf, es.symm⟩ fun o ho => ?_
      rw [actAt_right h.len o ho]
      revert o
      exact below11 rfl rfl rfl rfl rfl rfl rfl rfl rfl rfl rfl
  · rw [l3, h.line hi hc, hx]
    simp
/-- lines that were read are good. -/
theorem Rt.good {t : List UInt8} {D : List Int} {n fr i : Nat} (h : Rt t D n fr i) : ∀ j s, (linesOf t)[j]? = some s → j < n → ∃ f, IsLine s f := fun j s hs hj => by
  obtain ⟨ls, l1, l2, l3⟩ := h.ls
  rw [l3, List.getElem?_append_left (by omega)] at hs
  exact ⟨_, l2 j s hs⟩
theorem Rt.nth {t : List UInt8} {D : List Int} {n fr i : Nat} {x : List UInt8} {r : List (List UInt8)} (h : Rt t D n fr i) (e : linesOf (t.drop fr) = x :: r) : (linesOf t)[n]? = some x := by
  obtain ⟨ls, l1, l2, l3⟩ := h.ls
  rw [l3, List.getElem?_append_right (by omega), l1, e]
  simp
theorem Rt.last {t : List UInt8} {D : List Int} {n i : Nat} (ht : t.length ≤ 4000000) (h : Rt t D n t.length i) (hn : n ≤ 100000) : ReadR t D n 0 0 := by
  obtain ⟨ls, l1, l2, l3⟩ := h.ls
  rw [List.drop_length, linesOf_nil, List.append_nil] at l3
  have hl : (linesOf t).length = n := by rw [l3, l1]
  have := ReadR.good ht D (by omega) (by rw [hl]; exact h.len) (fun j s hs => l2 j s (by rw [← l3]; exact hs))
  rwa [hl] at this
theorem Rt.full {t : List UInt8} {D : List Int} {fr i : Nat} {x : List UInt8} {r : List (List UInt8)} (ht : t.length ≤ 4000000) (h : Rt t D 100000 fr i) (e : linesOf (t.drop fr) = x :: r) : ReadR t [] 0 100000 14 :=
  .full ht (by have := (List.getElem?_eq_some_iff.1 (h.nth e)).1; omega) h.good
theorem Rt.form {t : List UInt8} {D : List Int} {n fr i : Nat} {x : List UInt8} {r : List (List UInt8)} (ht : t.length ≤ 4000000) (h : Rt t D n fr i) (e : linesOf (t.drop fr) = x :: r) (hn : n < 100000) (hx : ∀ g, ¬ IsLine x g) : ReadR t [] 0 n 3 :=
  .form ht n x (h.nth e) hn h.good hx
theorem line_ten {x : List UInt8} {g : Nat → Int} (h : IsLine (x ++ [10]) g) : chk g = 0 ∧ x = lineL g := ⟨h.1, List.append_cancel_right h.2⟩
/-- what ActsRead has made. -/
structure Fr (w wr : World) (a1 : Option Addr) (c1 : Nat) (E : List Int) (k : Nat) : Prop where
  o : wr.ownsRow w.heap.size 27 11 (.slice a1 k c1) k (E.map (Value.int .i64))
  b : Below w.heap.size w wr
theorem Fr.grown {w W3 w5 : World} {a1 : Option Addr} {c1 : Nat} {E : List Int} {k : Nat} (h : Fr w W3 a1 c1 E k) (g : W3.grownBy w5 (Value.slice a1 k c1).ownBlock) : Below w.heap.size w w5 :=
  h.b.grown g h.b.size (fun j e => (h.o.lt j e).1)
theorem Fr.next {w wr wx : World} {a1 : Option Addr} {c1 : Nat} {E : List Int} {k : Nat} (h : Fr w wr a1 c1 E k) (b : Below wr.heap.size wr wx) : Fr w wx a1 c1 E k := ⟨own_still h.o (fun g _ hg => b.block g hg), Below.next h.b b⟩
set_option maxRecDepth 20000 in
set_option maxHeartbeats 8000000 in
theorem actsRead_any (t : List UInt8) (w : World) : Calls Tryd.prog 17 #[.string (str t)] w fun e w' => ReadOut t w e w' := by
  obtain ⟨i2, hi2, hz20, hz21, hz22⟩ := info_of Tryd.infoAct
  have hsz : (str t).size = t.length := str_size t
  by_cases ht : t.length ≤ 4000000
  case neg =>
    have hlt : (4000000 : Int) < t.length := by omega
    go_enter Tryd.func17, Tryd.ntmps17
    go_wp2
    go_ret3
    exact ⟨_, [], 0, 0, 1, rfl, .size (by omega), World.ownsRow_nil _ _ _ _, Below.refl _ _⟩
  case pos =>
  have hle : ¬ ((4000000 : Int) < t.length) := by omega
  have hat : ∀ i (h : i < t.length), (str t)[i]'(by rw [str_size]; exact h) = t[i] := fun i h => str_at t i h
  have HX : Hid (∀ a b, (str t).extract a b = str ((t.drop a).take (b - a))) := veil (str_extract t)
  go_enter Tryd.func17, Tryd.ntmps17
  go_wp2
  go_loopw [5, 6, 7] (fun lv fv iv wr => ∃ (E : List Int) (n fr i : Nat) (a1 : Option Addr) (c1 : Nat), i ≤ t.length + 1 ∧ fr ≤ i ∧ fr ≤ t.length ∧ n ≤ 100000 ∧ iv = .int .i64 i ∧ fv = .int .i64 fr ∧ lv = .slice a1 n c1 ∧ Hid (Rt t E n fr i) ∧ Hid (i = t.length + 1 → fr = t.length) ∧ Hid (Fr w wr a1 c1 E n)) (fun _ _ iv _ => t.length + 1 - (intOf iv).toNat)
  case atStart => exact ⟨[], 0, 0, 0, none, 0, by omega, by omega, by omega, by omega, rfl, rfl, rfl, veil (Rt.first t), veil (fun e => by omega), veil ⟨World.ownsRow_nil _ _ _ _, Below.refl _ _⟩⟩
  case round =>
    obtain ⟨E, n, fr, i, a1, c1, hi, hfr, hfl, hn, rfl, rfl, rfl, HR, HF, HT⟩ := hrel
    by_cases hlt : i ≤ t.length
    case neg =>
      have HZ : Hid (ReadR t E n 0 0) := veil (by
        have e : fr = t.length := unveil HF (by omega)
        have := unveil HR
        rw [e] at this
        exact this.last ht hn)
      have hii : ¬ ((i : Int) ≤ (t.length : Int)) := by omega
      clear HR HF HX hat
      go_wp2
      go_ret3
      exact ⟨_, E, n, 0, 0, rfl, unveil HZ, (unveil HT).o, (unveil HT).b⟩
    case pos =>
      have hii : (i : Int) ≤ (t.length : Int) := by omega
      by_cases hil : i < t.length
      case pos =>
        have hki : (i : Int) < (t.length : Int) := by omega
        have hh := hat i hil
        by_cases hc : t[i] = 10
        case neg =>
          have HN := veil ((unveil HR).on hil hc)
          have hci : ((t[i].toNat : Int) == 10) = false := beq_eq_false_iff_ne.2 fun e => by
            have h1 : t[i].toNat = 10 := by omega
            exact hc (UInt8.toNat_inj.1 (h1.trans rfl))
          clear hat HX HR HF hc
          go_wp2
          go_roundw
          case rel => exact ⟨E, n, fr, i + 1, a1, c1, by omega, by omega, by omega, hn, by go_num, rfl, rfl, HN, veil (fun e => by omega), HT⟩
          case measure => simp [intOf]; omega
        case pos =>
          have hci : (t[i].toNat : Int) = 10 := by rw [hc]; rfl
          have hie : ((i : Int) == (t.length : Int)) = false := beq_eq_false_iff_ne.2 (by omega)
          have HLn := veil ((unveil HR).line hil hc)
          have hx := unveil HX fr i
          have HNx : Hid (∀ f, chk f = 0 → (t.drop fr).take (i - fr) = lineL f → Rt t (E ++ [f 0, f 1, f 2, f 3, f 4, f 5, f 6, f 7, f 8, f 9, f 10]) (n + 1) (i + 1) (i + 1)) := veil fun f hf he => (unveil HR).next hil hc hf he
          obtain ⟨X, hX⟩ : ∃ X, X = (t.drop fr).take (i - fr) := ⟨_, rfl⟩
          have hXl : X.length ≤ 4000000 := by rw [hX]; simp only [List.length_take, List.length_drop]; omega
          rw [← hX] at hx HNx HLn
          clear hX hat HX HF hc
          by_cases hn1 : n = 100000
          case pos =>
            subst hn1
            have HZ := veil ((unveil HR).full ht (unveil HLn))
            clear HR HLn HNx hx
            go_wp2
            go_ret3
            exact ⟨_, [], 0, _, _, rfl, unveil HZ, World.ownsRow_nil _ _ _ _, (unveil HT).b⟩
          case neg =>
            have hn2 : ((n : Int) == 100000) = false := beq_eq_false_iff_ne.2 (by omega)
            have hn3 : n < 100000 := by omega
            have hfi : (fr : Int) ≤ (i : Int) := by omega
            have HFm : Hid ((∀ g, chk g = 0 → ¬ X = lineL g) → ReadR t [] 0 n 3) := veil fun h => (unveil HR).form ht (unveil HLn) hn3 (fun g hg => h g (line_ten hg).1 (line_ten hg).2)
            have H1 := lineAct_any X hXl wr
            clear HR HLn hn1 hXl
            go_upto_region 12 with (go_at_call 36; refine H1.mono ?_; rintro e V1 ⟨⟨f, rfl, hr⟩, b1⟩; clear H1)
            have HRr := veil hr
            clear hr
            obtain ⟨W2, hW2, A2, T2⟩ : ∃ W2, W2 = V1.alloc (.cells #[.int .i64 (f 0), .int .i64 (f 1), .int .i64 (f 2), .int .i64 (f 3), .int .i64 (f 4), .int .i64 (f 5), .int .i64 (f 6), .int .i64 (f 7), .int .i64 (f 8), .int .i64 (f 9), .int .i64 (f 10)] 27) ∧ aBlock W2 V1.heap.size f ∧ Fr w W2 a1 c1 E n := ⟨_, rfl, aBlock.new V1 f, ((unveil HT).next b1).next (below1 _ _)⟩
            rw [← hW2]
            clear hW2 b1 HT hx
            obtain ⟨x0, x1, x2, x3, x4, x5, x6, x7, x8, x9, x10⟩ := A2.cells
            by_cases hf0 : f 0 = 0
            case pos =>
              have HZ := veil (unveil HFm (by
                rcases unveil HRr with ⟨hf, _⟩ | ⟨_, h⟩
                · have := chk_kind hf; omega
                · exact h))
              have HB := veil T2.b
              clear HRr HFm HNx A2 T2
              rw [hf0] at x0
              clear hf0
              go_wp2
              go_ret3
              exact ⟨_, [], 0, _, _, rfl, unveil HZ, World.ownsRow_nil _ _ _ _, unveil HB⟩
            case neg =>
              have hf1 : (f 0 == 0) = false := beq_eq_false_iff_ne.2 hf0
              have HN := veil (by
                rcases unveil HRr with ⟨hf, he⟩ | ⟨h, _⟩
                · exact unveil HNx f hf he
                · exact absurd h hf0)
              have T3 := T2.next (below1 W2 (.cells (aCells f) 27))
              have HO : Hid ((W2.alloc (.cells #[.int .i64 (f 0), .int .i64 (f 1), .int .i64 (f 2), .int .i64 (f 3), .int .i64 (f 4), .int .i64 (f 5), .int .i64 (f 6), .int .i64 (f 7), .int .i64 (f 8), .int .i64 (f 9), .int .i64 (f 10)] 27)).ownsRow w.heap.size 27 11 (.slice a1 n c1) n (E.map (Value.int .i64))) := veil T3.o
              have HG : Hid (∀ w5, (W2.alloc (.cells #[.int .i64 (f 0), .int .i64 (f 1), .int .i64 (f 2), .int .i64 (f 3), .int .i64 (f 4), .int .i64 (f 5), .int .i64 (f 6), .int .i64 (f 7), .int .i64 (f 8), .int .i64 (f 9), .int .i64 (f 10)] 27)).grownBy w5 (Value.slice a1 n c1).ownBlock → Below w.heap.size w w5) := veil fun w5 g => T3.grown g
              have hsw := T2.b.size
              clear HRr HFm HNx A2 T2 T3 hf0
              go_wp2_with (at_builtin; refine wpList_append_own _ rfl _ _ 31 rfl w.heap.size 27 i2 _ 11 88 Tryd.underlying31 hi2 hz20 hz21 hz22 rfl (by decide) (.slice a1 n c1) n (E.map (Value.int .i64)) rfl (unveil HO) ⟨W2.heap.size, 0, none⟩ 1 1 ([f 0, f 1, f 2, f 3, f 4, f 5, f 6, f 7, f 8, f 9, f 10].map (Value.int .i64)) rfl rfl (news11 W2 f) (ints_oneCell _ _) (by unfold maxLen; omega) (by omega) (by simp; omega) ?_; intro v' w5 o5 g5; have HB := veil (unveil HG w5 g5); obtain ⟨a2, c2, rfl⟩ := own_form o5; have HO5 := veil o5; clear o5 g5 HO HG x0 x1 x2 x3 x4 x5 x6 x7 x8 x9 x10)
              go_roundw
              case rel => exact ⟨E ++ [f 0, f 1, f 2, f 3, f 4, f 5, f 6, f 7, f 8, f 9, f 10], n + 1, i + 1, i + 1, a2, c2, by omega, by omega, by omega, by omega, by go_num, by go_num, by simp, HN, veil (fun e => by omega), veil ⟨by rw [List.map_append]; exact unveil HO5, unveil HB⟩⟩
              case measure => simp [intOf]; omega
      case neg =>
        have hie : ((i : Int) == (t.length : Int)) = true := by rw [beq_iff_eq]; omega
        have hki : ¬ ((i : Int) < (t.length : Int)) := by omega
        have hit : i = t.length := by omega
        by_cases hf : fr = t.length
        case pos =>
          have hfe : ((fr : Int) == (t.length : Int)) = true := by rw [beq_iff_eq]; omega
          have HN : Hid (Rt t E n fr (i + 1)) := veil ⟨by omega, by
            rw [hf, List.drop_length]
            simp, (unveil HR).len, (unveil HR).ls⟩
          have HF2 := veil hf
          clear HR HF HX hat hit hf
          go_wp2
          go_roundw
          case rel => exact ⟨E, n, fr, i + 1, a1, c1, by omega, by omega, by omega, hn, by go_num, rfl, rfl, HN, veil (fun _ => unveil HF2), HT⟩
          case measure => simp [intOf]; omega
        case neg =>
          have hfe : ((fr : Int) == (t.length : Int)) = false := beq_eq_false_iff_ne.2 (by omega)
          have hR2 := unveil HR
          rw [hit] at hR2
          obtain ⟨q1, q2⟩ := hR2.rest (by omega)
          have hx := unveil HX fr i
          obtain ⟨X, hX⟩ : ∃ X, X = (t.drop fr).take (i - fr) := ⟨_, rfl⟩
          have hXl : X.length ≤ 4000000 := by rw [hX]; simp only [List.length_take, List.length_drop]; omega
          rw [← hX] at hx
          have hfi : (fr : Int) ≤ (i : Int) := by omega
          by_cases hn1 : n = 100000
          case pos =>
            subst hn1
            have HZ := veil (hR2.full ht q1)
            clear HR HF HX hat hit hf hR2 q1 q2 hx hX
            go_wp2
            go_ret3
            exact ⟨_, [], 0, _, _, rfl, unveil HZ, World.ownsRow_nil _ _ _ _, (unveil HT).b⟩
          case neg =>
            have hn2 : ((n : Int) == 100000) = false := beq_eq_false_iff_ne.2 (by omega)
            have HZ := veil (hR2.form ht q1 (by omega) q2)
            have H1 := lineAct_any X hXl wr
            clear HR HF HX hat hit hf hR2 q1 q2 hX hn1 hXl
            go_upto_region 12 with (go_at_call 36; refine H1.mono ?_; rintro e V1 ⟨⟨f, rfl, _⟩, b1⟩; clear H1)
            obtain ⟨W2, hW2, A2, T2⟩ : ∃ W2, W2 = V1.alloc (.cells #[.int .i64 (f 0), .int .i64 (f 1), .int .i64 (f 2), .int .i64 (f 3), .int .i64 (f 4), .int .i64 (f 5), .int .i64 (f 6), .int .i64 (f 7), .int .i64 (f 8), .int .i64 (f 9), .int .i64 (f 10)] 27) ∧ aBlock W2 V1.heap.size f ∧ Below w.heap.size w W2 := ⟨_, rfl, aBlock.new V1 f, Below.next (Below.next (unveil HT).b b1) (below1 _ _)⟩
            rw [← hW2]
            clear hW2 b1 HT hx
            obtain ⟨x0, x1, x2, x3, x4, x5, x6, x7, x8, x9, x10⟩ := A2.cells
            clear A2
            by_cases hf0 : f 0 = 0
            case pos =>
              rw [hf0] at x0
              clear hf0
              go_wp2
              go_ret3
              exact ⟨_, [], 0, _, _, rfl, unveil HZ, World.ownsRow_nil _ _ _ _, T2⟩
            case neg =>
              have hf1 : (f 0 == 0) = false := beq_eq_false_iff_ne.2 hf0
              clear hf0
              go_wp2
              go_ret3
              exact ⟨_, [], 0, _, _, rfl, unveil HZ, World.ownsRow_nil _ _ _ _, T2⟩
end Go.Proofs.YtekbdkppnjnaaaaDoor
