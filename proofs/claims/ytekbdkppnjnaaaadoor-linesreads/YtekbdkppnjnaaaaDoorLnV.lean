/- Walks of lines.Show and of the document's ActsShown. -/
import Derived.Test.YtekbdkppnjnaaaaDoorLnU
import Derived.OwnWalk
namespace Go.Proofs.YtekbdkppnjnaaaaDoor
open Go.RowKit

theorem builder_next {T e : TypeId} {B b : Nat} {bs : List Value} {w w' : World} (h : Lib.IsBuilder T e B b bs w) (bel : Below w.heap.size w w') : Lib.IsBuilder T e B b bs w' := by
  have one : ∀ p, Lib.BuilderAt T e B b p bs w → Lib.BuilderAt T e B b p bs w' := fun p h => by
    obtain ⟨hB, v, hb, ho, hn⟩ := h
    exact ⟨hB, v, (bel.block b (block_lt hb)).trans hb, own_still ho (fun g _ hg => bel.block g hg), hn⟩
  exact h.elim (fun x => .inl (one _ x)) (fun x => .inr (one _ x))
/-- the lines of the first acts. -/
def showL (D : List Int) : Nat → List UInt8
  | 0 => []
  | k + 1 => showL D k ++ (lineL (actAt D k) ++ [10])
theorem showL_len {D : List Int} : ∀ {k : Nat}, (∀ j, j < k → chk (actAt D j) = 0) → (showL D k).length ≤ 63 * k
  | 0, _ => by simp [showL]
  | k + 1, h => by
    have h1 := showL_len (k := k) (fun j hj => h j (by omega))
    have h2 := line_len (chk_nums (h k (by omega)))
    show (showL D k ++ (lineL (actAt D k) ++ [10])).length ≤ _
    simp only [List.length_append, List.length_singleton]
    omega
/-- what Show answers. -/
inductive ShowR (D : List Int) (n : Nat) : List UInt8 → Int → Int → Prop
  | size (h : 100000 < n) : ShowR D n [] 0 1
  | bad (hn : n ≤ 100000) (k : Nat) (hk : k < n) (h : ∀ j, j < k → chk (actAt D j) = 0) (hb : ¬ chk (actAt D k) = 0) : ShowR D n [] k (chk (actAt D k))
  | good (hn : n ≤ 100000) (h : ∀ j, j < n → chk (actAt D j) = 0) : ShowR D n (showL D n) 0 0
theorem ShowR.det {D : List Int} {n : Nat} {s s' : List UInt8} {c e c' e' : Int} (h : ShowR D n s c e) (h' : ShowR D n s' c' e') : s = s' ∧ c = c' ∧ e = e' := by
  cases h with
  | size h =>
    cases h' with
    | size h' => exact ⟨rfl, rfl, rfl⟩
    | bad hn k hk h' hb => omega
    | good hn h' => omega
  | bad hn k hk h hb =>
    cases h' with
    | size h' => omega
    | bad hn' k' hk' h' hb' =>
      rcases Nat.lt_trichotomy k k' with e | e | e
      · exact absurd (h' k e) hb
      · subst e; exact ⟨rfl, rfl, rfl⟩
      · exact absurd (h k' e) hb'
    | good hn' h' => exact absurd (h' k hk) hb
  | good hn h =>
    cases h' with
    | size h' => omega
    | bad hn' k' hk' h' hb' => exact absurd (h k' hk') hb'
    | good hn' h' => exact ⟨rfl, rfl, rfl⟩
theorem cells_app (a b : List UInt8) : Lib.byteCells a ++ Lib.strCells (str b) = Lib.byteCells (a ++ b) := by
  simp [Lib.byteCells, Lib.strCells, str]
theorem cells_len (a : List UInt8) : (Lib.byteCells a).length = a.length := by simp [Lib.byteCells]
set_option maxRecDepth 20000 in
set_option maxHeartbeats 4000000 in
theorem show_any (a : Option Addr) (len cap : Nat) (D : List Int) (w : World) (hL : Laid w) (h : RowK .i64 w a (11 * len) D) (hs : len * 88 ≤ 140737488351232) :
    Calls Tryd.prog 13 #[.slice a len cap] w fun x w' => ∃ s c e, x = .returned (.tuple #[.string (str s), .int .i64 c, .int .i64 e]) ∧ ShowR D len s c e ∧ Below w.heap.size w w' := by
  by_cases hbig : 100000 < len
  case pos =>
    go_enter Tryd.func13, Tryd.ntmps13
    go_wp2
    go_ret3
    exact ⟨[], _, _, rfl, .size hbig, Below.refl _ _⟩
  case neg =>
    have hn : len ≤ 100000 := by omega
    have HC : Hid (∀ f u, Below w.heap.size w u → Calls Tryd.prog 10 #[aVal f] u fun e w' => e = .returned (.int .i64 (chk f)) ∧ Below u.heap.size u w') := veil fun f u b => lcheck_any f u (hL.next b).k
    have HLi : Hid (∀ f u, Below w.heap.size w u → chk f = 0 → Calls Tryd.prog 31 #[aVal f] u fun e w' => e = .returned (.string (str (lineL f ++ [10]))) ∧ Below u.heap.size u w') := veil fun f u b g => line_any f u (hL.next b) (chk_nums g)
    have HR : Hid (∀ u, Below w.heap.size w u → RowK .i64 u a (11 * len) D) := veil fun u b => h.below b
    clear hL h
    obtain ⟨W0, hW0, I0, B0⟩ : ∃ W0, W0 = w.alloc (.cells #[.pointer none, .slice none 0 0] 64) ∧ Lib.IsBuilder 64 5 w.heap.size w.heap.size [] W0 ∧ Below w.heap.size w W0 := ⟨_, rfl, Lib.fresh_isBuilder _ _ w, below1 _ _⟩
    have HI0 := veil I0
    clear I0
    go_enter Tryd.func13, Tryd.ntmps13
    go_upto_region 4 with fail
    rw [← hW0]
    clear hW0
    go_wp2_with fail
    go_loopw [14] (fun t wr => ∃ k : Nat, k ≤ len ∧ t = .int .i64 k ∧ Hid (∀ j, j < k → chk (actAt D j) = 0) ∧ Hid (Lib.IsBuilder 64 5 w.heap.size w.heap.size (Lib.byteCells (showL D k)) wr) ∧ Below w.heap.size w wr) (fun t _ => len - (intOf t).toNat)
    case atStart => exact ⟨0, Nat.zero_le _, rfl, veil (fun j hj => by omega), HI0, B0⟩
    case round =>
      clear HI0 B0
      obtain ⟨k, hk, rfl, HN, HI, bel⟩ := hrel
      by_cases hlt : k < len
      case neg =>
        obtain rfl : k = len := by omega
        have H1 := string_any w.heap.size w.heap.size (showL D k) wr (unveil HI) bel.size
        have HX : Hid (ShowR D k (showL D k) 0 0) := veil (.good hn (unveil HN))
        clear HC HR HLi HN HI
        go_wp2_with (go_at_call 32; refine H1.mono ?_; rintro x V1 ⟨rfl, b1⟩; clear H1)
        go_ret3
        exact ⟨_, _, _, rfl, unveil HX, bel.trans b1⟩
      case pos =>
        have rk := unveil HR wr bel
        obtain ⟨b, off, rfl⟩ := rk.form (by omega)
        obtain ⟨x0, x1, x2, x3, x4, x5, x6, x7, x8, x9, x10⟩ := row_act rk k hlt
        have hbl : b < wr.heap.size := rk.lt (by omega)
        have hbn : b ≠ wr.heap.size := by omega
        clear rk
        have HB : Hid (¬ chk (actAt D k) = 0 → ShowR D len [] k (chk (actAt D k))) := veil fun g => .bad hn k hlt (unveil HN) g
        have HN2 : Hid (chk (actAt D k) = 0 → ∀ j, j < k + 1 → chk (actAt D j) = 0) := veil fun g j hj => by
          by_cases e : j = k
          · rw [e]; exact g
          · exact unveil HN j (by omega)
        have HS : Hid (Lib.byteCells (showL D k) ++ Lib.strCells (str (lineL (actAt D k) ++ [10])) = Lib.byteCells (showL D (k + 1))) := veil (cells_app _ _)
        have hsl : (Lib.byteCells (showL D k)).length ≤ 6300000 := by rw [cells_len]; have := showL_len (unveil HN); omega
        have HLe : Hid (chk (actAt D k) = 0 → (str (lineL (actAt D k) ++ [10])).size ≤ 63) := veil fun g => by rw [str_size, List.length_append]; have := line_len (chk_nums g); simp; omega
        clear HN HR
        generalize actAt D k = f at *
        generalize Lib.byteCells (showL D k) = bs at *
        obtain ⟨bs2, hbs2⟩ : ∃ x, x = Lib.byteCells (showL D (k + 1)) := ⟨_, rfl⟩
        rw [← hbs2] at HS
        have HB2 := veil hbs2
        clear hbs2
        obtain ⟨W3, hW3, A3, B3⟩ : ∃ W3, W3 = wr.alloc (.cells (aCells f) 27) ∧ aBlock W3 wr.heap.size f ∧ Below wr.heap.size wr W3 := ⟨_, rfl, aBlock.new wr f, below1 _ _⟩
        have BW := Below.next bel B3
        have H1 := unveil HC f W3 BW
        have HI3 := veil (builder_next (unveil HI) B3)
        have HL2 : Hid (chk f = 0 → ∀ u, Below w.heap.size w u → Calls Tryd.prog 31 #[aVal f] u fun e w' => e = .returned (.string (str (lineL f ++ [10]))) ∧ Below u.heap.size u w') := veil fun g u b => unveil HLi f u b g
        have hsz0 : w.heap.size ≤ W3.heap.size := BW.size
        clear HC HLi HI
        generalize str (lineL f ++ [10]) = s at *
        obtain ⟨e, he⟩ : ∃ e, e = chk f := ⟨_, rfl⟩
        rw [← he] at H1 HB HN2 HL2 HLe
        clear he
        go_upto_region 7 with fail
        rw [← hW3]
        clear hW3 x0 x1 x2 x3 x4 x5 x6 x7 x8 x9 x10
        obtain ⟨x0, x1, x2, x3, x4, x5, x6, x7, x8, x9, x10⟩ := A3.cells
        have HA3 := veil A3
        clear A3 B3 bel
        by_cases g0 : (e != 0) = true
        case pos =>
          have HX := veil (unveil HB (by simpa using g0))
          clear HB HN2 HS HL2 HLe HI3
          go_wp2_with (go_at_call 10; refine H1.mono ?_; rintro x V1 ⟨rfl, b1⟩; clear H1 x0 x1 x2 x3 x4 x5 x6 x7 x8 x9 x10)
          go_ret3
          exact ⟨_, _, _, rfl, unveil HX, Below.next BW b1⟩
        case neg =>
          have g0' : (e != 0) = false := by simpa using g0
          have e0 : e = 0 := by simpa using g0
          have HX := veil (unveil HN2 e0)
          have HL3 := veil (unveil HL2 e0)
          have hsl2 := unveil HLe e0
          clear HB HN2 g0 HL2 HLe e0
          go_upto_region 10 with (go_at_call 10; refine H1.mono ?_; rintro x V1 ⟨rfl, b1⟩; clear H1 x0 x1 x2 x3 x4 x5 x6 x7 x8 x9 x10)
          obtain ⟨x0, x1, x2, x3, x4, x5, x6, x7, x8, x9, x10⟩ := ((unveil HA3).next b1).cells
          have BV := Below.next BW b1
          have HI4 := veil (builder_next (unveil HI3) b1)
          have H2 := unveil HL3 V1 BV
          have H3 : Hid (∀ u, Below V1.heap.size V1 u → Calls Tryd.prog 30 #[.pointer (some ⟨w.heap.size, 0, none⟩), .string s] u fun e w' => e = .returned (.tuple #[.int .i64 s.size, .nilIface]) ∧ (Lib.IsBuilder 64 5 w.heap.size w.heap.size bs2 w' ∧ Below w.heap.size u w')) := veil fun u bu => by
            rw [← unveil HS]
            exact writeString_any _ _ bs s u (builder_next (unveil HI4) bu) (by omega) (Below.next BV bu).size
          clear HA3 HI3 HI4 HL3 b1 HS
          go_wp2_with (first
            | (go_at_call 31; refine H2.mono ?_; rintro x V2 ⟨rfl, b2⟩; clear H2 x0 x1 x2 x3 x4 x5 x6 x7 x8 x9 x10; have H4 := unveil H3 V2 b2; clear H3)
            | (go_at_call 30; refine H4.mono ?_; rintro x V3 ⟨rfl, I3, b3⟩; clear H4; have HI5 := veil I3; clear I3))
          go_roundw <;> first | exact ⟨k + 1, by omega, by go_num, HX, veil (by rw [← unveil HB2]; exact unveil HI5), (Below.next BV b2).trans b3⟩ | (simp [intOf]; omega)
end Go.Proofs.YtekbdkppnjnaaaaDoor
