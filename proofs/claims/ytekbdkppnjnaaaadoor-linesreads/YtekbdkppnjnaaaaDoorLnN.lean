/- Lists of acts: the law's copy, lines.Calls, the document's CallsOf. -/
import Derived.Test.YtekbdkppnjnaaaaDoorLnM
namespace Go.Proofs.YtekbdkppnjnaaaaDoor
open Go.RowKit

theorem Tryd.infoAct : (Tryd.prog.info? 27).map (fun i => (i.zero, i.size, i.bytes)) = some (some (.agg #[.int .i64 0, .int .i64 0, .int .i64 0, .int .i64 0, .int .i64 0, .int .i64 0, .int .i64 0, .int .i64 0, .int .i64 0, .int .i64 0, .int .i64 0]), 11, 88) := by kernel_rfl
/-- the k-th act of a row. -/
def actAt (D : List Int) (k : Nat) : Nat → Int := fun o => D.getD (11 * k + o) 0
theorem row_act {w : World} {b off n : Nat} {D : List Int} (hr : RowK .i64 w (some ⟨b, off, none⟩) (11 * n) D) (k : Nat) (hk : k < n) :
    w.cell? ⟨b, off + k * 11, none⟩ = some (.int .i64 (actAt D k 0)) ∧ w.cell? ⟨b, off + k * 11 + 1, none⟩ = some (.int .i64 (actAt D k 1)) ∧ w.cell? ⟨b, off + k * 11 + 2, none⟩ = some (.int .i64 (actAt D k 2)) ∧ w.cell? ⟨b, off + k * 11 + 3, none⟩ = some (.int .i64 (actAt D k 3)) ∧ w.cell? ⟨b, off + k * 11 + 4, none⟩ = some (.int .i64 (actAt D k 4)) ∧ w.cell? ⟨b, off + k * 11 + 5, none⟩ = some (.int .i64 (actAt D k 5)) ∧ w.cell? ⟨b, off + k * 11 + 6, none⟩ = some (.int .i64 (actAt D k 6)) ∧ w.cell? ⟨b, off + k * 11 + 7, none⟩ = some (.int .i64 (actAt D k 7)) ∧ w.cell? ⟨b, off + k * 11 + 8, none⟩ = some (.int .i64 (actAt D k 8)) ∧ w.cell? ⟨b, off + k * 11 + 9, none⟩ = some (.int .i64 (actAt D k 9)) ∧ w.cell? ⟨b, off + k * 11 + 10, none⟩ = some (.int .i64 (actAt D k 10)) := by
  have ea : ∀ t, t < 11 → w.cell? ⟨b, off + (11 * k + t), none⟩ = some (.int .i64 (actAt D k t)) := fun t ht => hr.at (11 * k + t) (by omega)
  rw [Nat.mul_comm k 11]
  exact ⟨ea 0 (by omega), ea 1 (by omega), ea 2 (by omega), ea 3 (by omega), ea 4 (by omega), ea 5 (by omega), ea 6 (by omega), ea 7 (by omega), ea 8 (by omega), ea 9 (by omega), ea 10 (by omega)⟩
set_option maxRecDepth 20000 in
theorem acts_any (a : Option Addr) (len cap : Nat) (D : List Int) (w : World) (h : RowK .i64 w a (11 * len) D) (hnil : a = none → cap = 0) (hs : len * 88 ≤ 140737488351232) :
    Calls Tryd.prog 12 #[.slice a len cap] w fun e w' => ∃ v, e = .returned v ∧ w'.ownsRow w.heap.size 27 11 v len (D.map (Value.int .i64)) ∧ Below w.heap.size w w' := by
  obtain ⟨i2, hi2, hz20, hz21, hz22⟩ := info_of Tryd.infoAct
  have HG : Hid (∀ w4, w.grownBy w4 (Value.slice none 0 0).ownBlock → Below w.heap.size w w4) := veil fun w4 g => (Below.refl _ _).grown g (Nat.le_refl _) (by simp [Value.ownBlock])
  go_enter Tryd.func12, Tryd.ntmps12
  go_wp2_with (at_builtin; refine wpList_append_rows rfl _ _ 31 rfl w.heap.size 27 i2 _ 11 88 Tryd.underlying31 hi2 hz20 hz21 hz22 rfl (by decide) (.slice none 0 0) 0 [] rfl (World.ownsRow_nil _ _ _ _) a len cap D rfl h hnil (by unfold maxLen; omega) (by omega) (Nat.le_refl _) ?_; intro v' w4 o4 g4; simp only [Nat.zero_add, List.nil_append] at o4; have HX := veil (And.intro o4 (unveil HG w4 g4)); obtain ⟨a', c', rfl⟩ := own_form o4; clear o4 g4)
  go_ret
  exact ⟨_, rfl, (unveil HX).1, (unveil HX).2⟩
/-- how many of the first acts are Calls. -/
def cntC (D : List Int) : Nat → Nat
  | 0 => 0
  | k + 1 => cntC D k + if actAt D k 0 = 2 then 1 else 0
theorem cntC_le (D : List Int) : ∀ k, cntC D k ≤ k
  | 0 => Nat.le_refl _
  | k + 1 => by have := cntC_le D k; unfold cntC; split <;> omega
/-- what Calls answers. -/
inductive CallsR (D : List Int) (n : Nat) : Int → Int → Prop
  | bad (k : Nat) (hk : k < n) (h : ∀ j, j < k → chk (actAt D j) = 0) (hb : ¬ chk (actAt D k) = 0) : CallsR D n 0 (chk (actAt D k))
  | good (h : ∀ j, j < n → chk (actAt D j) = 0) : CallsR D n (cntC D n) 0
theorem CallsR.det {D : List Int} {n : Nat} {c e c' e' : Int} (h : CallsR D n c e) (h' : CallsR D n c' e') : c = c' ∧ e = e' := by
  cases h with
  | bad k hk h hb =>
    cases h' with
    | bad k' hk' h' hb' =>
      rcases Nat.lt_trichotomy k k' with e | e | e
      · exact absurd (h' k e) hb
      · subst e; exact ⟨rfl, rfl⟩
      · exact absurd (h k' e) hb'
    | good h' => exact absurd (h' k hk) hb
  | good h =>
    cases h' with
    | bad k' hk' h' hb' => exact absurd (h k' hk') hb'
    | good h' => exact ⟨rfl, rfl⟩
set_option maxRecDepth 20000 in
set_option maxHeartbeats 4000000 in
theorem calls_any (a : Option Addr) (len cap : Nat) (D : List Int) (w : World) (hK : Kinds w) (h : RowK .i64 w a (11 * len) D) (hs : len * 88 ≤ 140737488351232) :
    Calls Tryd.prog 18 #[.slice a len cap] w fun x w' => ∃ c e, x = .returned (.tuple #[.int .i64 c, .int .i64 e]) ∧ CallsR D len c e ∧ Below w.heap.size w w' := by
  have HC : Hid (∀ f u, Below w.heap.size w u → Calls Tryd.prog 10 #[aVal f] u fun e w' => e = .returned (.int .i64 (chk f)) ∧ Below u.heap.size u w') := veil fun f u b => lcheck_any f u (hK.next b)
  have HR : Hid (∀ u, Below w.heap.size w u → RowK .i64 u a (11 * len) D) := veil fun u b => h.below b
  clear hK h
  go_enter Tryd.func18, Tryd.ntmps18
  go_wp2
  go_loopw [4, 10] (fun cv t wr => ∃ k : Nat, k ≤ len ∧ t = .int .i64 k ∧ cv = .int .i64 (cntC D k) ∧ Hid (∀ j, j < k → chk (actAt D j) = 0) ∧ Below w.heap.size w wr) (fun _ t _ => len - (intOf t).toNat)
  case atStart => exact ⟨0, Nat.zero_le _, rfl, rfl, veil (fun j hj => by omega), Below.refl _ _⟩
  case round =>
    obtain ⟨k, hk, rfl, rfl, HN, bel⟩ := hrel
    have hcl := cntC_le D k
    by_cases hlt : k < len
    case neg =>
      obtain rfl : k = len := by omega
      clear HC HR
      go_wp2
      go_ret2
      exact ⟨_, _, rfl, .good (unveil HN), bel⟩
    case pos =>
      have rk := unveil HR wr bel
      obtain ⟨b, off, rfl⟩ := rk.form (by omega)
      obtain ⟨x0, x1, x2, x3, x4, x5, x6, x7, x8, x9, x10⟩ := row_act rk k hlt
      have hbl : b < wr.heap.size := rk.lt (by omega)
      have hbn : b ≠ wr.heap.size := by omega
      clear rk
      have HS : Hid (cntC D (k + 1) = cntC D k + if actAt D k 0 = 2 then 1 else 0) := veil rfl
      have HB : Hid (¬ chk (actAt D k) = 0 → CallsR D len 0 (chk (actAt D k))) := veil fun g => .bad k hlt (unveil HN) g
      have HN2 : Hid (chk (actAt D k) = 0 → ∀ j, j < k + 1 → chk (actAt D j) = 0) := veil fun g j hj => by
        by_cases e : j = k
        · rw [e]; exact g
        · exact unveil HN j (by omega)
      clear HN HR
      generalize actAt D k = f at *
      generalize cntC D k = c at *
      obtain ⟨W3, hW3, A3, B3⟩ : ∃ W3, W3 = wr.alloc (.cells (aCells f) 27) ∧ aBlock W3 wr.heap.size f ∧ Below wr.heap.size wr W3 := ⟨_, rfl, aBlock.new wr f, below1 _ _⟩
      have H1 := unveil HC f W3 (Below.next bel B3)
      clear HC
      obtain ⟨e, he⟩ : ∃ e, e = chk f := ⟨_, rfl⟩
      rw [← he] at H1 HB HN2
      clear he
      go_upto_region 5 with fail
      rw [← hW3]
      clear hW3 x0 x1 x2 x3 x4 x5 x6 x7 x8 x9 x10
      obtain ⟨x0, x1, x2, x3, x4, x5, x6, x7, x8, x9, x10⟩ := A3.cells
      have BW := Below.next bel B3
      have HA3 := veil A3
      clear A3 B3 bel
      by_cases g0 : (e != 0) = true
      case pos =>
        have HX := veil (unveil HB (by simpa using g0))
        clear HB HN2 HS
        go_wp2_with (go_at_call 10; refine H1.mono ?_; rintro x V1 ⟨rfl, b1⟩; clear H1 x0 x1 x2 x3 x4 x5 x6 x7 x8 x9 x10)
        go_ret2
        exact ⟨_, _, rfl, unveil HX, Below.next BW b1⟩
      case neg =>
        have g0' : (e != 0) = false := by simpa using g0
        have HX := veil (unveil HN2 (by simpa using g0))
        clear HB HN2 g0
        by_cases g2 : (f 0 == 2) = true
        case pos =>
          have HS2 : Hid (cntC D (k + 1) = c + 1) := veil ((unveil HS).trans (by rw [if_pos (by simpa using g2)]))
          clear HS
          go_wp2_with (go_at_call 10; refine H1.mono ?_; rintro x V1 ⟨rfl, b1⟩; clear H1 x0 x1 x2 x3 x4 x5 x6 x7 x8 x9 x10; obtain ⟨x0, x1, x2, x3, x4, x5, x6, x7, x8, x9, x10⟩ := ((unveil HA3).next b1).cells)
          go_roundw <;> first | exact ⟨k + 1, by omega, by go_num, by rw [unveil HS2]; go_num, HX, Below.next BW b1⟩ | (simp [intOf]; omega)
        case neg =>
          have g2' : (f 0 == 2) = false := by simpa using g2
          have HS2 : Hid (cntC D (k + 1) = c) := veil ((unveil HS).trans (by rw [if_neg (by simpa using g2)]; rfl))
          clear HS g2
          go_wp2_with (go_at_call 10; refine H1.mono ?_; rintro x V1 ⟨rfl, b1⟩; clear H1 x0 x1 x2 x3 x4 x5 x6 x7 x8 x9 x10; obtain ⟨x0, x1, x2, x3, x4, x5, x6, x7, x8, x9, x10⟩ := ((unveil HA3).next b1).cells)
          go_roundw <;> first | exact ⟨k + 1, by omega, by go_num, by rw [unveil HS2], HX, Below.next BW b1⟩ | (simp [intOf]; omega)
set_option maxRecDepth 20000 in
set_option maxHeartbeats 4000000 in
theorem callsOf_any (a : Option Addr) (len cap : Nat) (D : List Int) (w : World) (h : RowK .i64 w a (11 * len) D) (hs : len * 88 ≤ 140737488351232) :
    Calls Tryd.prog 19 #[.slice a len cap] w fun x w' => ∃ c e, x = .returned (.tuple #[.int .i64 c, .int .i64 e]) ∧ CallsR D len c e ∧ Below w.heap.size w w' := by
  have HC : Hid (∀ f u, Calls Tryd.prog 11 #[aVal f] u fun e w' => e = .returned (.int .i64 (chk f)) ∧ Below u.heap.size u w') := veil fun f u => by rw [chk_ref]; exact actFault_any f u
  have HR : Hid (∀ u, Below w.heap.size w u → RowK .i64 u a (11 * len) D) := veil fun u b => h.below b
  clear h
  go_enter Tryd.func19, Tryd.ntmps19
  go_wp2
  go_loopw [4, 5] (fun cv t wr => ∃ k : Nat, k ≤ len ∧ t = .int .i64 k ∧ cv = .int .i64 (cntC D k) ∧ Hid (∀ j, j < k → chk (actAt D j) = 0) ∧ Below w.heap.size w wr) (fun _ t _ => len - (intOf t).toNat)
  case atStart => exact ⟨0, Nat.zero_le _, rfl, rfl, veil (fun j hj => by omega), Below.refl _ _⟩
  case round =>
    obtain ⟨k, hk, rfl, rfl, HN, bel⟩ := hrel
    have hcl := cntC_le D k
    by_cases hlt : k < len
    case neg =>
      obtain rfl : k = len := by omega
      clear HC HR
      go_wp2
      go_ret2
      exact ⟨_, _, rfl, .good (unveil HN), bel⟩
    case pos =>
      have rk := unveil HR wr bel
      obtain ⟨b, off, rfl⟩ := rk.form (by omega)
      obtain ⟨x0, x1, x2, x3, x4, x5, x6, x7, x8, x9, x10⟩ := row_act rk k hlt
      have hbl : b < wr.heap.size := rk.lt (by omega)
      have HRk : Hid (∀ u, Below wr.heap.size wr u → u.cell? ⟨b, off + k * 11, none⟩ = some (.int .i64 (actAt D k 0))) := veil fun u b => (row_act (rk.below b) k hlt).1
      clear rk
      have HS : Hid (cntC D (k + 1) = cntC D k + if actAt D k 0 = 2 then 1 else 0) := veil rfl
      have HB : Hid (¬ chk (actAt D k) = 0 → CallsR D len 0 (chk (actAt D k))) := veil fun g => .bad k hlt (unveil HN) g
      have HN2 : Hid (chk (actAt D k) = 0 → ∀ j, j < k + 1 → chk (actAt D j) = 0) := veil fun g j hj => by
        by_cases e : j = k
        · rw [e]; exact g
        · exact unveil HN j (by omega)
      clear HN HR
      generalize actAt D k = f at *
      generalize cntC D k = c at *
      have H1 := unveil HC f wr
      clear HC
      obtain ⟨e, he⟩ : ∃ e, e = chk f := ⟨_, rfl⟩
      rw [← he] at H1 HB HN2
      clear he
      by_cases g0 : (e != 0) = true
      case pos =>
        have HX := veil (unveil HB (by simpa using g0))
        clear HB HN2 HS
        go_wp2_with (go_at_call 11; refine H1.mono ?_; rintro x V1 ⟨rfl, b1⟩; clear H1 x0 x1 x2 x3 x4 x5 x6 x7 x8 x9 x10)
        go_ret2
        exact ⟨_, _, rfl, unveil HX, Below.next bel b1⟩
      case neg =>
        have g0' : (e != 0) = false := by simpa using g0
        have HX := veil (unveil HN2 (by simpa using g0))
        clear HB HN2 g0
        by_cases g2 : (f 0 == 2) = true
        case pos =>
          have HS2 : Hid (cntC D (k + 1) = c + 1) := veil ((unveil HS).trans (by rw [if_pos (by simpa using g2)]))
          clear HS
          go_wp2_with (go_at_call 11; refine H1.mono ?_; rintro x V1 ⟨rfl, b1⟩; clear H1 x0 x1 x2 x3 x4 x5 x6 x7 x8 x9 x10; have x0 := unveil HRk V1 b1)
          go_roundw <;> first | exact ⟨k + 1, by omega, by go_num, by rw [unveil HS2]; go_num, HX, Below.next bel b1⟩ | (simp [intOf]; omega)
        case neg =>
          have g2' : (f 0 == 2) = false := by simpa using g2
          have HS2 : Hid (cntC D (k + 1) = c) := veil ((unveil HS).trans (by rw [if_neg (by simpa using g2)]; rfl))
          clear HS g2
          go_wp2_with (go_at_call 11; refine H1.mono ?_; rintro x V1 ⟨rfl, b1⟩; clear H1 x0 x1 x2 x3 x4 x5 x6 x7 x8 x9 x10; have x0 := unveil HRk V1 b1)
          go_roundw <;> first | exact ⟨k + 1, by omega, by go_num, by rw [unveil HS2], HX, Below.next bel b1⟩ | (simp [intOf]; omega)
set_option maxRecDepth 20000 in
theorem walk_LinesCalls (w : World) (hK : Kinds w) (a : Option Addr) (len cap : Nat) (D : List Int) (h : RowK .i64 w a (11 * len) D) (_ : len ≤ cap) (hnil : a = none → cap = 0) (hs : cap * 88 ≤ 140737488351232) :
    Calls Tryd.prog 6 #[.slice a len cap] w fun x w' => x = .returned (.bool true) ∧ Below w.heap.size w w' := by
  have H1 := acts_any a len cap D w h hnil (by omega)
  have H2 : Hid (∀ v u, u.ownsRow w.heap.size 27 11 v len (D.map (Value.int .i64)) → Below w.heap.size w u → ∃ a' c', v = .slice a' len c' ∧ Calls Tryd.prog 18 #[v] u fun x w' => ∃ c e, x = .returned (.tuple #[.int .i64 c, .int .i64 e]) ∧ CallsR D len c e ∧ Below u.heap.size u w') := veil fun v u o b => by
    obtain ⟨a', c', rfl, r, _⟩ := RowK.ofMany o h.wf
    exact ⟨a', c', rfl, calls_any a' len c' D u (hK.next b) r (by omega)⟩
  have H3 : Hid (∀ u, Below w.heap.size w u → Calls Tryd.prog 19 #[.slice a len cap] u fun x w' => ∃ c e, x = .returned (.tuple #[.int .i64 c, .int .i64 e]) ∧ CallsR D len c e ∧ Below u.heap.size u w') := veil fun u b => callsOf_any a len cap D u (h.below b) (by omega)
  clear hK h
  go_enter Tryd.func6, Tryd.ntmps6
  go_upto_region 2 with (first
    | (go_at_call 12; refine H1.mono ?_; rintro x V1 ⟨v, rfl, o1, b1⟩; obtain ⟨a1, c1, rfl, HA⟩ := unveil H2 v V1 o1 b1; clear H1 H2 o1)
    | (go_at_call 18; refine HA.mono ?_; rintro x V2 ⟨c2, e2, rfl, r2, b2⟩; clear HA))
  have HB := veil (Below.next b1 b2)
  have HD : Hid (∀ c e, CallsR D len c e → c = c2 ∧ e = e2) := veil fun c e r => r.det r2
  have H4 := unveil H3 V2 (unveil HB)
  clear H3 b1 b2 r2
  go_wp2_with (go_at_call 19; refine H4.mono ?_; rintro x V3 ⟨c3, e3, rfl, r3, b3⟩; obtain ⟨rfl, rfl⟩ := unveil HD _ _ r3; clear H4 HD r3)
  go_ret
  exact ⟨by simp, Below.next (unveil HB) b3⟩
end Go.Proofs.YtekbdkppnjnaaaaDoor
