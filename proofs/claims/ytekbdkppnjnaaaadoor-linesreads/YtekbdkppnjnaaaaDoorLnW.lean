/- Walks of the document's ActsShown, of the law's sameActs, and of LinesShows. -/
import Derived.Test.YtekbdkppnjnaaaaDoorLnV
namespace Go.Proofs.YtekbdkppnjnaaaaDoor
open Go.RowKit

/-- a row of bytes that the call itself made. -/
abbrev bRow (w : World) (base : Nat) (v : Value) (l : List UInt8) : Prop := w.ownsRow base 5 1 v l.length (Lib.byteCells l)
theorem bytes_wf (l : List UInt8) : ∀ u ∈ l.map (fun b => (b.toNat : Int)), (Lit.int .u8 u).wf = true := by
  intro u hu
  obtain ⟨b, _, rfl⟩ := List.mem_map.1 hu
  have := b.toNat_lt
  simp [Lit.wf, IntKind.min, IntKind.max, IntKind.signed, IntKind.bits]
  omega
theorem bRow.string {w : World} {base : Nat} {v : Value} {l : List UInt8} (h : bRow w base v l) : ∃ a c, v = .slice a l.length c ∧ (convert 62 9 v).run Tryd.prog w = .ok (.string (str l)) w := by
  have hc : Lib.byteCells l = (l.map (fun b => (b.toNat : Int))).map (Value.int .u8) := by simp [Lib.byteCells]
  have h' := h
  rw [bRow, hc] at h'
  obtain ⟨a, c, rfl, r, _⟩ := RowK.ofOwns h' (bytes_wf l)
  refine ⟨a, c, rfl, ?_⟩
  have := run_string_row (P := Tryd.prog) 62 5 Tryd.underlying62 Tryd.underlying5 (cap := c) r 9 Tryd.underlying9
  have e : strOfNums (l.map (fun b => (b.toNat : Int))) = str l := by
    have : (l.map (fun b => (b.toNat : Int))).map (fun n => UInt8.ofNat n.toNat) = l := by
      rw [List.map_map]
      conv => rhs; rw [← List.map_id l]
      exact List.map_congr_left (fun b _ => by simp)
    simp only [strOfNums, str]
    exact congrArg _ (congrArg _ this)
  rw [e] at this
  exact this
set_option maxRecDepth 20000 in
set_option maxHeartbeats 4000000 in
theorem actsShown_any (a : Option Addr) (len cap : Nat) (D : List Int) (w : World) (h : RowK .i64 w a (11 * len) D) (hs : len * 88 ≤ 140737488351232) :
    Calls Tryd.prog 14 #[.slice a len cap] w fun x w' => ∃ s c e, x = .returned (.tuple #[.string (str s), .int .i64 c, .int .i64 e]) ∧ ShowR D len s c e ∧ Below w.heap.size w w' := by
  by_cases hbig : 100000 < len
  case pos =>
    go_enter Tryd.func14, Tryd.ntmps14
    go_wp2
    go_ret3
    exact ⟨[], _, _, rfl, .size hbig, Below.refl _ _⟩
  case neg =>
    have hn : len ≤ 100000 := by omega
    obtain ⟨i0, hi, hz0, hz1, hz2⟩ := info_of Tryd.info5
    have HC : Hid (∀ f u, Calls Tryd.prog 11 #[aVal f] u fun e w' => e = .returned (.int .i64 (chk f)) ∧ Below u.heap.size u w') := veil fun f u => by rw [chk_ref]; exact actFault_any f u
    have HLi : Hid (∀ f u, chk f = 0 → Calls Tryd.prog 33 #[aVal f] u fun e w' => e = .returned (.string (str (lineL f))) ∧ Below u.heap.size u w') := veil fun f u g => actLine_any f u (chk_nums g)
    have HR : Hid (∀ u, Below w.heap.size w u → RowK .i64 u a (11 * len) D) := veil fun u b => h.below b
    clear h
    go_enter Tryd.func14, Tryd.ntmps14
    go_wp2_with fail
    go_loopw [5, 6] (fun v t wr => ∃ k : Nat, k ≤ len ∧ t = .int .i64 k ∧ (∃ aN cN, v = .slice aN (showL D k).length cN) ∧ Hid (∀ j, j < k → chk (actAt D j) = 0) ∧ Hid (bRow wr w.heap.size v (showL D k)) ∧ Below w.heap.size w wr) (fun _ t _ => len - (intOf t).toNat)
    case atStart => exact ⟨0, Nat.zero_le _, rfl, ⟨none, 0, rfl⟩, veil (fun j hj => by omega), veil (World.ownsRow_nil _ _ _ _), Below.refl _ _⟩
    case round =>
      obtain ⟨k, hk, rfl, ⟨aN, cN, rfl⟩, HN, HO, bel⟩ := hrel
      by_cases hlt : k < len
      case neg =>
        obtain rfl : k = len := by omega
        obtain ⟨a1, c1, e1, hcv⟩ := bRow.string (unveil HO)
        clear e1
        have HX : Hid (ShowR D k (showL D k) 0 0) := veil (.good hn (unveil HN))
        clear HC HR HLi HN HO
        go_wp2
        go_ret3
        exact ⟨_, _, _, rfl, unveil HX, bel⟩
      case pos =>
        have rk := unveil HR wr bel
        obtain ⟨b, off, rfl⟩ := rk.form (by omega)
        obtain ⟨x0, x1, x2, x3, x4, x5, x6, x7, x8, x9, x10⟩ := row_act rk k hlt
        have hbl : b < wr.heap.size := rk.lt (by omega)
        have HRk : Hid (∀ u, Below wr.heap.size wr u → RowK .i64 u (some ⟨b, off, none⟩) (11 * len) D) := veil fun u bu => rk.below bu
        clear rk
        have HB : Hid (¬ chk (actAt D k) = 0 → ShowR D len [] k (chk (actAt D k))) := veil fun g => .bad hn k hlt (unveil HN) g
        have HN2 : Hid (chk (actAt D k) = 0 → ∀ j, j < k + 1 → chk (actAt D j) = 0) := veil fun g j hj => by
          by_cases e : j = k
          · rw [e]; exact g
          · exact unveil HN j (by omega)
        have HS : Hid (showL D (k + 1) = (showL D k ++ lineL (actAt D k)) ++ [10]) := veil (by show showL D k ++ (lineL (actAt D k) ++ [10]) = _; rw [List.append_assoc])
        have hsl : (showL D k).length ≤ 6300000 := by have := showL_len (unveil HN); omega
        have HLe : Hid (chk (actAt D k) = 0 → (lineL (actAt D k)).length ≤ 62) := veil fun g => line_len (chk_nums g)
        have HRc : Hid (∀ u, Below wr.heap.size wr u → u.cell? ⟨b, off + k * 11, none⟩ = some (.int .i64 (actAt D k 0)) ∧ u.cell? ⟨b, off + k * 11 + 1, none⟩ = some (.int .i64 (actAt D k 1)) ∧ u.cell? ⟨b, off + k * 11 + 2, none⟩ = some (.int .i64 (actAt D k 2)) ∧ u.cell? ⟨b, off + k * 11 + 3, none⟩ = some (.int .i64 (actAt D k 3)) ∧ u.cell? ⟨b, off + k * 11 + 4, none⟩ = some (.int .i64 (actAt D k 4)) ∧ u.cell? ⟨b, off + k * 11 + 5, none⟩ = some (.int .i64 (actAt D k 5)) ∧ u.cell? ⟨b, off + k * 11 + 6, none⟩ = some (.int .i64 (actAt D k 6)) ∧ u.cell? ⟨b, off + k * 11 + 7, none⟩ = some (.int .i64 (actAt D k 7)) ∧ u.cell? ⟨b, off + k * 11 + 8, none⟩ = some (.int .i64 (actAt D k 8)) ∧ u.cell? ⟨b, off + k * 11 + 9, none⟩ = some (.int .i64 (actAt D k 9)) ∧ u.cell? ⟨b, off + k * 11 + 10, none⟩ = some (.int .i64 (actAt D k 10))) := veil fun u bu => row_act (unveil HRk u bu) k hlt
        clear HN HR HRk
        generalize actAt D k = f at *
        have H1 := unveil HC f wr
        have HL2 := veil (fun g u => unveil HLi f u g)
        clear HC HLi
        obtain ⟨e, he⟩ : ∃ e, e = chk f := ⟨_, rfl⟩
        rw [← he] at H1 HB HN2 HL2 HLe
        clear he
        by_cases g0 : (e != 0) = true
        case pos =>
          have HX := veil (unveil HB (by simpa using g0))
          clear HB HN2 HS HL2 HLe HO HRc
          go_wp2_with (go_at_call 11; refine H1.mono ?_; rintro x V1 ⟨rfl, b1⟩; clear H1 x0 x1 x2 x3 x4 x5 x6 x7 x8 x9 x10)
          go_ret3
          exact ⟨_, _, _, rfl, unveil HX, Below.next bel b1⟩
        case neg =>
          have g0' : (e != 0) = false := by simpa using g0
          have e0 : e = 0 := by simpa using g0
          have HX := veil (unveil HN2 e0)
          have HL3 := veil (unveil HL2 e0)
          have hll := unveil HLe e0
          clear HB HN2 g0 HL2 HLe e0
          go_upto_region 10 with (go_at_call 11; refine H1.mono ?_; rintro x V1 ⟨rfl, b1⟩; clear H1 x0 x1 x2 x3 x4 x5 x6 x7 x8 x9 x10)
          obtain ⟨x0, x1, x2, x3, x4, x5, x6, x7, x8, x9, x10⟩ := unveil HRc V1 b1
          have BV := Below.next bel b1
          have HO1 : Hid (bRow V1 w.heap.size (.slice aN (showL D k).length cN) (showL D k)) := veil (own_still (unveil HO) (fun g _ hg => b1.block g hg))
          have H2 := unveil HL3 V1
          clear HO HL3 HRc
          generalize hL : lineL f = ll at *
          have hsz : (str ll).size = ll.length := str_size ll
          obtain ⟨m, hm⟩ : ∃ m, m = (showL D k ++ ll).length := ⟨_, rfl⟩
          have hmb : m ≤ 6300100 := by rw [hm, List.length_append]; omega
          have HM := veil hm
          clear hm
          have HAp : Hid (∀ u v' w4, Below V1.heap.size V1 u → w4.ownsRow w.heap.size 5 1 v' ((showL D k).length + (str ll).size) (Lib.byteCells (showL D k) ++ Lib.strCells (str ll)) → u.grownBy w4 (Value.slice aN (showL D k).length cN).ownBlock → (∃ aM cM, v' = .slice aM m cM) ∧ bRow w4 w.heap.size v' (showL D k ++ ll) ∧ Below w.heap.size w w4) := veil (by
            intro u v' w4 bu o g
            rw [cells_app, str_size, ← List.length_append] at o
            obtain ⟨aM, cM, rfl⟩ := own_form o
            exact ⟨⟨aM, cM, by rw [unveil HM]⟩, o, (Below.next BV bu).grown g (Below.next BV bu).size (fun q hq => ((unveil HO1).lt q hq).1)⟩)
          have HO2 : Hid (∀ u, Below V1.heap.size V1 u → u.ownsRow w.heap.size 5 1 (.slice aN (showL D k).length cN) (showL D k).length (Lib.byteCells (showL D k))) := veil fun u bu => own_still (unveil HO1) (fun g _ hg => bu.block g hg)
          have hsz1 : w.heap.size ≤ V1.heap.size := BV.size
          clear HO1 b1 bel
          go_upto_region 11 with (first
            | (go_at_call 33; refine H2.mono ?_; rintro x V2 ⟨rfl, b2⟩; clear H2 x0 x1 x2 x3 x4 x5 x6 x7 x8 x9 x10)
            | (at_builtin; refine Lib.wpList_append_own_string _ rfl _ _ 62 9 rfl w.heap.size 5 i0 Tryd.underlying62 Tryd.underlying9 hi hz0 hz1 hz2 (.slice aN (showL D k).length cN) _ _ rfl (unveil HO2 V2 b2) (str ll) rfl (by unfold maxLen; omega) (by omega) (by have := b2.size; omega) ?_; intro v' w4 o4 g4 _; obtain ⟨⟨aM, cM, rfl⟩, o5, b5⟩ := unveil HAp V2 v' w4 b2 o4 g4; have HO5 := veil o5; clear o4 g4 o5 HAp HO2))
          have l5 : ∀ j u, [Value.int .u8 10][j]? = some u → (w4.alloc (.cells #[.int .u8 10] 5)).cell? ((⟨w4.heap.size, 0, none⟩ : Addr).add j) = some u := by
            intro j u hj
            rw [Addr.add_mid]
            match j, hj with
            | 0, hj => simp at hj; subst hj; simp
            | n + 1, hj => simp at hj
          have b6 : Below w4.heap.size w4 (w4.alloc (.cells #[.int .u8 10] 5)) := below1 _ _
          have HO6 : Hid ((w4.alloc (.cells #[.int .u8 10] 5)).ownsRow w.heap.size 5 1 (.slice aM m cM) m (Lib.byteCells (showL D k ++ ll))) := veil (by
            have := unveil HO5
            rw [bRow, ← unveil HM] at this
            exact own_still this (fun g _ hg => b6.block g hg))
          have HG : Hid (∀ v' w7, w7.ownsRow w.heap.size 5 1 v' (m + 1) (Lib.byteCells (showL D k ++ ll) ++ [Value.int .u8 10]) → (w4.alloc (.cells #[.int .u8 10] 5)).grownBy w7 (Value.slice aM m cM).ownBlock → (∃ aQ cQ, v' = .slice aQ (showL D (k + 1)).length cQ) ∧ bRow w7 w.heap.size v' (showL D (k + 1)) ∧ Below w.heap.size w w7) := veil (by
            intro v' w7 o g
            have e1 : Lib.byteCells (showL D k ++ ll) ++ [Value.int .u8 10] = Lib.byteCells (showL D (k + 1)) := by rw [unveil HS]; simp [Lib.byteCells]
            have e2 : m + 1 = (showL D (k + 1)).length := by rw [unveil HS, List.length_append, ← unveil HM]; rfl
            rw [e1, e2] at o
            obtain ⟨aQ, cQ, rfl⟩ := own_form o
            exact ⟨⟨aQ, cQ, rfl⟩, o, (Below.next b5 b6).grown g (Below.next b5 b6).size (fun q hq => ((unveil HO6).lt q hq).1)⟩)
          have hb56 := (Below.next b5 b6).size
          clear HO5 b6 HS b2
          go_wp2_with (at_builtin; refine wpList_append_own _ rfl _ _ 62 rfl w.heap.size 5 i0 _ 1 1 Tryd.underlying62 hi hz0 hz1 hz2 rfl (by decide) (.slice aM m cM) m (Lib.byteCells (showL D k ++ ll)) rfl (unveil HO6) ⟨w4.heap.size, 0, none⟩ 1 1 [Value.int .u8 10] rfl rfl l5 (by simp [Value.oneCell']) (by unfold maxLen; omega) (by omega) hb56 ?_; intro v' w7 o7 g7 _; obtain ⟨⟨aQ, cQ, rfl⟩, o8, b8⟩ := unveil HG v' w7 o7 g7; have HO8 := veil o8; have HB8 := veil b8; clear o7 g7 o8 b8 HG HO6 l5)
          all_goals (go_roundw <;> first | exact ⟨k + 1, by omega, by go_num, ⟨aQ, cQ, rfl⟩, HX, HO8, unveil HB8⟩ | (simp [intOf]; omega))
end Go.Proofs.YtekbdkppnjnaaaaDoor
