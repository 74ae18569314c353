/- Walks of plan.tally and heaviest. -/
import Derived.Test.YtmkbidglfnpgjaaPnD
import Derived.OwnWalk
import Derived.Laws.OwnMore
namespace Go.Proofs.Ytmkbidglfnpgjaa
open Go.RowKit

theorem Try.infoInt : (Try.prog.info? 3).map (fun i => (i.zero, i.size, i.bytes)) = some (some (.int .i64 0), 1, 8) := by kernel_rfl
theorem info_ofP {P : Program} {t : TypeId} {z : Option Value} {s b : Nat} (h : (P.info? t).map (fun i => (i.zero, i.size, i.bytes)) = some (z, s, b)) : ∃ i, P.info? t = some i ∧ i.zero = z ∧ i.size = s ∧ i.bytes = b := by
  cases hi : P.info? t with
  | none => rw [hi] at h; cases h
  | some i => rw [hi] at h; simp at h; exact ⟨i, rfl, h.1, h.2.1, h.2.2⟩
theorem below_n {B : Nat} {a w : World} (h : Below B a w) (n : Nat) : Below B a (w.drewN n) := ⟨h.os, h.tape, h.output, h.size, h.block⟩
/-- works in memory, in the block g. -/
def wsRow (w : World) (base g : Nat) (ws : List Int) : Prop := w.ownsRow base 3 1 (.slice (some ⟨g, 0, none⟩) ws.length ws.length) ws.length (ws.map (Value.int .i64))
theorem wsRow.row {w : World} {base g : Nat} {ws : List Int} (h : wsRow w base g ws) (hw : ∀ u ∈ ws, (Lit.int .i64 u).wf = true) : RowK .i64 w (some ⟨g, 0, none⟩) ws.length ws := RowK.ofOwn h rfl hw
theorem wsRow.at {w : World} {base g : Nat} {ws : List Int} (h : wsRow w base g ws) (j : Nat) (hj : j < ws.length) : w.cell? ⟨g, j, none⟩ = some (.int .i64 (ws.getD j 0)) ∧ w.frozen? ⟨g, j, none⟩ = false := by
  refine ⟨?_, World.ownsRow.frozenAt h j⟩
  rw [World.ownsRow.cellAt h j (by omega), List.getElem?_map, List.getElem?_eq_getElem hj]
  simp [List.getElem?_eq_getElem hj]
theorem wsRow.lt {w : World} {base g : Nat} {ws : List Int} (h : wsRow w base g ws) : base ≤ g ∧ g < w.heap.size := World.ownsRow.lt h g rfl
theorem wsRow.still {w w' : World} {base g : Nat} {ws : List Int} (h : wsRow w base g ws) (hb : w'.heap[g]? = w.heap[g]?) : wsRow w' base g ws := by
  refine ⟨h.1, ?_⟩
  rcases h.2 with h2 | ⟨g', cap, cur, e, h2, h3, h4⟩
  · exact .inl h2
  · cases e
    exact .inr ⟨g, ws.length, cur, rfl, h2, by rw [hb]; exact h3, h4⟩
theorem wsRow.set {w : World} {base g : Nat} {ws : List Int} (h : wsRow w base g ws) (j : Nat) (z : Int) : wsRow (w.setCell ⟨g, j, none⟩ (.int .i64 z)) base g (ws.set j z) := by
  have := (World.ownsRow.stored h j (.int .i64 z)).1
  unfold wsRow
  rw [List.map_set, List.length_set]
  exact this
theorem works_none (nodes : Nat) : works [] nodes = List.replicate nodes 0 := by
  apply List.ext_getElem
  · simp [works]
  · intro i h1 h2
    simp [works, workAt]
theorem works_step (l : List Ld) (nodes k n : Nat) (hk : k < l.length) (hn : (ldAt l k).n = n) : (works (l.take k) nodes).set n ((works (l.take k) nodes).getD n 0 + (ldAt l k).w) = works (l.take (k + 1)) nodes := by
  apply List.ext_getElem
  · simp [works]
  · intro i h1 h2
    have hi : i < nodes := by simpa [works] using h2
    rw [List.getElem_set]
    by_cases e : n = i
    · subst e
      rw [if_pos rfl, works_at _ _ _ hi]
      simp only [works, List.getElem_map, List.getElem_range]
      rw [workAt_take l k _ hk, if_pos hn]
    · rw [if_neg e]
      simp only [works, List.getElem_map, List.getElem_range]
      rw [workAt_take l k _ hk, if_neg (by omega)]
      omega
set_option maxRecDepth 20000 in
set_option maxHeartbeats 2000000 in
theorem tally_any (nodes : Nat) (a : Option Addr) (c : Nat) (l : List Ld) (w : World) (hA : RowK .i64 w a (3 * l.length) (ldFlat l)) (h1 : 1 ≤ nodes) (h5 : nodes ≤ 5) (hr : Rise nodes l) :
    Calls Try.prog 20 #[.slice a l.length c, .int .i64 nodes] w fun e w' => e = .returned (.slice (some ⟨w.heap.size, 0, none⟩) nodes nodes) ∧ wsRow w' w.heap.size w.heap.size (works l nodes) ∧ Below w.heap.size w w' := by
  obtain ⟨i2, hi2, hz20, hz21, hz22⟩ := info_ofP Try.infoInt
  have hl4 := hr.len
  obtain ⟨w1, hmk, own1, grow1⟩ := run_make_full (P := Try.prog) w w.heap.size 47 3 i2 (.int .i64 0) 1 Try.underlying47 hi2 hz20 hz21 .i64 .i64 nodes (by rw [hz22]; omega) (by unfold maxLen; omega) (Nat.le_refl _)
  have ow1 : wsRow w1 w.heap.size w.heap.size (works (l.take 0) nodes) := by
    unfold wsRow
    rw [works_len, List.take_zero, works_none, List.map_replicate]
    rw [show (Value.int .i64 0).cells = #[.int .i64 0] from rfl, Nat.mul_one, toList_madeCells_one] at own1
    exact own1
  have bel1 : Below w.heap.size w w1 := (Below.refl _ _).grown grow1 (Nat.le_refl _) (fun q hq => by cases hq)
  have O1 := veil ow1
  have B1 := veil bel1
  have HB := veil (fun k n => hr.workTo n k)
  have HO := veil (fun k (hk : k < l.length) => hr.ok k hk)
  have HS := veil (fun k (hk : k < l.length) n hn => works_step l nodes k n hk hn)
  have HT : Hid (l.take l.length = l) := veil (List.take_length)
  have HL : Hid (∀ k, (works (l.take k) nodes).length = nodes) := veil (fun k => works_len _ _)
  have HX : Hid (∀ k m, m < nodes → (works (l.take k) nodes).getD m 0 = workAt (l.take k) m) := veil (fun k m hm => works_at _ _ _ hm)
  clear own1 grow1 ow1 bel1 hr
  generalize hN : l.length = n at *
  clear hN hi2 hz20 hz21 hz22
  go_enter Try.func20, Try.ntmps20
  go_wp2
  go_loopw [12] (fun t wr => ∃ k : Nat, k ≤ n ∧ t = .int .i64 k ∧ wsRow wr w.heap.size w.heap.size (works (l.take k) nodes) ∧ Below w.heap.size w wr) (fun t _ => n - (intOf t).toNat)
  case atStart => exact ⟨0, Nat.zero_le _, rfl, unveil O1, unveil B1⟩
  case round =>
    obtain ⟨k, hk, rfl, ow, bel⟩ := hrel
    by_cases hlt : k < n
    · have rA := hA.below bel
      obtain ⟨b, off, rfl⟩ := hA.form (by omega)
      obtain ⟨x0, x1, x2⟩ := rA.three k hlt
      have hbl : b < wr.heap.size := rA.lt (by omega)
      have hbn : b ≠ wr.heap.size := by omega
      have ho := unveil HO k hlt
      obtain ⟨m, hm⟩ : ∃ m : Nat, (ldAt l k).n = m := ⟨(ldAt l k).n.toNat, by have := ho.n0; omega⟩
      have hmn : m < nodes := by have := ho.n4; omega
      have hST := unveil HS k hlt m hm
      have e1 := unveil HX k m hmn
      have hb0 := unveil HB k m
      have hw0 := ho.w0
      have hw1 := ho.w1
      obtain ⟨y0, y1⟩ := ow.at m (by rw [unveil HL]; exact hmn)
      have hgl := ow.lt.2
      have hgn : w.heap.size ≠ wr.heap.size := by omega
      have hbw : b < w.heap.size := hA.lt (by omega)
      rw [hm] at x1
      rw [e1] at y0 hST
      generalize workAt (l.take k) m = y at *
      have HE := veil (fun (W : World) (h : wsRow W w.heap.size w.heap.size (works (l.take k) nodes)) => by have := h.set m (y + (ldAt l k).w); rwa [hST] at this)
      have OW := veil ow
      have BL := veil bel
      have HA2 := veil hA
      clear rA ow bel hA ho hST e1
      generalize (ldAt l k).q = q at *
      generalize (ldAt l k).w = wk at *
      clear hm
      go_wp2_with fail
      obtain ⟨W, hW, c1, c2, cy, fy, OWW, BLW⟩ : ∃ W, W = wr.alloc (.cells #[.int .i64 q, .int .i64 m, .int .i64 wk] 41) ∧ W.cell? ⟨wr.heap.size, 1, none⟩ = some (.int .i64 m) ∧ W.cell? ⟨wr.heap.size, 2, none⟩ = some (.int .i64 wk) ∧ W.cell? ⟨w.heap.size, m, none⟩ = some (.int .i64 y) ∧ W.frozen? ⟨w.heap.size, m, none⟩ = false ∧
          Hid (wsRow W w.heap.size w.heap.size (works (l.take k) nodes)) ∧ Hid (Below w.heap.size w W) :=
        ⟨_, rfl, by simp, by simp, ((below1 wr _).cell hgl).trans y0, (((unveil OW).still ((below1 wr _).block _ hgl)).at m (by rw [unveil HL]; exact hmn)).2, veil ((unveil OW).still ((below1 wr _).block _ hgl)), veil ((unveil BL).trans ((below1 wr _).mono (unveil BL).size))⟩
      rw [← hW]
      clear hW x0 x1 x2 y0 y1 hbl hbn hbw OW BL
      go_region
      all_goals (try go_wp2_with fail)
      all_goals exact ⟨⟨k + 1, by omega, by go_num, (unveil HE _ (unveil OWW)).still rfl, ((unveil BLW).setCell (Nat.le_refl _) _).drew⟩, by simp [intOf]; omega⟩
    · have hkn : k = n := by omega
      have HR : Hid (wsRow wr w.heap.size w.heap.size (works l nodes)) := veil (by rw [hkn, unveil HT] at ow; exact ow)
      have BL := veil bel
      clear ow bel hkn hA
      go_wp2
      go_ret
      exact ⟨rfl, unveil HR, unveil BL⟩
theorem heav_yes (l : List Ld) (node gap : Int) (k : Nat) (h : (ldAt l k).n = node ∧ (ldAt l k).w < gap ∧ (heavTo l node gap k).2 < (ldAt l k).w) : heavTo l node gap (k + 1) = ((k : Int), (ldAt l k).w) := by
  rw [heavTo, if_pos h]
theorem heav_no (l : List Ld) (node gap : Int) (k : Nat) (h : ¬ ((ldAt l k).n = node ∧ (ldAt l k).w < gap ∧ (heavTo l node gap k).2 < (ldAt l k).w)) : heavTo l node gap (k + 1) = heavTo l node gap k := by
  rw [heavTo, if_neg h]
set_option maxRecDepth 20000 in
set_option maxHeartbeats 2000000 in
theorem heaviest_any (node gap : Int) (a : Option Addr) (c : Nat) (l : List Ld) (w : World) (hA : RowK .i64 w a (3 * l.length) (ldFlat l)) (hl : l.length ≤ 9223372036854775806) :
    Calls Try.prog 34 #[.slice a l.length c, .int .i64 node, .int .i64 gap] w fun e w' => e = .returned (.int .i64 (heavTo l node gap l.length).1) ∧ Below w.heap.size w w' := by
  generalize hN : l.length = n at *
  clear hN
  go_enter Try.func34, Try.ntmps34
  go_wp2
  go_loopw [7, 8, 13] (fun f m t wr => ∃ k : Nat, k ≤ n ∧ t = .int .i64 k ∧ f = .int .i64 (heavTo l node gap k).1 ∧ m = .int .i64 (heavTo l node gap k).2 ∧ Below w.heap.size w wr) (fun _ _ t _ => n - (intOf t).toNat)
  case atStart => exact ⟨0, Nat.zero_le _, rfl, rfl, rfl, Below.refl _ _⟩
  case round =>
    obtain ⟨k, hk, rfl, rfl, rfl, bel⟩ := hrel
    by_cases hlt : k < n
    · have rA := hA.below bel
      obtain ⟨b, off, rfl⟩ := hA.form (by omega)
      obtain ⟨x0, x1, x2⟩ := rA.three k hlt
      have hbl : b < wr.heap.size := rA.lt (by omega)
      have hbn : b ≠ wr.heap.size := by omega
      have HY := veil (heav_yes l node gap k)
      have HX := veil (heav_no l node gap k)
      have BL := veil (bel.trans ((below1 wr (.cells #[.int .i64 (ldAt l k).q, .int .i64 (ldAt l k).n, .int .i64 (ldAt l k).w] 41)).mono bel.size))
      have HA2 := veil hA
      clear rA bel hA
      generalize (ldAt l k).q = q at *
      generalize (ldAt l k).w = wk at *
      generalize (ldAt l k).n = nd at *
      generalize hh : heavTo l node gap k = hv at *
      have HH := veil hh
      clear hh
      obtain ⟨fo, mo⟩ := hv
      dsimp only at *
      by_cases h1 : nd = node
      · by_cases h2 : wk < gap
        · by_cases h3 : mo < wk
          · have hy := unveil HY ⟨h1, h2, h3⟩
            have HE1 : Hid ((heavTo l node gap (k + 1)).1 = (k : Int)) := veil (by rw [hy])
            have HE2 : Hid ((heavTo l node gap (k + 1)).2 = wk) := veil (by rw [hy])
            subst h1
            clear hy HY HX HH
            go_wp2_with fail
            go_quiet (fail)
            go_wp2
            go_roundw
            case rel => exact ⟨k + 1, by omega, by go_num, by rw [unveil HE1], by rw [unveil HE2], by first | exact (unveil BL) | exact (unveil BL).drew | exact below_n (unveil BL) _⟩
            case measure => simp [intOf]; omega
          · have hx := unveil HX (fun h => h3 h.2.2)
            have HE1 : Hid ((heavTo l node gap (k + 1)).1 = fo) := veil (by rw [hx])
            have HE2 : Hid ((heavTo l node gap (k + 1)).2 = mo) := veil (by rw [hx])
            subst h1
            clear hx HY HX HH
            go_wp2
            go_roundw
            case rel => exact ⟨k + 1, by omega, by go_num, by rw [unveil HE1], by rw [unveil HE2], unveil BL⟩
            case measure => simp [intOf]; omega
        · have hx := unveil HX (fun h => h2 h.2.1)
          have HE1 : Hid ((heavTo l node gap (k + 1)).1 = fo) := veil (by rw [hx])
          have HE2 : Hid ((heavTo l node gap (k + 1)).2 = mo) := veil (by rw [hx])
          subst h1
          clear hx HY HX HH
          go_wp2
          go_roundw
          case rel => exact ⟨k + 1, by omega, by go_num, by rw [unveil HE1], by rw [unveil HE2], unveil BL⟩
          case measure => simp [intOf]; omega
      · have hx := unveil HX (fun h => h1 h.1)
        have HE1 : Hid ((heavTo l node gap (k + 1)).1 = fo) := veil (by rw [hx])
        have HE2 : Hid ((heavTo l node gap (k + 1)).2 = mo) := veil (by rw [hx])
        have hb : (nd == node) = false := by simpa using h1
        clear hx HY HX HH
        go_wp2
        go_roundw
        case rel => exact ⟨k + 1, by omega, by go_num, by rw [unveil HE1], by rw [unveil HE2], unveil BL⟩
        case measure => simp [intOf]; omega
    · have hkn : k = n := by omega
      have HR : Hid ((heavTo l node gap k).1 = (heavTo l node gap n).1) := veil (by rw [hkn])
      have BL := veil bel
      clear bel hkn hA
      go_wp2
      go_ret
      exact ⟨congrArg (fun z => Ending.returned (.int .i64 z)) (unveil HR), unveil BL⟩
end Go.Proofs.Ytmkbidglfnpgjaa
