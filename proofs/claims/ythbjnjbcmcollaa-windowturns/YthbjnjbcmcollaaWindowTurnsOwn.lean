/- For all numbers low and turn and every slice of numbers l, berthshiftkeep.WindowTurns(low, l, turn) returns true: within a window it does not matter in which order ids are taken; the arguments read behind the call as before it; no condition on them. -/
import Derived.Test.YthbjnjbcmcollaaRows
import Derived.Test.YthbjnjbcmcollaaWdG
import Derived.Test.YthbjnjbcmcollaaWdL
import Derived.Test.YthbjnjbcmcollaaKpP
import Derived.Deep.DeepCutAuto
namespace Go.Proofs.Ythbjnjbcmcollaa
open Go.ChangeShapes Go.WideShapes Go.ChangeAt Go.RowKit

theorem own : ownKnob Try.prog.godebug = none := by kernel_rfl
theorem laidOut : laidOutB Try.prog = true := by kernel_rfl

theorem picked_wide (n m : Int) (w : World) (hn : (Lit.int .i64 n).wf = true) (hm : 0 < m) (hm2 : m ≤ 1152921504606846976) :
    Calls Try.prog 15 #[.int .i64 n, .int .i64 m] w fun e w' => e = .returned (.int .i64 (pickedOf n m)) ∧ w = w' := by
  have hb := bounds_i64 hn
  clear hn
  obtain ⟨hb1, hb2⟩ := hb
  by_cases h : n < 0
  · have e1 : pickedOf n m = (-(n + 1)) % m := by unfold pickedOf; rw [if_pos h]
    rw [e1]
    clear e1
    have hm0 : ¬ m = 0 := by omega
    go_enter Try.func15, Try.ntmps15
    go_wp2
    go_ret
    refine ⟨congrArg (fun z => Ending.returned (.int .i64 z)) ?_, rfl⟩
    rw [← Int.neg_tmod, Int.tmod_eq_emod_of_nonneg (by omega)]
  · have e1 : pickedOf n m = n % m := by unfold pickedOf; rw [if_neg h]
    rw [e1]
    clear e1
    have hm0 : ¬ m = 0 := by omega
    go_enter Try.func15, Try.ntmps15
    go_wp2
    go_ret
    exact ⟨rfl, rfl⟩

/-- the ids that were taken in i rounds, from place k on. -/
def turned (n : Int) (l : List Int) (k i : Nat) : List Int := (List.range i).map fun j => n + pickedOf (l.getD ((j + k) % l.length) 0) 8
theorem turned_succ (n : Int) (l : List Int) (k i : Nat) : turned n l k (i + 1) = turned n l k i ++ [n + pickedOf (l.getD ((i + k) % l.length) 0) 8] := by
  unfold turned
  rw [List.range_succ, List.map_append]
  rfl
theorem turned_range (n : Int) (l : List Int) (k i : Nat) : ∀ x ∈ turned n l k i, n ≤ x := by
  intro x hx
  unfold turned at hx
  obtain ⟨j, _, rfl⟩ := List.mem_map.1 hx
  have := pickedOf_range (l.getD ((j + k) % l.length) 0) 8 (by decide)
  omega
theorem turned_sub (n : Int) (l : List Int) (k k' : Nat) (x : Int) (hx : x ∈ turned n l k l.length) : x ∈ turned n l k' l.length := by
  unfold turned at hx ⊢
  obtain ⟨j, hj, rfl⟩ := List.mem_map.1 hx
  rw [List.mem_range] at hj
  have hpos : 0 < l.length := by omega
  have hr := Nat.mod_lt (j + k) hpos
  have hk := Nat.mod_lt k' hpos
  refine List.mem_map.2 ⟨((j + k) % l.length + (l.length - k' % l.length)) % l.length, List.mem_range.2 (Nat.mod_lt _ hpos), ?_⟩
  have e : (((j + k) % l.length + (l.length - k' % l.length)) % l.length + k') % l.length = (j + k) % l.length := by
    rw [Nat.mod_add_mod]
    generalize hr' : (j + k) % l.length = r at *
    have h1 : (r + (l.length - k' % l.length) + k') % l.length = (r + (l.length - k' % l.length) + k' % l.length) % l.length := by rw [Nat.add_mod_mod]
    rw [h1, show r + (l.length - k' % l.length) + k' % l.length = r + l.length by omega, Nat.add_mod_right, Nat.mod_eq_of_lt hr]
  rw [e]
theorem turned_same (n : Int) (l : List Int) (k k' : Nat) (x : Int) : x ∈ turned n l k l.length ↔ x ∈ turned n l k' l.length := ⟨turned_sub n l k k' x, turned_sub n l k' k x⟩

structure TurnInv (w wr : World) (n : Int) (l : List Int) (K i len : Nat) (ta tb : Int) (sa sb : Nat → Bool) : Prop where
  il : i ≤ len
  i20 : i ≤ 20
  ia : WinInv (turned n l 0 i) ta sa
  ib : WinInv (turned n l K i) tb sb
  la : ta ≤ n + 8
  lb : tb ≤ n + 8
  ba : winBlock wr w.heap.size ta sa
  bb : winBlock wr (w.heap.size + 1) tb sb
  bel : Below w.heap.size w wr

theorem winBlock.over {w : World} {R X : Nat} {t T : Int} {s S : Nat → Bool} (h : winBlock w R t s) (hR : R ≠ X) : winBlock (winStore w X T S) R t s := by
  unfold winBlock at h ⊢
  rw [winStore_other _ _ _ _ _ hR]
  exact h
/-- behind the first Take. -/
structure Mid (w wx : World) (X : Nat) (T ta tb : Int) (S sa sb : Nat → Bool) : Prop where
  bx : winBlock wx X T S
  ba : winBlock wx w.heap.size ta sa
  bb : winBlock wx (w.heap.size + 1) tb sb
  bel : Below w.heap.size w wx
  hX : w.heap.size + 1 < X
theorem Mid.new {w wr w3 : World} {T ta tb : Int} {S sa sb : Nat → Bool} (ba : winBlock wr w.heap.size ta sa) (bb : winBlock wr (w.heap.size + 1) tb sb) (bel : Below w.heap.size w wr) (b3 : Below wr.heap.size wr w3) :
    Mid w (w3.alloc (.cells (winCells T S) 24)) w3.heap.size T ta tb S sa sb :=
  ⟨winBlock.new w3 T S, (ba.next b3).next (below1 _ _), (bb.next b3).next (below1 _ _), Below.next (Below.next bel b3) (below1 _ _), (bb.next b3).lt⟩
theorem Mid.old {w wr w3 : World} {T ta tb : Int} {S sa sb : Nat → Bool} (ba : winBlock wr w.heap.size ta sa) (bb : winBlock wr (w.heap.size + 1) tb sb) (bel : Below w.heap.size w wr) (b3 : Below wr.heap.size wr w3) (rz : winBlock w3 wr.heap.size 0 noneS) :
    Mid w (winStore w3 wr.heap.size T S) wr.heap.size T ta tb S sa sb :=
  ⟨rz.store T S, (ba.next b3).over (by have := ba.lt; omega), (bb.next b3).over (by have := bb.lt; omega), winStore_below (Below.next bel b3) _ (by have := ba.lt; omega) _ _, bb.lt⟩
/-- behind the second one. -/
structure Mid2 (w wx : World) (X Y : Nat) (T T' ta tb : Int) (S S' sa sb : Nat → Bool) : Prop where
  bx : winBlock wx X T S
  mid : Mid w wx Y T' ta tb S' sa sb
  hX : w.heap.size + 1 < X
theorem Mid2.new {w wr w3 : World} {X : Nat} {T T' ta tb : Int} {S S' sa sb : Nat → Bool} (m : Mid w wr X T ta tb S sa sb) (b3 : Below wr.heap.size wr w3) :
    Mid2 w (w3.alloc (.cells (winCells T' S') 24)) X w3.heap.size T T' ta tb S S' sa sb :=
  ⟨(m.bx.next b3).next (below1 _ _), Mid.new m.ba m.bb m.bel b3, m.hX⟩
theorem Mid2.old {w wr w3 : World} {X : Nat} {T T' ta tb : Int} {S S' sa sb : Nat → Bool} (m : Mid w wr X T ta tb S sa sb) (b3 : Below wr.heap.size wr w3) (rz : winBlock w3 wr.heap.size 0 noneS) :
    Mid2 w (winStore w3 wr.heap.size T' S') X wr.heap.size T T' ta tb S S' sa sb :=
  ⟨(m.bx.next b3).over (by have := m.bx.lt; omega), Mid.old m.ba m.bb m.bel b3 rz, m.hX⟩
/-- both windows stored. -/
theorem Mid2.both {w wx : World} {X Y : Nat} {T T' ta tb : Int} {S S' sa sb : Nat → Bool} (m : Mid2 w wx X Y T T' ta tb S S' sa sb) :
    winBlock (winStore wx w.heap.size T S) Y T' S' ∧ winBlock (winStore wx w.heap.size T S) (w.heap.size + 1) tb sb ∧ winBlock (winStore (winStore wx w.heap.size T S) (w.heap.size + 1) T' S') w.heap.size T S ∧
    winBlock (winStore (winStore wx w.heap.size T S) (w.heap.size + 1) T' S') (w.heap.size + 1) T' S' ∧ Below w.heap.size w (winStore (winStore wx w.heap.size T S) (w.heap.size + 1) T' S') := by
  have hY := m.mid.hX
  have h2 : winBlock (winStore wx w.heap.size T S) (w.heap.size + 1) tb sb := m.mid.bb.over (by omega)
  exact ⟨m.mid.bx.over (by omega), h2, (m.mid.ba.store T S).over (by omega), h2.store T' S', winStore_below (winStore_below m.mid.bel _ (Nat.le_refl _) _ _) _ (by omega) _ _⟩
theorem zero_drew (wr : World) : winBlock ((wr.alloc (.cells #[.int .i64 0, .bool false, .bool false, .bool false, .bool false, .bool false, .bool false, .bool false, .bool false] 24)).drew) wr.heap.size 0 noneS := winBlock.new wr 0 noneS

set_option maxRecDepth 100000 in
set_option maxHeartbeats 40000000 in
theorem walk_WindowTurns (w : World) (low : Int) (wl : (Lit.int .i64 low).wf = true) (a : Option Addr) (len cap : Nat) (l : List Int) (h : RowK .i64 w a len l) (hc : len ≤ cap) (_ : a = none → cap = 0) (hz : cap * 8 ≤ 140737488351232) (turn : Int) (wt : (Lit.int .i64 turn).wf = true) :
    Calls Try.prog 7 #[.int .i64 low, .slice a len cap, .int .i64 turn] w fun e w' => e = .returned (.bool true) ∧ Below w.heap.size w w' := by
  have hll := h.len_eq
  have p1 := pickedOf_range low 1000 (by decide)
  have H1 := fun w => picked_any low 1000 w wl (by decide) (by decide)
  generalize pickedOf low 1000 = n at p1 H1
  have p2 := pickedOf_range turn ((len : Int) + 1) (by omega)
  have H2 := fun w => picked_wide turn ((len : Int) + 1) w wt (by omega) (by omega)
  generalize pickedOf turn ((len : Int) + 1) = K at p2 H2
  obtain ⟨K, rfl⟩ : ∃ K' : Nat, K = (K' : Int) := ⟨K.toNat, by omega⟩
  have hK : K ≤ len := by omega
  obtain ⟨p1a, p1b⟩ := p1
  have hq := run_equal_seen
  go_enter Try.func7, Try.ntmps7
  go_wp2_with fail
  refine (H1 _).mono ?_
  rintro e w1 ⟨rfl, rfl⟩
  go_wp2_with fail
  refine (H2 _).mono ?_
  rintro e w1 ⟨rfl, rfl⟩
  clear H1 H2 p2
  go_wp2_with fail
  obtain ⟨W, hW, wb0, wb1, B0, S0⟩ := two_nones w
  rw [← hW]
  clear hW
  go_loopw [11] (fun i wr => ∃ (k : Nat) (ta tb : Int) (sa sb : Nat → Bool), i = .int .i64 k ∧ TurnInv w wr n l K k len ta tb sa sb) (fun i _ => len - (intOf i).toNat)
  case atStart => exact ⟨0, 0, 0, noneS, noneS, rfl, ⟨by omega, by omega, WinInv.none, WinInv.none, by omega, by omega, wb0, wb1, B0⟩⟩
  case round =>
    obtain ⟨k, ta, tb, sa, sb, rfl, I⟩ := hrel
    clear wb0 wb1 B0 S0
    have HI := veil I
    have i20 := I.i20
    have il := I.il
    by_cases hlt : k < len ∧ k < 20
    · obtain ⟨hlt, hlt2⟩ := hlt
      obtain ⟨b, off, rfl⟩ := h.form (by omega)
      have hx := (h.below I.bel).at k hlt
      have wx := h.wf (l.getD k 0) (by rw [List.getD_eq_getElem?_getD, List.getElem?_eq_getElem (by omega)]; simp)
      have e0 : (k + 0) % l.length = k := by rw [Nat.add_zero, Nat.mod_eq_of_lt (by omega)]
      have HT := veil (turned_succ n l 0 k)
      rw [e0] at HT
      generalize l.getD k 0 = x at hx wx HT
      have pr := pickedOf_range x 8 (by decide)
      have P1 := fun w => picked_any x 8 w wx (by decide) (by decide)
      generalize pickedOf x 8 = q at pr P1 HT
      obtain ⟨q0, q1⟩ := pr
      obtain ⟨T, S, bn, hI2, hT1, hT2, hT3, hold, hnew, hT⟩ := take_step I.ia (id := n + q) (by omega) (by omega) (by have := I.la; omega)
      have hT4 : T ≤ n + 8 := by
        have : takeT ta (n + q) ≤ n + 8 := by unfold takeT; have := I.la; split <;> omega
        omega
      rw [← unveil HT] at hI2
      clear hold hnew hT1 hT2 hT3 HT e0
      obtain ⟨c0, c1, c2, c3, c4, c5, c6, c7, c8⟩ := I.ba.cells
      have hRa := I.ba.lt
      have hbl : b < wr.heap.size := Nat.lt_of_lt_of_le (h.lt (by omega)) I.bel.size
      clear I
      go_wp2_with fail
      have hTz : ∀ z, z = n + q → ∀ w, Calls Try.prog 13 #[winVal ta sa, .int .i64 z] w fun e w' => e = .returned (.tuple #[winVal T S, .bool bn, .int .i64 0]) ∧ Below w.heap.size w w' := by
        intro z hz w
        rw [hz]
        exact hT w
      clear hT
      have RZ := veil (zero_drew wr)
      go_cut [12, 13, 14] (fun p c e wx => ∃ X, p = .pointer (some ⟨X, 0, none⟩) ∧ c = .bool bn ∧ e = .int .i64 0 ∧ Mid w wx X T ta tb S sa sb)
      case first =>
        first | go_region_with (first | (go_at_call 15; refine (P1 _).mono ?_; rintro e w2 ⟨rfl, rfl⟩) | (go_at_call 13; refine (hTz _ (by first | rfl | omega | (rw [IntKind.wrap_i64]; omega)) _).mono ?_; rintro e w3 ⟨rfl, bb⟩; first | (have b3 : Below wr.heap.size wr w3 := Below.next (draw_below _ _) bb; clear bb) | (have b3 : Below wr.heap.size wr w3 := Below.next (Below.next (below1 _ _) (draw_below _ _)) bb; have rz : winBlock w3 wr.heap.size 0 noneS := (unveil RZ).next bb; have rzf := rz.free; obtain ⟨z0, z1, z2, z3, z4, z5, z6, z7, z8⟩ := rz.cells; clear bb))) | fail
        all_goals (try go_wp2_with fail)
        all_goals go_meet
        all_goals first
          | (have m := Mid.old (T := T) (S := S) (unveil HI).ba (unveil HI).bb (unveil HI).bel b3 rz; exact ⟨_, rfl, rfl, rfl, m⟩)
          | (have m := Mid.new (T := T) (S := S) (unveil HI).ba (unveil HI).bb (unveil HI).bel b3; exact ⟨_, rfl, rfl, rfl, m⟩)
      case rest =>
        obtain ⟨X, rfl, rfl, rfl, M⟩ := hcut
        clear c0 c1 c2 c3 c4 c5 c6 c7 c8 hTz P1 hx RZ hRa hbl q0 q1 wx
        obtain ⟨r, hr⟩ : ∃ r, r = (k + K) % l.length := ⟨_, rfl⟩
        have hrl : r < len := by rw [hr, hll]; exact Nat.mod_lt _ (by omega)
        have HT := veil (turned_succ n l K k)
        rw [← hr] at HT
        have hrem : Int.tmod ((k : Int) + (K : Int)) (len : Int) = (r : Int) := by
          rw [Int.tmod_eq_emod_of_nonneg (by omega), hr, hll]
          push_cast
          rfl
        have hrem2 : ((k : Int) + (K : Int)) % (len : Int) = (r : Int) := by
          rw [← hrem, Int.tmod_eq_emod_of_nonneg (by omega)]
        clear hr
        have hx := (h.below M.bel).at r hrl
        have wx := h.wf (l.getD r 0) (by rw [List.getD_eq_getElem?_getD, List.getElem?_eq_getElem (by omega)]; simp)
        generalize l.getD r 0 = y at hx wx HT
        have pr := pickedOf_range y 8 (by decide)
        have P1 := fun w => picked_any y 8 w wx (by decide) (by decide)
        generalize pickedOf y 8 = q' at pr P1 HT
        obtain ⟨q0, q1⟩ := pr
        obtain ⟨T', S', bn', hI2', hT1', hT2', hT3', hold', hnew', hT'⟩ := take_step (unveil HI).ib (id := n + q') (by omega) (by omega) (by have := (unveil HI).lb; omega)
        have hT4' : T' ≤ n + 8 := by
          have : takeT tb (n + q') ≤ n + 8 := by unfold takeT; have := (unveil HI).lb; split <;> omega
          omega
        rw [← unveil HT] at hI2'
        clear hold' hnew' hT1' hT2' hT3' HT
        have hTz : ∀ z, z = n + q' → ∀ w, Calls Try.prog 13 #[winVal tb sb, .int .i64 z] w fun e w' => e = .returned (.tuple #[winVal T' S', .bool bn', .int .i64 0]) ∧ Below w.heap.size w w' := by
          intro z hz w
          rw [hz]
          exact hT' w
        clear hT'
        have HM := veil M
        obtain ⟨c0, c1, c2, c3, c4, c5, c6, c7, c8⟩ := M.bb.cells
        have hRb := M.bb.lt
        have hbl : b < wc.heap.size := Nat.lt_of_lt_of_le (h.lt (by omega)) M.bel.size
        have hl0 : ¬ (len : Int) = 0 := by omega
        clear M
        go_wp2_with fail
        have RZ := veil (zero_drew wc)
        go_cut [15, 16, 17] (fun p c e wx => ∃ Y, p = .pointer (some ⟨Y, 0, none⟩) ∧ c = .bool bn' ∧ e = .int .i64 0 ∧ Mid2 w wx X Y T T' ta tb S S' sa sb)
        case first =>
          first | go_region_with (first | (go_at_call 15; refine (P1 _).mono ?_; rintro e w2 ⟨rfl, rfl⟩) | (go_at_call 13; refine (hTz _ (by first | rfl | omega | (rw [IntKind.wrap_i64]; omega)) _).mono ?_; rintro e w3 ⟨rfl, bb⟩; first | (have b3 : Below wc.heap.size wc w3 := Below.next (draw_below _ _) bb; clear bb) | (have b3 : Below wc.heap.size wc w3 := Below.next (Below.next (below1 _ _) (draw_below _ _)) bb; have rz : winBlock w3 wc.heap.size 0 noneS := (unveil RZ).next bb; have rzf := rz.free; obtain ⟨z0, z1, z2, z3, z4, z5, z6, z7, z8⟩ := rz.cells; clear bb))) | fail
          all_goals (try go_wp2_with fail)
          all_goals go_meet
          all_goals first
            | (have m := Mid2.old (T' := T') (S' := S') (unveil HM) b3 rz; exact ⟨_, rfl, rfl, rfl, m⟩)
            | (have m := Mid2.new (T' := T') (S' := S') (unveil HM) b3; exact ⟨_, rfl, rfl, rfl, m⟩)
        case rest =>
          obtain ⟨Y, rfl, rfl, rfl, M2⟩ := hcut
          obtain ⟨f1, f2, f3, f4, f5⟩ := M2.both
          obtain ⟨c0, c1, c2, c3, c4, c5, c6, c7, c8⟩ := M2.bx.cells
          obtain ⟨d0, d1, d2, d3, d4, d5, d6, d7, d8⟩ := M2.mid.ba.cells
          have df := M2.mid.ba.free
          have F3 := veil f3
          have F4 := veil f4
          have F5 := veil f5
          obtain ⟨e0, e1, e2, e3, e4, e5, e6, e7, e8⟩ := f1.cells
          obtain ⟨g0, g1, g2, g3, g4, g5, g6, g7, g8⟩ := f2.cells
          have gf := f2.free
          unfold winStore at e0 e1 e2 e3 e4 e5 e6 e7 e8 g0 g1 g2 g3 g4 g5 g6 g7 g8 gf
          clear f1 f2 f3 f4 f5 M2 RZ hTz P1 hx HM
          go_wp2
          go_roundw
          case rel => exact ⟨k + 1, T, T', S, S', by go_num, ⟨by omega, by omega, hI2, hI2', hT4, hT4', unveil F3, unveil F4, unveil F5⟩⟩
          case measure => simp [intOf]; omega
    · have B1 := I.bel
      by_cases h20 : 20 < len
      · obtain rfl : k = 20 := by omega
        have h20' : (20 : Int) < (len : Int) := by omega
        clear I
        go_wp2
        go_ret
        exact ⟨rfl, B1⟩
      · obtain rfl : k = len := by omega
        have hA : ∀ x, x ∈ turned n l 0 k ↔ x ∈ turned n l K k := by
          rw [← hll]
          exact turned_same n l 0 K
        obtain ⟨ht, hs⟩ := I.ia.same I.ib hA
        have bb : winBlock wr (w.heap.size + 1) ta sa := by
          have := I.bb
          rw [← ht] at this
          exact this.congr hs
        obtain ⟨c0, c1, c2, c3, c4, c5, c6, c7, c8⟩ := I.ba.cells
        obtain ⟨d0, d1, d2, d3, d4, d5, d6, d7, d8⟩ := bb.cells
        have hd : decide ((20 : Int) < (k : Int)) = false := by simp; omega
        have et : (ta == ta) = true := by simp
        have hgt : ¬ k = 0 → n < ta := by
          intro hk0
          have hne : turned n l 0 k ≠ [] := by
            intro hh
            have := congrArg List.length hh
            simp [turned] at this
            omega
          have := turned_range n l 0 k _ (I.ia.last hne)
          omega
        clear I hA hs ht bb
        by_cases hk0 : k = 0
        · subst hk0
          go_wp2
          go_ret
          exact ⟨rfl, B1⟩
        · have hgt' := hgt hk0
          have hke : ((k : Int) == 0) = false := by simp; omega
          clear hgt
          go_wp2
          go_ret
          exact ⟨rfl, B1⟩

set_option linter.unusedVariables false in
set_option maxRecDepth 100000 in
theorem lifted_WindowTurns (os : Os) (started : os.Started) (H : Type) (enc : TypeId × Value → H) :
    ReturnsInHanded {} Try.checked os 7 .any (Rows.windowTurnsSpec.pre6 enc Try.prog Try.f7 Rows.windowTurnsRow.domain false) (Rows.windowTurnsSpec.post enc Try.prog Try.f7 false true false false) := by
  refine returnsInHanded_of_change_sized (C := Try.checked) own started (by kernel_rfl) Try.func7
    (ChangeSpec.witness6 (enc := enc) (C := Try.checked) false ⟨#[], #[.int .i64 0, .slice none 0 0, .int .i64 0], []⟩ 8 (by kernel_rfl) (by kernel_rfl) (by kernel_rfl) (by kernel_rfl)) ?_
  intro W base args ds gs before hval0 hW hcnd hsz0 _
  have hval : ∀ (j : Nat) t v, Try.f7.params[j]? = some t → args[j]? = some v → Value.okWide Try.prog W .any base t v := hval0
  have hsz : (DataW.weightsEach Try.prog (Try.f7.params.toList ++ Rows.windowTurnsSpec.plain.varTypes Try.prog) (ds ++ gs)).all (· ≤ reachBytes) = true := hsz0
  have hW' := hW
  obtain ⟨p, q, hA0, hV, rfl, hfz, hnd⟩ := hW
  have hA : DataW.TrodAll enc Try.prog W 0 (fun _ => true) true Try.f7.params.toList args.toList ds p := hA0
  rw [Try.params7] at hA hval hsz
  have hK := hA
  have hlt : ∀ x ∈ p, x.block < W.heap.size := fun x hx => hW'.lt x (by simp [hx])
  obtain ⟨v0, vs0, d0, ds0, p0, q0, hargs, rfl, rfl, h0, r0⟩ := trodAll_cons hA
  obtain ⟨v1, vs1, d1, ds1, p1, q1, rfl, rfl, rfl, h1, r1⟩ := trodAll_cons r0
  obtain ⟨v2, vs2, d2, ds2, p2, q2, rfl, rfl, rfl, h2, r2⟩ := trodAll_cons r1
  obtain ⟨rfl, rfl, rfl⟩ := trodAll_nil r2
  obtain rfl : args = #[v0, v1, v2] := by cases args; simp_all
  obtain ⟨rfl, rfl⟩ := trodVars_none hV
  obtain ⟨a0, rfl, rfl, rfl, w0⟩ := open_int Try.underlying3 (hval 0 3 v0 rfl rfl) h0
  obtain ⟨a1, len1, cap1, l1, rfl, w1, lc1, cm1, na1, hd1⟩ := open_row Try.underlying33 Try.underlying3 (by kernel_rfl) (hval 1 33 v1 rfl rfl) h1
  have z1 : cap1 * 8 ≤ 140737488351232 := open_sized (j := 1) (t := 33) (e := 3) hsz rfl rfl Try.underlying33 (by kernel_rfl) hd1
  clear hd1
  obtain ⟨a2, rfl, rfl, rfl, w2⟩ := open_int Try.underlying3 (hval 2 3 v2 rfl rfl) h2
  clear hA0 hval0 hsz0
  refine (walk_WindowTurns W a0 w0 a1 len1 cap1 l1 w1 lc1 na1 z1 a2 w2).mono fun e W' ⟨he, bel⟩ => ?_
  subst he
  exact ⟨_, rfl, _, _, _, [], _, [], hW', trodAll_mk1 (shut_bool Try.underlying4 _), trodAll_stays laidOut (List.forall_mem_cons.2 ⟨⟨by kernel_rfl, of_decide_eq_true (by kernel_rfl)⟩, List.forall_mem_cons.2 ⟨⟨by kernel_rfl, of_decide_eq_true (by kernel_rfl)⟩, List.forall_mem_cons.2 ⟨⟨by kernel_rfl, of_decide_eq_true (by kernel_rfl)⟩, by intro t ht; cases ht⟩⟩⟩) hK bel hlt, rfl, bel.frame _, fun h => by cases h⟩

theorem windowTurns_holds : Rows.WindowTurnsSaid :=
  OpenClaim.holds_of_wide 7 Try.f7 rfl rfl rfl rfl rfl rfl rfl ⟨rfl, rfl, rfl, rfl, rfl⟩ rfl rfl rfl rfl rfl (by kernel_rfl) Try.func7 (by kernel_rfl)
    (of_decide_eq_true (by kernel_rfl)) (by unfold Func.isWrapper; first | (rw [if_pos (by decide +kernel)]; kernel_rfl) | (rw [if_neg (by decide +kernel)]; exact ⟨rfl, rfl⟩))
    (fun os started H enc _ => lifted_WindowTurns os started H enc)
#print axioms windowTurns_holds
end Go.Proofs.Ythbjnjbcmcollaa
