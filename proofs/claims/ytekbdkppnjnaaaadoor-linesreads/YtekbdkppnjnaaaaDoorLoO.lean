/- Walk of the document's bares: one bare act for each word. -/
import Derived.Test.YtekbdkppnjnaaaaDoorLoF
namespace Go.Proofs.YtekbdkppnjnaaaaDoor
open Go.RowKit

/-- the order in which bares has the kinds. -/
def bOrd : Nat → Nat
  | 0 => 0
  | 1 => 2
  | 2 => 5
  | 3 => 6
  | 4 => 7
  | 5 => 8
  | 6 => 4
  | 7 => 3
  | 8 => 1
  | n => n
def bFlat : List Int := (List.range 12).flatMap fun j => aList (bareK (bOrd j))
set_option maxRecDepth 20000 in
theorem bFlat_len : bFlat.length = 132 := rfl
/-- how many there are ahead of the acts of a Kind. -/
def bCnt (k : Nat) : Nat := if k ≤ 2 then k - 1 else k - 2
set_option maxRecDepth 20000 in
theorem bstep1 : ∀ k : Nat, 1 ≤ k → k ≤ 10 → ¬ k = 2 → bFlat.take (11 * bCnt k) ++ [(k : Int), 0, 0, 0, 0, 0, 0, 0, 0, 0, 0] = bFlat.take (11 * bCnt (k + 1)) ∧ bCnt (k + 1) = bCnt k + 1
  | 1, _, _, _ => by decide
  | 3, _, _, _ => by decide
  | 4, _, _, _ => by decide
  | 5, _, _, _ => by decide
  | 6, _, _, _ => by decide
  | 7, _, _, _ => by decide
  | 8, _, _, _ => by decide
  | 9, _, _, _ => by decide
  | 10, _, _, _ => by decide
  | 2, _, _, h => absurd rfl h
  | 0, h, _, _ => absurd h (by omega)
  | n + 11, _, h, _ => absurd h (by omega)
set_option maxRecDepth 20000 in
theorem bstep2 : ∀ k : Nat, 1 ≤ k → k ≤ 3 → bFlat.take (11 * (8 + k)) ++ [2, 0, 0, 0, 0, (k : Int), 0, 0, 0, 0, 0] = bFlat.take (11 * (8 + (k + 1)))
  | 1, _, _ => by decide
  | 2, _, _ => by decide
  | 3, _, _ => by decide
  | 0, h, _ => absurd h (by omega)
  | n + 4, _, h => absurd h (by omega)
theorem below12b {P : Nat → Prop} (h : ∀ i, i < 12 → P i) : ∀ i, i < 12 → P i := h
set_option maxRecDepth 20000 in
theorem bFlat_at : ∀ j, j < 12 → ∀ o, o < 11 → actAt bFlat j o = bareK (bOrd j) o := by decide
theorem bOrd_all : ∀ i, i < 12 → ∃ j, j < 12 ∧ bOrd j = i := by decide
theorem bOrd_inj : ∀ i, i < 12 → ∀ j, j < 12 → bOrd i = bOrd j → i = j := by decide
theorem bOrd_lt : ∀ i, i < 12 → bOrd i < 12 := by decide
theorem bare_kno : ∀ i, i < 12 → kno (bareK i 0) (bareK i 5) = i := by decide
/-- what bares has made. -/
structure Ba (w wr : World) (a1 : Option Addr) (c1 : Nat) (n : Nat) : Prop where
  o : wr.ownsRow w.heap.size 27 11 (.slice a1 n c1) n ((bFlat.take (11 * n)).map (Value.int .i64))
  b : Below w.heap.size w wr
theorem Ba.next {w wr wx : World} {a1 : Option Addr} {c1 n : Nat} (h : Ba w wr a1 c1 n) (b : Below wr.heap.size wr wx) : Ba w wx a1 c1 n := ⟨own_still h.o (fun g _ hg => b.block g hg), Below.next h.b b⟩
theorem Ba.grown {w W3 w5 : World} {a1 : Option Addr} {c1 n : Nat} (h : Ba w W3 a1 c1 n) (g : W3.grownBy w5 (Value.slice a1 n c1).ownBlock) : Below w.heap.size w w5 := h.b.grown g h.b.size (fun j e => (h.o.lt j e).1)
def BaresOut (w : World) (e : Ending) (w' : World) : Prop := ∃ v, e = .returned v ∧ w'.ownsRow w.heap.size 27 11 v 12 (bFlat.map (Value.int .i64)) ∧ Below w.heap.size w w'
set_option maxRecDepth 20000 in
set_option maxHeartbeats 4000000 in
theorem bares_any (w : World) : Calls Tryd.prog 50 #[] w fun e w' => BaresOut w e w' := by
  obtain ⟨i2, hi2, hz20, hz21, hz22⟩ := info_of Tryd.infoAct
  go_enter Tryd.func50, Tryd.ntmps50
  go_wp2
  go_loopw [1, 2] (fun sv t wr => ∃ (k : Nat) (a1 : Option Addr) (c1 n : Nat), 1 ≤ k ∧ k ≤ 11 ∧ t = .int .i64 k ∧ sv = .slice a1 n c1 ∧ Hid (n = bCnt k) ∧ Hid (Ba w wr a1 c1 n)) (fun _ t _ => 11 - (intOf t).toNat)
  case atStart => exact ⟨1, none, 0, 0, by omega, by omega, rfl, rfl, veil rfl, veil ⟨World.ownsRow_nil _ _ _ _, Below.refl _ _⟩⟩
  case round =>
    obtain ⟨k, a1, c1, n, h1, h11, rfl, rfl, HN, HT⟩ := hrel
    by_cases hlt : k ≤ 10
    case neg =>
      obtain rfl : k = 11 := by omega
      obtain rfl : n = 9 := unveil HN
      clear HN h1 h11 hlt
      go_wp2
      rw [show ((11 : Nat) : Int) = 11 from rfl]
      go_loopw [1, 3] (fun sv t wr => ∃ (k : Nat) (a1 : Option Addr) (c1 n : Nat), 1 ≤ k ∧ k ≤ 4 ∧ t = .int .i64 k ∧ sv = .slice a1 n c1 ∧ Hid (n = 8 + k) ∧ Hid (Ba w wr a1 c1 n)) (fun _ t _ => 4 - (intOf t).toNat)
      case atStart => exact ⟨1, a1, c1, 9, by omega, by omega, rfl, rfl, veil rfl, HT⟩
      case round =>
        clear HT
        obtain ⟨k, a1, c1, n, h1, h4, rfl, rfl, HN, HT⟩ := hrel
        by_cases hlt : k ≤ 3
        case neg =>
          obtain rfl : k = 4 := by omega
          obtain rfl : n = 12 := unveil HN
          go_wp2
          go_ret
          refine ⟨_, rfl, ?_, (unveil HT).b⟩
          have := (unveil HT).o
          rw [List.take_of_length_le (by rw [bFlat_len]; omega)] at this
          exact this
        case pos =>
          have hki : (k : Int) ≤ 3 := by omega
          have HS : Hid (bFlat.take (11 * n) ++ [2, 0, 0, 0, 0, (k : Int), 0, 0, 0, 0, 0] = bFlat.take (11 * (n + 1))) := veil (by rw [unveil HN]; exact bstep2 k h1 hlt)
          have hn : n ≤ 20 := by have := unveil HN; omega
          have HM : Hid (n + 1 = 8 + (k + 1)) := veil (by have := unveil HN; omega)
          have T3 := (unveil HT).next (below1 wr (.cells (aCells (vec [2, 0, 0, 0, 0, (k : Int), 0, 0, 0, 0, 0])) 27))
          have hsz := (unveil HT).b.size
          obtain ⟨E, hE⟩ : ∃ E, E = bFlat.take (11 * n) := ⟨_, rfl⟩
          have HO : Hid ((wr.alloc (.cells #[.int .i64 2, .int .i64 0, .int .i64 0, .int .i64 0, .int .i64 0, .int .i64 k, .int .i64 0, .int .i64 0, .int .i64 0, .int .i64 0, .int .i64 0] 27)).ownsRow w.heap.size 27 11 (.slice a1 n c1) n (E.map (Value.int .i64))) := veil (by rw [hE]; exact T3.o)
          have HG : Hid (∀ w5, (wr.alloc (.cells #[.int .i64 2, .int .i64 0, .int .i64 0, .int .i64 0, .int .i64 0, .int .i64 k, .int .i64 0, .int .i64 0, .int .i64 0, .int .i64 0, .int .i64 0] 27)).grownBy w5 (Value.slice a1 n c1).ownBlock → Below w.heap.size w w5) := veil fun w5 g => T3.grown g
          rw [← hE] at HS
          clear hE T3 HT HN
          go_wp2_with (at_builtin; refine wpList_append_own _ rfl _ _ 31 rfl w.heap.size 27 i2 _ 11 88 Tryd.underlying31 hi2 hz20 hz21 hz22 rfl (by decide) (.slice a1 n c1) n (E.map (Value.int .i64)) rfl (unveil HO) ⟨wr.heap.size, 0, none⟩ 1 1 ([2, 0, 0, 0, 0, (k : Int), 0, 0, 0, 0, 0].map (Value.int .i64)) rfl rfl (news11 wr (vec [2, 0, 0, 0, 0, (k : Int), 0, 0, 0, 0, 0])) (ints_oneCell _ _) (by unfold maxLen; omega) (by omega) (by simp; omega) ?_; intro v' w5 o5 g5; have HB := veil (unveil HG w5 g5); obtain ⟨a2, c2, rfl⟩ := own_form o5; have HO5 := veil o5; clear o5 g5 HO HG)
          go_roundw
          case rel => exact ⟨k + 1, a2, c2, n + 1, by omega, by omega, by go_num, by simp, HM, veil ⟨by rw [← unveil HS, List.map_append]; exact unveil HO5, unveil HB⟩⟩
          case measure => simp [intOf]; omega
    case pos =>
      have hki : (k : Int) ≤ 10 := by omega
      by_cases h2 : k = 2
      case pos =>
        subst h2
        go_wp2
        go_roundw
        case rel => exact ⟨3, a1, c1, n, by omega, by omega, by go_num, rfl, veil (by rw [unveil HN]; rfl), HT⟩
        case measure => simp [intOf]
      case neg =>
        have h2i : ¬ ((k : Int) = 2) := by omega
        have HS : Hid (bFlat.take (11 * n) ++ [(k : Int), 0, 0, 0, 0, 0, 0, 0, 0, 0, 0] = bFlat.take (11 * (n + 1))) := veil (by rw [unveil HN, ← (bstep1 k h1 hlt h2).2]; exact (bstep1 k h1 hlt h2).1)
        have HM : Hid (n + 1 = bCnt (k + 1)) := veil (by rw [unveil HN, (bstep1 k h1 hlt h2).2])
        have hn : n ≤ 20 := by have := unveil HN; unfold bCnt at this; split at this <;> omega
        have T3 := (unveil HT).next (below1 wr (.cells (aCells (vec [(k : Int), 0, 0, 0, 0, 0, 0, 0, 0, 0, 0])) 27))
        have hsz := (unveil HT).b.size
        obtain ⟨E, hE⟩ : ∃ E, E = bFlat.take (11 * n) := ⟨_, rfl⟩
        have HO : Hid ((wr.alloc (.cells #[.int .i64 k, .int .i64 0, .int .i64 0, .int .i64 0, .int .i64 0, .int .i64 0, .int .i64 0, .int .i64 0, .int .i64 0, .int .i64 0, .int .i64 0] 27)).ownsRow w.heap.size 27 11 (.slice a1 n c1) n (E.map (Value.int .i64))) := veil (by rw [hE]; exact T3.o)
        have HG : Hid (∀ w5, (wr.alloc (.cells #[.int .i64 k, .int .i64 0, .int .i64 0, .int .i64 0, .int .i64 0, .int .i64 0, .int .i64 0, .int .i64 0, .int .i64 0, .int .i64 0, .int .i64 0] 27)).grownBy w5 (Value.slice a1 n c1).ownBlock → Below w.heap.size w w5) := veil fun w5 g => T3.grown g
        rw [← hE] at HS
        clear hE T3 HT HN
        go_wp2_with (at_builtin; refine wpList_append_own _ rfl _ _ 31 rfl w.heap.size 27 i2 _ 11 88 Tryd.underlying31 hi2 hz20 hz21 hz22 rfl (by decide) (.slice a1 n c1) n (E.map (Value.int .i64)) rfl (unveil HO) ⟨wr.heap.size, 0, none⟩ 1 1 ([(k : Int), 0, 0, 0, 0, 0, 0, 0, 0, 0, 0].map (Value.int .i64)) rfl rfl (news11 wr (vec [(k : Int), 0, 0, 0, 0, 0, 0, 0, 0, 0, 0])) (ints_oneCell _ _) (by unfold maxLen; omega) (by omega) (by simp; omega) ?_; intro v' w5 o5 g5; have HB := veil (unveil HG w5 g5); obtain ⟨a2, c2, rfl⟩ := own_form o5; have HO5 := veil o5; clear o5 g5 HO HG)
        go_roundw
        case rel => exact ⟨k + 1, a2, c2, n + 1, by omega, by omega, by go_num, by simp, HM, veil ⟨by rw [← unveil HS, List.map_append]; exact unveil HO5, unveil HB⟩⟩
        case measure => simp [intOf]; omega
end Go.Proofs.YtekbdkppnjnaaaaDoor
