/- Walk of berthshiftkeep.feats. -/
import Derived.Test.YtekbdkppnjnaaaaDoorLoJ
namespace Go.Proofs.YtekbdkppnjnaaaaDoor
open Go.RowKit

/-- acts that may be, one behind the other. -/
def Acts (E : List Int) (n : Nat) : Prop := E.length = 11 * n ∧ ∀ i, i < n → chk (actAt E i) = 0
theorem chk_ext2 {f g : Nat → Int} (h : ∀ j, j < 11 → g j = f j) (hg : chk g = 0) : chk f = 0 := chk_ext h hg
theorem Acts.next {E : List Int} {n : Nat} {f : Nat → Int} (h : Acts E n) (hf : chk f = 0) : Acts (E ++ [f 0, f 1, f 2, f 3, f 4, f 5, f 6, f 7, f 8, f 9, f 10]) (n + 1) := by
  refine ⟨by rw [List.length_append, h.1]; simp; omega, fun i hi => ?_⟩
  by_cases e : i < n
  · exact chk_ext (fun o ho => (actAt_left h.1 e o ho).symm) (h.2 i e)
  · have : i = n := by omega
    subst this
    refine chk_ext (fun o ho => ?_) hf
    rw [actAt_right h.1 o ho]
    revert o
    exact below11 rfl rfl rfl rfl rfl rfl rfl rfl rfl rfl rfl
theorem row_feat {w : World} {b off n : Nat} {D : List Int} (hr : RowK .i64 w (some ⟨b, off, none⟩) (5 * n) D) (k : Nat) (hk : k < n) :
    ∃ x0 x1 x2 x3 x4 : Int, (∀ u ∈ [x0, x1, x2, x3, x4], (Lit.int .i64 u).wf = true) ∧ w.cell? ⟨b, off + k * 5, none⟩ = some (.int .i64 x0) ∧ w.cell? ⟨b, off + k * 5 + 1, none⟩ = some (.int .i64 x1) ∧ w.cell? ⟨b, off + k * 5 + 2, none⟩ = some (.int .i64 x2) ∧ w.cell? ⟨b, off + k * 5 + 3, none⟩ = some (.int .i64 x3) ∧ w.cell? ⟨b, off + k * 5 + 4, none⟩ = some (.int .i64 x4) := by
  have ea : ∀ t, t < 5 → w.cell? ⟨b, off + (5 * k + t), none⟩ = some (.int .i64 (D.getD (5 * k + t) 0)) := fun t ht => hr.at (5 * k + t) (by omega)
  have hw : ∀ t, t < 5 → (Lit.int .i64 (D.getD (5 * k + t) 0)).wf = true := fun t ht => by
    have hl : 5 * k + t < D.length := by rw [hr.len_eq]; omega
    rw [show D.getD (5 * k + t) 0 = D[5 * k + t] by simp [hl]]
    exact hr.wf _ (List.getElem_mem hl)
  rw [Nat.mul_comm k 5]
  refine ⟨_, _, _, _, _, ?_, ea 0 (by omega), ea 1 (by omega), ea 2 (by omega), ea 3 (by omega), ea 4 (by omega)⟩
  intro u hu
  simp only [List.mem_cons, List.not_mem_nil, or_false] at hu
  rcases hu with rfl | rfl | rfl | rfl | rfl
  · exact hw 0 (by omega)
  · exact hw 1 (by omega)
  · exact hw 2 (by omega)
  · exact hw 3 (by omega)
  · exact hw 4 (by omega)
/-- what feats has made. -/
structure Ft (w wr : World) (a1 : Option Addr) (c1 : Nat) (E : List Int) (k : Nat) : Prop where
  o : wr.ownsRow w.heap.size 27 11 (.slice a1 k c1) k (E.map (Value.int .i64))
  g : Acts E k
  b : Below w.heap.size w wr
theorem Ft.grown {w W3 w5 : World} {a1 : Option Addr} {c1 : Nat} {E : List Int} {k : Nat} (h : Ft w W3 a1 c1 E k) (g : W3.grownBy w5 (Value.slice a1 k c1).ownBlock) : Below w.heap.size w w5 :=
  h.b.grown g h.b.size (fun j e => (h.o.lt j e).1)
theorem Ft.next {w wr wx : World} {a1 : Option Addr} {c1 : Nat} {E : List Int} {k : Nat} (h : Ft w wr a1 c1 E k) (b : Below wr.heap.size wr wx) : Ft w wx a1 c1 E k := ⟨own_still h.o (fun g _ hg => b.block g hg), h.g, Below.next h.b b⟩
def FeatsOut (mo : Nat) (w : World) (e : Ending) (w' : World) : Prop := ∃ v E n, e = .returned v ∧ n ≤ mo ∧ Acts E n ∧ w'.ownsRow w.heap.size 27 11 v n (E.map (Value.int .i64)) ∧ Below w.heap.size w w'
set_option maxRecDepth 20000 in
set_option maxHeartbeats 4000000 in
theorem feats_any (a : Option Addr) (len cap : Nat) (D : List Int) (w : World) (h : RowK .i64 w a (5 * len) D) (mo : Nat) (hmo : mo ≤ 60) :
    Calls Tryd.prog 20 #[.slice a len cap, .int .i64 mo] w fun e w' => FeatsOut mo w e w' := by
  obtain ⟨i2, hi2, hz20, hz21, hz22⟩ := info_of Tryd.infoAct
  have HR : Hid (∀ u, Below w.heap.size w u → RowK .i64 u a (5 * len) D) := veil fun u b => h.below b
  clear h
  go_enter Tryd.func20, Tryd.ntmps20
  go_wp2
  go_loopw [5, 6] (fun sv t wr => ∃ (k : Nat) (a1 : Option Addr) (c1 : Nat) (E : List Int), k ≤ mo ∧ k ≤ len ∧ t = .int .i64 k ∧ sv = .slice a1 k c1 ∧ Hid (Ft w wr a1 c1 E k)) (fun _ t _ => mo - (intOf t).toNat)
  case atStart => exact ⟨0, none, 0, [], Nat.zero_le _, Nat.zero_le _, rfl, rfl, veil ⟨World.ownsRow_nil _ _ _ _, ⟨rfl, fun i hi => by omega⟩, Below.refl _ _⟩⟩
  case round =>
    obtain ⟨k, a1, c1, E, hk, hkl, rfl, rfl, HT⟩ := hrel
    by_cases hlt : k < len ∧ k < mo
    case neg =>
      have HE : Hid (k ≤ mo ∧ Acts E k ∧ wr.ownsRow w.heap.size 27 11 (.slice a1 k c1) k (E.map (Value.int .i64)) ∧ Below w.heap.size w wr) := veil ⟨hk, (unveil HT).g, (unveil HT).o, (unveil HT).b⟩
      clear HR HT
      by_cases h1 : k < len
      · have h2 : ¬ ((k : Int) < (mo : Int)) := by omega
        have h1' : (k : Int) < (len : Int) := by omega
        go_wp2
        go_ret
        exact ⟨_, E, k, rfl, unveil HE⟩
      · have h1' : ¬ ((k : Int) < (len : Int)) := by omega
        go_wp2
        go_ret
        exact ⟨_, E, k, rfl, unveil HE⟩
    case pos =>
      obtain ⟨h1, h2⟩ := hlt
      have h1' : (k : Int) < (len : Int) := by omega
      have h2' : (k : Int) < (mo : Int) := by omega
      have hr := unveil HR wr (unveil HT).b
      obtain ⟨b, off, rfl⟩ := hr.form (by omega)
      obtain ⟨x0, x1, x2, x3, x4, hw, y0, y1, y2, y3, y4⟩ := row_feat hr k h1
      have HA := act_any x0 x1 x2 x3 x4 wr (hw x0 (by simp)) (hw x1 (by simp)) (hw x2 (by simp)) (hw x3 (by simp)) (hw x4 (by simp))
      clear hr HR hw
      go_upto_region 6 with (go_at_call 37; refine HA.mono ?_; rintro e V1 ⟨f, rfl, hf, b1⟩; clear HA)
      clear y0 y1 y2 y3 y4
      obtain ⟨W2, hW2, A2, T2⟩ : ∃ W2, W2 = V1.alloc (.cells #[.int .i64 (f 0), .int .i64 (f 1), .int .i64 (f 2), .int .i64 (f 3), .int .i64 (f 4), .int .i64 (f 5), .int .i64 (f 6), .int .i64 (f 7), .int .i64 (f 8), .int .i64 (f 9), .int .i64 (f 10)] 27) ∧ aBlock W2 V1.heap.size f ∧ Ft w W2 a1 c1 E k := ⟨_, rfl, aBlock.new V1 f, ((unveil HT).next b1).next (below1 _ _)⟩
      rw [← hW2]
      clear hW2 b1 HT
      obtain ⟨x0, x1, x2, x3, x4, x5, x6, x7, x8, x9, x10⟩ := A2.cells
      have T3 := T2.next (below1 W2 (.cells (aCells f) 27))
      have HN := veil (T2.g.next hf)
      have HO : Hid ((W2.alloc (.cells #[.int .i64 (f 0), .int .i64 (f 1), .int .i64 (f 2), .int .i64 (f 3), .int .i64 (f 4), .int .i64 (f 5), .int .i64 (f 6), .int .i64 (f 7), .int .i64 (f 8), .int .i64 (f 9), .int .i64 (f 10)] 27)).ownsRow w.heap.size 27 11 (.slice a1 k c1) k (E.map (Value.int .i64))) := veil T3.o
      have HG : Hid (∀ w5, (W2.alloc (.cells #[.int .i64 (f 0), .int .i64 (f 1), .int .i64 (f 2), .int .i64 (f 3), .int .i64 (f 4), .int .i64 (f 5), .int .i64 (f 6), .int .i64 (f 7), .int .i64 (f 8), .int .i64 (f 9), .int .i64 (f 10)] 27)).grownBy w5 (Value.slice a1 k c1).ownBlock → Below w.heap.size w w5) := veil fun w5 g => T3.grown g
      have hsz := T2.b.size
      clear T2 T3 A2 hf
      go_wp2_with (at_builtin; refine wpList_append_own _ rfl _ _ 31 rfl w.heap.size 27 i2 _ 11 88 Tryd.underlying31 hi2 hz20 hz21 hz22 rfl (by decide) (.slice a1 k c1) k (E.map (Value.int .i64)) rfl (unveil HO) ⟨W2.heap.size, 0, none⟩ 1 1 ([f 0, f 1, f 2, f 3, f 4, f 5, f 6, f 7, f 8, f 9, f 10].map (Value.int .i64)) rfl rfl (news11 W2 f) (ints_oneCell _ _) (by unfold maxLen; omega) (by omega) (by simp; omega) ?_; intro v' w5 o5 g5; have HB := veil (unveil HG w5 g5); obtain ⟨a2, c2, rfl⟩ := own_form o5; have HO5 := veil o5; clear o5 g5 HO HG x0 x1 x2 x3 x4 x5 x6 x7 x8 x9 x10)
      go_roundw
      case rel => exact ⟨k + 1, a2, c2, E ++ [f 0, f 1, f 2, f 3, f 4, f 5, f 6, f 7, f 8, f 9, f 10], by omega, by omega, by go_num, by simp, veil ⟨by rw [List.map_append]; exact unveil HO5, unveil HN, unveil HB⟩⟩
      case measure => simp [intOf]; omega
end Go.Proofs.YtekbdkppnjnaaaaDoor
