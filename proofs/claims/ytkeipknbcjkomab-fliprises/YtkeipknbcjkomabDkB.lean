/- The walk of berthshiftkeep.FlipRises. -/
import Derived.Test.YtkeipknbcjkomabDrK
namespace Go.Proofs.Ytkeipknbcjkomab
open Go.RowKit

theorem getD_fit (l : List Int) (hw : ∀ u ∈ l, (Lit.int .i64 u).wf = true) (k : Nat) : (Lit.int .i64 (l.getD k 0)).wf = true := by
  rcases Nat.lt_or_ge k l.length with h | h
  · rw [List.getD_eq_getElem?_getD, List.getElem?_eq_getElem h]
    exact hw _ (List.getElem_mem h)
  · rw [List.getD_eq_getElem?_getD, List.getElem?_eq_none h]
    rfl
/-- the directory behind some flips. -/
structure Rs (k : Nat) (n e : Nat → Int) (x y : Int) (m : Nat) : Prop where
  ok : DirOk n e
  nk : n k = x
  ek : e k = y
  x0 : 0 ≤ x ∧ x ≤ 4
  y0 : 1 ≤ y ∧ y ≤ m + 1
  off : ∀ j, j < 4 → ¬ j = k → n j = -1
theorem Rs.put {k : Nat} {n e : Nat → Int} {x y : Int} {m : Nat} (h : Rs k n e x y m) (t : Int) (ht : 0 ≤ t ∧ t ≤ 4) (hm : m < 20) : Rs k (dput n k t) (dput e k (y + 1)) t (y + 1) (m + 1) := by
  have := h.y0
  exact ⟨h.ok.put k t (y + 1) ht (by omega), dput_self _ _ _, dput_self _ _ _, ht, by omega, fun j hj hk => by rw [dput_other _ _ _ _ hk]; exact h.off j hj hk⟩
theorem Rs.keep {k : Nat} {n e : Nat → Int} {x y : Int} {m : Nat} (h : Rs k n e x y m) : Rs k n e x y (m + 1) := by
  have := h.y0
  exact ⟨h.ok, h.nk, h.ek, h.x0, by omega, h.off⟩
set_option maxRecDepth 20000 in
set_option maxHeartbeats 4000000 in
theorem walk_FlipRises (w : World) (p : Option Addr) (len cap : Nat) (l : List Int) (h : RowK .i64 w p len l) (_ : len ≤ cap) (_ : p = none → cap = 0) (_ : cap * 8 ≤ 140737488351232) (q : Int) (wq : (Lit.int .i64 q).wf = true) :
    Calls Try.prog 9 #[.slice p len cap, .int .i64 q] w fun r w' => r = .returned (.bool true) ∧ Below w.heap.size w w' := by
  have p1 := pickedOf_range q 4 (by decide)
  have H1 := fun w => picked_any q 4 w wq (by decide) (by decide)
  obtain ⟨k, hk⟩ : ∃ k : Nat, pickedOf q 4 = k := ⟨(pickedOf q 4).toNat, by omega⟩
  rw [hk] at H1 p1
  have hk4 : k < 4 := by omega
  clear hk p1
  have HM := fun w => make_yes (newF 4) zeroF k 0 w new_ok hk4 (by omega) (newF_at k hk4)
  have R0 : Rs k (dput (newF 4) k 0) (dput zeroF k 1) 0 1 0 := ⟨new_ok.put k 0 1 (by omega) (by omega), dput_self _ _ _, dput_self _ _ _, by omega, by omega, fun j hj hjk => by rw [dput_other _ _ _ _ hjk]; exact newF_at j hj⟩
  generalize dput (newF 4) k 0 = n1 at HM R0
  generalize dput zeroF k 1 = e1 at HM R0
  go_enter Try.func9, Try.ntmps9
  go_upto_region 4 with (first
    | (go_at_call 25; refine (H1 _).mono ?_; rintro r w1 ⟨rfl, rfl⟩)
    | (go_at_call 17; refine (new_any _).mono ?_; rintro r w1 ⟨rfl, b1⟩)
    | (go_at_call 21; refine (HM _).mono ?_; rintro r w2 ⟨rfl, b2⟩))
  obtain ⟨o, ho⟩ : ∃ o : Nat, ((k : Int) + 1) % 4 = o := ⟨(((k : Int) + 1) % 4).toNat, by omega⟩
  rw [ho]
  have ho4 : o < 4 := by omega
  have hok : ¬ o = k := by omega
  clear ho
  have D0 := dirBlock.new w2 n1 e1
  have B0 : Below w.heap.size w (w2.alloc (.cells (dirCells n1 e1) 26)) := Below.next (Below.next b1 b2) (below1 _ _)
  obtain ⟨W2, hW2⟩ : ∃ W2, W2 = w2.alloc (.cells (dirCells n1 e1) 26) := ⟨_, rfl⟩
  rw [← hW2] at D0 B0 ⊢
  obtain ⟨R, hR⟩ : ∃ R, R = w2.heap.size := ⟨_, rfl⟩
  have hRw : w.heap.size ≤ R := by rw [hR]; exact Nat.le_trans b1.size b2.size
  rw [← hR] at D0 ⊢
  clear hR hW2 b1 b2 HM H1
  go_upto_region 7 with fail
  go_loopw [9, 10, 11] (fun ep at' i wr => ∃ (m : Nat) (n e : Nat → Int) (x y : Int), m ≤ len ∧ m ≤ 20 ∧ i = .int .i64 m ∧ ep = .int .i64 y ∧ at' = .int .i64 x ∧ dirBlock wr R n e ∧ Hid (Rs k n e x y m) ∧ Below w.heap.size w wr) (fun _ _ i _ => len - (intOf i).toNat)
  case atStart => exact ⟨0, n1, e1, 0, 1, Nat.zero_le _, by omega, rfl, rfl, rfl, D0, veil R0, B0⟩
  case round =>
    obtain ⟨m, n, e, x, y, hml, hm20, rfl, rfl, rfl, Dm, HR, Bm⟩ := hrel
    clear D0 B0 R0
    have rs := unveil HR
    by_cases hlt : m < len ∧ m < 20
    case neg =>
      have hend : (m = len) ∨ (m < len ∧ m = 20) := by omega
      have HW := fun w => where_here n e k w rs.ok hk4 (by rw [rs.nk]; have := rs.x0; omega)
      rw [rs.nk, rs.ek] at HW
      have HO := fun w => where_none n e o w rs.ok ho4 (rs.off o ho4 hok)
      have HC := fun w => dcheck_yes n e w rs.ok
      clear rs HR hlt
      obtain ⟨c0, c1, c2, c3, c4, c5, c6, c7⟩ := Dm.cells
      have hRl := Dm.lt
      have HD := veil Dm
      clear Dm
      rcases hend with rfl | ⟨h1, rfl⟩
      all_goals
        go_wp2_with (first
          | (go_at_call 19; refine (HW _).mono ?_; rintro r w5 ⟨rfl, b5⟩; clear HW c0 c1 c2 c3 c4 c5 c6 c7; have D5 := (unveil HD).next b5; obtain ⟨c0, c1, c2, c3, c4, c5, c6, c7⟩ := D5.cells; have hl5 := D5.lt; have hn5 : R ≠ w5.heap.size := (by omega); have HD5 := veil D5; clear D5)
          | (go_at_call 19; refine (HO _).mono ?_; rintro r w6 ⟨rfl, b6⟩; clear HO c0 c1 c2 c3 c4 c5 c6 c7; have D6 := ((unveil HD5).next (below1 w5 (.cells #[.int .i64 x, .int .i64 y] 23))).next b6; obtain ⟨c0, c1, c2, c3, c4, c5, c6, c7⟩ := D6.cells; have hl6 := D6.lt; have hn6 : R ≠ w6.heap.size := (by omega); have P6 := (pl_new w5 x y).next b6; obtain ⟨p0, p1⟩ := P6.cells; have hl7 := P6.lt; have hn7 : w5.heap.size ≠ w6.heap.size := (by omega); clear D6 P6)
          | (go_at_call 15; refine (HC _).mono ?_; rintro r w7 ⟨rfl, b7⟩))
        go_ret
        exact ⟨by simp, Below.next (Below.next (Below.next (Below.next (Below.next Bm b5) (below1 _ _)) b6) (below1 _ _)) b7⟩
    case pos =>
      obtain ⟨h1, h2⟩ := hlt
      obtain ⟨b, off, rfl⟩ := h.form (by omega)
      have hx := (h.below Bm).at m (by omega)
      have hxw : (Lit.int .i64 (l.getD m 0)).wf = true := getD_fit l h.wf _
      have pt := pickedOf_range (l.getD m 0) 5 (by decide)
      have HT := fun w => picked_any (l.getD m 0) 5 w hxw (by decide) (by decide)
      generalize pickedOf (l.getD m 0) 5 = t at pt HT
      generalize l.getD m 0 = z at hx HT
      clear hxw
      obtain ⟨c0, c1, c2, c3, c4, c5, c6, c7⟩ := Dm.cells
      have hRl := Dm.lt
      by_cases htx : t = x
      · have HF := fun w => flip_no n e k y t 8 w rs.ok hk4 (by rw [rs.nk]; have := rs.x0; omega) (by rw [rs.nk, rs.ek]; exact goOf_same (by omega) rfl htx.symm) (by decide)
        subst htx
        have HD := veil Dm
        clear rs Dm
        go_wp2_with (first
          | (go_at_call 25; refine (HT _).mono ?_; rintro r w1 ⟨rfl, rfl⟩)
          | (go_at_call 23; refine (HF _).mono ?_; rintro r w3 ⟨rfl, b3⟩; clear HF c0 c1 c2 c3 c4 c5 c6 c7 hx))
        go_roundw
        case rel => exact ⟨m + 1, n, e, t, y, by omega, by omega, by go_num, rfl, rfl, ((unveil HD).next b3).next (below1 _ _), veil (unveil HR).keep, Below.next (Below.next Bm b3) (below1 _ _)⟩
        case measure => simp [intOf]; omega
      · have HF := fun w => flip_yes n e k y t w rs.ok hk4 (by rw [rs.nk]; have := rs.x0; omega) (by rw [rs.nk, rs.ek]; exact goOf_yes (by omega) rfl (fun h => htx h.symm) (by have := rs.y0; omega))
        rw [rs.ek] at HF
        have R1 := rs.put t (by omega) h2
        generalize dput n k t = n' at HF R1
        generalize dput e k (y + 1) = e' at HF R1
        have hw : IntKind.i64.wrap (y + 1) = y + 1 := by have := rs.y0; rw [IntKind.wrap_i64]; omega
        have HD := veil Dm
        have HR1 := veil R1
        clear rs Dm R1
        go_upto_region 16 with (first
          | (go_at_call 25; refine (HT _).mono ?_; rintro r w1 ⟨rfl, rfl⟩)
          | (go_at_call 23; refine (HF _).mono ?_; rintro r w3 ⟨rfl, b3⟩; clear HF c0 c1 c2 c3 c4 c5 c6 c7 hx))
        have D4 := ((unveil HD).next b3).next (below1 w3 (.cells (dirCells n' e') 26))
        have N4 := dirBlock.new w3 n' e'
        have B4 : Below w.heap.size w (w3.alloc (.cells (dirCells n' e') 26)) := Below.next (Below.next Bm b3) (below1 _ _)
        have hne : R ≠ w3.heap.size := by have := ((unveil HD).next b3).lt; omega
        obtain ⟨W4, hW4⟩ : ∃ W4, W4 = w3.alloc (.cells (dirCells n' e') 26) := ⟨_, rfl⟩
        rw [← hW4] at D4 N4 B4 ⊢
        obtain ⟨R4, hR4⟩ : ∃ R4, R4 = w3.heap.size := ⟨_, rfl⟩
        rw [← hR4] at N4 hne ⊢
        clear hW4 hR4 b3
        obtain ⟨c0, c1, c2, c3, c4, c5, c6, c7⟩ := N4.cells
        obtain ⟨u0, u1, u2, u3, u4, u5, u6, u7⟩ := D4.cells
        have uf := D4.free
        have HD4 := veil D4
        clear D4 N4
        go_wp2
        obtain ⟨W5, hW5, D5, B5⟩ := dir_stored (unveil HD4) B4 hRw n' e'
        rw [← hW5]
        go_roundw
        case rel => exact ⟨m + 1, n', e', t, y + 1, by omega, by omega, by go_num, rfl, rfl, D5, HR1, B5⟩
        case measure => simp [intOf]; omega
end Go.Proofs.Ytkeipknbcjkomab
