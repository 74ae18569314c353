/- The walk of a desk's publish where nothing changes. -/
import Derived.Test.YtcdopnkabbfooaaGreatQuV
import Derived.Test.YtcdopnkabbfooaaGreatWdE
namespace Go.Proofs.YtcdopnkabbfooaaGreat
open Go.RowKit

theorem ret_publish {W : World} {R : Nat} {c he no bd : Int} {b : Bool} {tmps : Array Value} (h : ansBlock W R c he no bd) (t : tmps[4]? = some (.pointer (some ⟨R, 0, none⟩))) (tb : tmps[5]? = some (.bool b)) :
    (results Tryz.f96 tmps).run Tryz.prog W = .ok (.tuple #[ansVal c he no bd, .bool b]) W := by
  obtain ⟨k0, k1, k2, k3⟩ := h.cells
  simp [results, Tryz.results96, go_sem, k0, k1, k2, k3, t, tb]
/-- a window of a desk, cell by cell. -/
theorem dBlock.win {w : World} {B : Nat} {ep nx gv : Int} {r l : Value} {ws : Nat → Value} {wt : Nat → Int} {wz : Nat → Nat → Bool} (h : dBlock w B ep nx gv r l ws) (hW : Wins ws wt wz) (P : Nat) (hP : P < 4) :
    (w.cell? ⟨B, 5 + P * 9, none⟩ = some (.int .i64 (wt P)) ∧ w.cell? ⟨B, 5 + P * 9 + 1, none⟩ = some (.bool (wz P 0)) ∧ w.cell? ⟨B, 5 + P * 9 + 2, none⟩ = some (.bool (wz P 1)) ∧ w.cell? ⟨B, 5 + P * 9 + 3, none⟩ = some (.bool (wz P 2)) ∧ w.cell? ⟨B, 5 + P * 9 + 4, none⟩ = some (.bool (wz P 3))) ∧
    (w.cell? ⟨B, 5 + P * 9 + 5, none⟩ = some (.bool (wz P 4)) ∧ w.cell? ⟨B, 5 + P * 9 + 6, none⟩ = some (.bool (wz P 5)) ∧ w.cell? ⟨B, 5 + P * 9 + 7, none⟩ = some (.bool (wz P 6)) ∧ w.cell? ⟨B, 5 + P * 9 + 8, none⟩ = some (.bool (wz P 7))) := by
  have kc : ∀ j, j < 9 → w.cell? ⟨B, 5 + P * 9 + j, none⟩ = some (ws (9 * P + j)) := fun j hj => by
    rw [h.at, show 5 + P * 9 + j = 5 + (9 * P + j) by omega, qCells_ws _ _ _ _ _ _ _ (by omega)]
  obtain ⟨e0, e1⟩ := hW P hP
  refine ⟨⟨?_, ?_, ?_, ?_, ?_⟩, ?_, ?_, ?_, ?_⟩
  · rw [← e0]; exact kc 0 (by omega)
  · rw [← e1 0 (by omega)]; exact kc 1 (by omega)
  · rw [← e1 1 (by omega)]; exact kc 2 (by omega)
  · rw [← e1 2 (by omega)]; exact kc 3 (by omega)
  · rw [← e1 3 (by omega)]; exact kc 4 (by omega)
  · rw [← e1 4 (by omega)]; exact kc 5 (by omega)
  · rw [← e1 5 (by omega)]; exact kc 6 (by omega)
  · rw [← e1 6 (by omega)]; exact kc 7 (by omega)
  · rw [← e1 7 (by omega)]; exact kc 8 (by omega)
theorem below_drew (w : World) : Below w.heap.size w w.drew := ⟨rfl, rfl, rfl, Nat.le_refl _, fun _ _ => rfl⟩
theorem below_drew2 (w : World) (o : Obj) : Below w.heap.size w (w.drew.alloc o) := Below.next (below_drew w) (below1 _ _)
theorem below_drew1 (w : World) (o : Obj) : Below w.heap.size w (w.alloc o).drew := Below.next (below1 w o) (below_drew _)
/-- a window that the call has made, behind a cut. -/
structure Won (w wx : World) (X : Nat) (t : Int) (s : Nat → Bool) : Prop where
  win : winBlock wx X t s
  bel : Below w.heap.size w wx
  up : w.heap.size ≤ X
theorem dBlock.drew {w : World} {B : Nat} {ep nx gv : Int} {r l : Value} {ws : Nat → Value} (h : dBlock w B ep nx gv r l ws) : dBlock w.drew B ep nx gv r l ws := h
theorem _root_.Go.Proofs.YtcdopnkabbfooaaGreat.winBlock.turned {w w' : World} {R R' : Nat} {t : Int} {s : Nat → Bool} (h : winBlock w R t s) (T : Turned R' w w') (hR : R ≠ R') : winBlock w' R t s := by
  unfold winBlock at h ⊢; rw [T.block R hR]; exact h
theorem Won.next {w wx wy : World} {X : Nat} {t : Int} {s : Nat → Bool} (h : Won w wx X t s) (hb : Below wx.heap.size wx wy) : Won w wy X t s := ⟨h.win.next hb, Below.next h.bel hb, h.up⟩
theorem Won.old {w w3 : World} {t : Int} {s s0 : Nat → Bool} {t0 : Int} (rz : winBlock w3 w.heap.size t0 s0) (b3 : Below w.heap.size w w3) : Won w (winStore w3 w.heap.size t s) w.heap.size t s :=
  ⟨rz.store t s, winStore_below b3 _ (Nat.le_refl _) t s, Nat.le_refl _⟩
theorem Won.new {w w3 : World} {t : Int} {s : Nat → Bool} (b3 : Below w.heap.size w w3) : Won w (w3.alloc (.cells (winCells t s) 89)) w3.heap.size t s :=
  ⟨winBlock.new w3 t s, Below.next b3 (below1 _ _), b3.size⟩

set_option maxRecDepth 20000 in
set_option maxHeartbeats 8000000 in
theorem publish_any (base B P : Nat) (ep nx gv : Int) (a1 : Option Addr) (rn c1 : Nat) (a2 : Option Addr) (ln c2 : Nat) (R L : List Int) (ws : Nat → Value) (wt : Nat → Int) (wz : Nat → Nat → Bool) (k i b he hn : Int) (w : World) (D : Desk w base B ep nx gv a1 rn c1 a2 ln c2 R L ws) (hW : Wins ws wt wz) (hbase : base ≤ w.heap.size) (hP : P < 4) (hs : rn + ln ≤ 500) (n0 : 0 ≤ nx) (n1 : nx ≤ 1073741824) (wb : (Lit.int .i64 b).wf = true)
    (t' : Int) (s' : Nat → Bool) (fr : Bool) (rf : Int) (TK : ∀ w, Calls Tryz.prog 109 #[winVal (wt P) (wz P), .int .i64 i] w fun e w' => e = .returned (.tuple #[winVal t' s', .bool fr, .int .i64 rf]) ∧ Below w.heap.size w w')
    (Q : Value → World → Prop) (HN : Hid (((¬ rf = 0) ∨ (rf = 0 ∧ fr = false)) → ∀ w', Below w.heap.size w w' → Q (.tuple #[ansVal rf 0 0 0, .bool false]) w'))
    (HF : Hid ((rf = 0 ∧ fr = true) → (500 ≤ rn + ln ∨ nx = 1073741824) → ∀ w', Below w.heap.size w w' → Q (.tuple #[ansVal 14 0 0 0, .bool false]) w'))
    (HY : Hid ((rf = 0 ∧ fr = true) → rn + ln < 500 → nx < 1073741824 → ∀ w', DeskOut w' base B ep (nx + 1) gv (rn + 1) (R ++ [nx, b]) ln L (tput wt P t') (tput wz P s') → Below base w w' → Q (.tuple #[ansVal 0 0 0 0, .bool true]) w')) :
    Calls Tryz.prog 96 #[.pointer (some ⟨B, 0, none⟩), evVal k P i b he hn] w fun e w' => ∃ v, e = .returned v ∧ Q v w' := by
  go_enter Tryz.func96, Tryz.ntmps96
  go_wp2_with fail
  obtain ⟨W2, hW2, z2, b2, s2, ev2⟩ := two_ev w k P i b he hn
  rw [← hW2]
  clear hW2
  have D2 := D.next b2
  obtain ⟨⟨m0, m1, m2, m3, m4⟩, m5, m6, m7, m8⟩ := D2.d.win hW P hP
  have v1 : W2.cell? ⟨w.heap.size, 1, none⟩ = some (.int .i64 P) := by simp [World.cell?, ev2]
  have v2 : W2.cell? ⟨w.heap.size, 2, none⟩ = some (.int .i64 i) := by simp [World.cell?, ev2]
  have hBl := D2.d.lt
  have hwl : w.heap.size < W2.heap.size := by omega
  have hBn : B ≠ W2.heap.size := by omega
  have hwn : w.heap.size ≠ W2.heap.size := by omega
  have hBn' : W2.heap.size ≠ B := by omega
  have hwn' : W2.heap.size ≠ w.heap.size := by omega
  have hPi : (P : Int) < 4 := by omega
  have HC : Hid (∀ w3, Below W2.heap.size W2 w3 → ((w3.cell? ⟨w.heap.size, 1, none⟩ = some (.int .i64 P) ∧ w3.cell? ⟨w.heap.size, 2, none⟩ = some (.int .i64 i)) ∧
      (w3.cell? ⟨B, 5 + P * 9, none⟩ = some (.int .i64 (wt P)) ∧ w3.cell? ⟨B, 5 + P * 9 + 1, none⟩ = some (.bool (wz P 0)) ∧ w3.cell? ⟨B, 5 + P * 9 + 2, none⟩ = some (.bool (wz P 1)) ∧ w3.cell? ⟨B, 5 + P * 9 + 3, none⟩ = some (.bool (wz P 2)) ∧ w3.cell? ⟨B, 5 + P * 9 + 4, none⟩ = some (.bool (wz P 3))) ∧
      (w3.cell? ⟨B, 5 + P * 9 + 5, none⟩ = some (.bool (wz P 4)) ∧ w3.cell? ⟨B, 5 + P * 9 + 6, none⟩ = some (.bool (wz P 5)) ∧ w3.cell? ⟨B, 5 + P * 9 + 7, none⟩ = some (.bool (wz P 6)) ∧ w3.cell? ⟨B, 5 + P * 9 + 8, none⟩ = some (.bool (wz P 7))))) :=
    veil fun w3 hb => ⟨⟨(hb.cell (p := ⟨w.heap.size, 1, none⟩) hwl).trans v1, (hb.cell (p := ⟨w.heap.size, 2, none⟩) hwl).trans v2⟩, (D2.d.next hb).win hW P hP⟩
  have RZ : Hid (winBlock (W2.alloc (.cells #[.int .i64 0, .bool false, .bool false, .bool false, .bool false, .bool false, .bool false, .bool false, .bool false] 89)).drew W2.heap.size 0 noneS) := veil (winBlock.new W2 0 noneS)
  have HZ2 := veil z2
  have HB2 := veil b2
  have HS2 := veil s2
  have hBw : B < w.heap.size := D.d.lt
  have HE2 := veil ev2
  have HD2 := veil D2
  clear D D2 z2 b2 s2 ev2
  go_cut [6, 7, 8] (fun p6 p7 p8 wx => ∃ X, p6 = .pointer (some ⟨X, 0, none⟩) ∧ p7 = .bool fr ∧ p8 = .int .i64 rf ∧ Won W2 wx X t' s')
  case first =>
    first | go_region_with
      (first | (go_at_call 109; refine (TK _).mono ?_; rintro e w3 ⟨rfl, bb⟩; first | (have b3 : Below W2.heap.size W2 w3 := (by with_reducible exact Below.next (below_drew _) bb); obtain ⟨⟨q0, q1⟩, ⟨q2, q3, q4, q5, q6⟩, q7, q8, q9, q10⟩ := unveil HC w3 b3; have hb3 := b3.size; have hB3 : B ≠ w3.heap.size := (by omega); have hw3 : w.heap.size ≠ w3.heap.size := (by omega); have hB3l : B < w3.heap.size := (by omega); have hw3l : w.heap.size < w3.heap.size := (by omega); have HB3 := veil b3; clear bb b3 hb3) | (have b3 : Below W2.heap.size W2 w3 := (by first | with_reducible exact Below.next (below_drew1 _ _) bb | with_reducible exact Below.next (below_drew2 _ _) bb | exact Below.next (below_drew1 _ _) bb); have rz : winBlock w3 W2.heap.size 0 noneS := (unveil RZ).next bb; have rzf := rz.free; obtain ⟨y0, y1, y2, y3, y4, y5, y6, y7, y8⟩ := rz.cells; obtain ⟨⟨q0, q1⟩, ⟨q2, q3, q4, q5, q6⟩, q7, q8, q9, q10⟩ := unveil HC w3 b3; have HB3 := veil b3; have HRZ := veil rz; clear bb b3 rz))) | fail
    all_goals (try go_wp2_with fail)
    all_goals go_meet
    all_goals refine ⟨_, rfl, rfl, rfl, ?_⟩
    all_goals first | with_reducible exact Won.old (unveil HRZ) (unveil HB3) | with_reducible exact Won.new (unveil HB3)
  case rest =>
    obtain ⟨X, rfl, rfl, rfl, PW⟩ := hcut
    have HZC := veil ((unveil HZ2).next PW.bel)
    have HBC := veil (Below.next (unveil HB2) PW.bel)
    have DC := (unveil HD2).next PW.bel
    have HPW := veil PW
    clear PW
    clear HZ2 HB2 HC RZ HS2 HD2
    go_step
    go_step
    by_cases hr : rf = 0
    case neg =>
      go_wp2_with (go_at_call 110; refine (unchanged_any _ _).mono ?_; rintro e w1 ⟨rfl, b1⟩; have z1 := (unveil HZC).next b1; have b2 := Below.next (unveil HBC) b1; obtain ⟨y0, y1, y2, y3⟩ := z1.cells; have yf := z1.free; have HZ := veil z1; have HB := veil b2; clear b1 z1 b2)
      exact bodyPost_ret (ret_publish ((unveil HZ).store _ 0 0 0) rfl rfl) rfl ⟨_, rfl, unveil HN (Or.inl hr) _ ((ans_turned w1 (w.heap.size + 1) _ 0 0 0).under (unveil HB) (Nat.le_succ _))⟩
    case pos =>
    subst hr
    cases fr
    case false =>
      go_wp2_with (go_at_call 110; refine (unchanged_any _ _).mono ?_; rintro e w1 ⟨rfl, b1⟩; have z1 := (unveil HZC).next b1; have b2 := Below.next (unveil HBC) b1; obtain ⟨y0, y1, y2, y3⟩ := z1.cells; have yf := z1.free; have HZ := veil z1; have HB := veil b2; clear b1 z1 b2)
      exact bodyPost_ret (ret_publish ((unveil HZ).store _ 0 0 0) rfl rfl) rfl ⟨_, rfl, unveil HN (by simp) _ ((ans_turned w1 (w.heap.size + 1) _ 0 0 0).under (unveil HB) (Nat.le_succ _))⟩
    case true =>
    have qb := DC.d
    obtain ⟨d0, d1, d2, d3, d4⟩ := qb.heads
    have HDC := veil DC
    clear DC
    by_cases hf : (500 : Int) ≤ (rn : Int) + (ln : Int)
    case pos =>
      go_wp2_with (first | (refine d_loads _ rfl rfl rfl (by assumption) ?_) | (go_at_call 105; refine (qcount_any _ _ _ _ _ _ _ _ _ _ _ (by omega)).mono ?_; rintro e w5 ⟨rfl, b5⟩; have HD5 := veil ((unveil HDC).next b5); obtain ⟨x0, x1, x2, x3, x4⟩ := (unveil HD5).d.heads; have HZ5 := veil ((unveil HZC).next b5); have HB5 := veil (Below.next (unveil HBC) b5); have HPW5 := veil ((unveil HPW).next b5); clear b5) | (go_at_call 110; refine (unchanged_any _ _).mono ?_; rintro e w1 ⟨rfl, b1⟩; have z1 := (unveil HZ5).next b1; have b2 := Below.next (unveil HB5) b1; obtain ⟨y0, y1, y2, y3⟩ := z1.cells; have yf := z1.free; have HZ := veil z1; have HB := veil b2; clear b1 z1 b2))
      exact bodyPost_ret (ret_publish ((unveil HZ).store _ 0 0 0) rfl rfl) rfl ⟨_, rfl, unveil HF (by simp) (Or.inl (by omega)) _ ((ans_turned w1 (w.heap.size + 1) _ 0 0 0).under (unveil HB) (Nat.le_succ _))⟩
    case neg =>
    have hfd : decide ((500 : Int) ≤ (rn : Int) + (ln : Int)) = false := by simp; omega
    by_cases hm : nx = 1073741824
    case pos =>
      go_wp2_with (first | (refine d_loads _ rfl rfl rfl (by assumption) ?_) | (go_at_call 105; refine (qcount_any _ _ _ _ _ _ _ _ _ _ _ (by omega)).mono ?_; rintro e w5 ⟨rfl, b5⟩; have HD5 := veil ((unveil HDC).next b5); obtain ⟨x0, x1, x2, x3, x4⟩ := (unveil HD5).d.heads; have HZ5 := veil ((unveil HZC).next b5); have HB5 := veil (Below.next (unveil HBC) b5); have HPW5 := veil ((unveil HPW).next b5); clear b5) | (go_at_call 110; refine (unchanged_any _ _).mono ?_; rintro e w1 ⟨rfl, b1⟩; have z1 := (unveil HZ5).next b1; have b2 := Below.next (unveil HB5) b1; obtain ⟨y0, y1, y2, y3⟩ := z1.cells; have yf := z1.free; have HZ := veil z1; have HB := veil b2; clear b1 z1 b2))
      exact bodyPost_ret (ret_publish ((unveil HZ).store _ 0 0 0) rfl rfl) rfl ⟨_, rfl, unveil HF (by simp) (Or.inr hm) _ ((ans_turned w1 (w.heap.size + 1) _ 0 0 0).under (unveil HB) (Nat.le_succ _))⟩
    case neg =>
    go_wp2_with (first | (refine d_loads _ rfl rfl rfl (by assumption) ?_) | (go_at_call 105; refine (qcount_any _ _ _ _ _ _ _ _ _ _ _ (by omega)).mono ?_; rintro e w5 ⟨rfl, b5⟩; have HD5 := veil ((unveil HDC).next b5); obtain ⟨x0, x1, x2, x3, x4⟩ := (unveil HD5).d.heads; have HZ5 := veil ((unveil HZC).next b5); have HB5 := veil (Below.next (unveil HBC) b5); have HPW5 := veil ((unveil HPW).next b5); clear b5))
    have hX : W2.heap.size ≤ X := (unveil HPW5).up
    have hXB : X ≠ B := by omega
    have hwB : w.heap.size ≠ B := by omega
    have e5 : w5.heap[w.heap.size]? = _ := (((unveil HPW5).bel).block w.heap.size hwl).trans (unveil HE2)
    have HE5 := veil e5
    have HT : Hid (∀ w', Turned B w5 w' → (w'.cell? ⟨w.heap.size, 1, none⟩ = some (.int .i64 P) ∧ (w'.cell? ⟨X, 0, none⟩ = some (.int .i64 t') ∧ w'.cell? ⟨X, 1, none⟩ = some (.bool (s' 0)) ∧ w'.cell? ⟨X, 2, none⟩ = some (.bool (s' 1)) ∧ w'.cell? ⟨X, 3, none⟩ = some (.bool (s' 2)) ∧ w'.cell? ⟨X, 4, none⟩ = some (.bool (s' 3)) ∧ w'.cell? ⟨X, 5, none⟩ = some (.bool (s' 4)) ∧ w'.cell? ⟨X, 6, none⟩ = some (.bool (s' 5)) ∧ w'.cell? ⟨X, 7, none⟩ = some (.bool (s' 6)) ∧ w'.cell? ⟨X, 8, none⟩ = some (.bool (s' 7))))) := veil fun w' T => by
      have q := ((unveil HPW5).win.turned T hXB).cells
      have e6 : w'.heap[w.heap.size]? = _ := (T.block w.heap.size hwB).trans (unveil HE5)
      exact ⟨by simp [World.cell?, e6], q⟩
    obtain ⟨⟨z0, z1, z2, z3, z4⟩, z5, z6, z7, z8⟩ := (unveil HD5).d.win hW P hP
    have zf := (unveil HD5).d.free
    clear x0 x1 x2 x3 x4 d0 d1 d2 d3 d4 m0 m1 m2 m3 m4 m5 m6 m7 m8 v1 v2 e5
    go_cut [] (fun wx => Turned B w5 wx ∧ dBlock wx B ep nx gv (.slice a1 rn c1) (.slice a2 ln c2) (wwin ws P t' s'))
    case first =>
      obtain ⟨p1, p2, p3, p4, p5, p6, p7, p8, p9, p10⟩ := unveil HT w5 (Turned.refl _ _)
      first | go_region_with (fail) | fail
      all_goals (try go_wp2_with fail)
      all_goals go_meet
      all_goals with_reducible exact ⟨(winInto_turned w5 B (5 + P * 9) t' s').trans (turned_drew B _), dBlock.drew ((unveil HD5).d.winInto P hP t' s')⟩
    case rest =>
      obtain ⟨T6, d6⟩ := hcut
      obtain ⟨W6, h6⟩ : ∃ W6, W6 = wc := ⟨_, rfl⟩
      subst h6
      have C6 : Pc w W6 base B ep nx gv a1 rn c1 R a2 ln c2 L (wwin ws P t' s') (w.heap.size + 1) :=
        ⟨d6, T6.owns (unveil HD5).o1 (unveil HD5).off1, T6.owns (unveil HD5).o2 (unveil HD5).off2, (unveil HZ5).turned T6 (by omega), T6.under ((unveil HB5).mono hbase) (unveil HD5).up, (unveil HD5).up⟩
      have e6 : W6.heap[w.heap.size]? = _ := (T6.block w.heap.size hwB).trans (unveil HE5)
      have v3 : W6.cell? ⟨w.heap.size, 3, none⟩ = some (.int .i64 b) := by simp [World.cell?, e6]
      have hlw : w.heap.size < W6.heap.size := block_lt e6
      have hwR : Hid (∀ u ∈ R ++ [nx, b], (Lit.int .i64 u).wf = true) := veil (by
        intro u hu
        rcases List.mem_append.1 hu with hu | hu
        · exact (unveil HD5).wR u hu
        · simp only [List.mem_cons, List.not_mem_nil, or_false] at hu
          rcases hu with rfl | rfl
          · exact wf_in (by omega) (by omega)
          · exact wb)
      have hwL : Hid (∀ u ∈ L, (Lit.int .i64 u).wf = true) := veil (unveil HD5).wL
      clear z0 z1 z2 z3 z4 z5 z6 z7 z8 zf HT HE5 HD5 HZ5 HB5 HPW5 HDC HZC HBC HPW HE2 T6 d6 e6 qb
      obtain ⟨i1, hi1, hz10, hz11, hz12⟩ := info_of Tryz.infoMsg
      obtain ⟨d0, d1, d2, d3, d4⟩ := C6.d.heads
      have df := C6.d.free
      have lB := C6.d.lt
      have nB : B ≠ W6.heap.size := by omega
      have nw : w.heap.size ≠ W6.heap.size := by omega
      have hb6 : base ≤ W6.heap.size := by omega
      have b7 : Below W6.heap.size W6 (W6.alloc (.cells #[.int .i64 nx, .int .i64 b] 131)).drew := Below.next (below1 _ _) ⟨rfl, rfl, rfl, Nat.le_refl _, fun _ _ => rfl⟩
      have HO7 : Hid ((W6.alloc (.cells #[.int .i64 nx, .int .i64 b] 131)).drew.ownsRow base 131 2 (.slice a1 rn c1) rn (R.map (Value.int .i64))) := veil (own_still C6.o1 (fun q _ hq => b7.block q hq))
      have HC6 := veil C6
      have HB7 := veil b7
      clear C6 b7
      go_wp2_with fail
      go_cut [] (fun wx => ∃ a3 c3, Pc w wx base B ep nx gv a3 (rn + 1) c3 (R ++ [nx, b]) a2 ln c2 L (wwin ws P t' s') (w.heap.size + 1))
      case first =>
        go_region_law (refine step_append_many rfl (.tmp 64) (.tmp 73) 85 rfl base 131 i1 _ 2 16 Tryz.underlying85 hi1 hz10 hz11 hz12 rfl (by decide) (.slice a1 rn c1) rn R rfl (unveil HO7) ⟨W6.heap.size, 0, none⟩ 1 1 [nx, b] rfl rfl (news2 _ _ _ _) (by unfold maxLen; omega) (by omega) (by simp; omega) ?_; intro v' w7 own7 grow7; obtain ⟨a3, c3, rfl⟩ := own_form own7; obtain ⟨e7, C7⟩ := (unveil HC6).ready (unveil HB7) grow7 [nx, b] hb6 own7; have k3 := e7.heads.2.2.2.1; have f3 := e7.free; have HC7 := veil C7; clear C7 e7 own7 grow7)
        all_goals (try go_wp2_with fail)
        all_goals go_meet
        all_goals exact ⟨_, _, unveil HC7⟩
      case rest =>
        obtain ⟨a3, c3, C8⟩ := hcut
        obtain ⟨W8, h8⟩ : ∃ W8, W8 = wc := ⟨_, rfl⟩
        subst h8
        clear d0 d1 d2 d3 d4 df lB nB nw hb6 HO7 HC6 HB7 v3 hlw
        obtain ⟨d0, d1, d2, d3, d4⟩ := C8.d.heads
        have df := C8.d.free
        obtain ⟨y0, y1, y2, y3⟩ := C8.a.cells
        have yf := C8.a.free
        have nA : w.heap.size + 1 ≠ B := types_apart C8.a C8.d (by decide)
        have HC8 := veil C8
        clear C8
        go_wp2
        have C9 := (unveil HC8).turn (Turned.set B 1 W8 (.int .i64 (nx + 1))) ((unveil HC8).d.nexts (nx + 1))
        obtain ⟨D9, B9⟩ := C9.out (hW.put P t' s') (unveil hwR) (unveil hwL) (by omega) 0 0 0 0
        exact bodyPost_ret (ret_publish (C9.a.store 0 0 0 0) rfl rfl) rfl ⟨_, rfl, unveil HY (by simp) (by omega) (by omega) _ D9 B9⟩
end Go.Proofs.YtcdopnkabbfooaaGreat
