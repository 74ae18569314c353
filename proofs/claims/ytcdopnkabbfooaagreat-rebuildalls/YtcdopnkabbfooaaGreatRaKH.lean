/- Texts put together: RqK, RqH. -/
import Derived.Test.YtcdopnkabbfooaaGreatRaSeen
namespace Go.Proofs.YtcdopnkabbfooaaGreat
open Go.RowKit

theorem qBlock.wset {w : World} {B : Nat} {ep nx gv : Int} {r l : Value} {ws : Nat → Value} (h : qBlock w B ep nx gv r l ws) (o j : Nat) (v : Value) (ho : o = 5 + j) (hj : j < 36) : qBlock (w.setCell ⟨B, o, none⟩ v) B ep nx gv r l (wput ws j v) := by
  have := heap_set (o := o) (v := v) h
  unfold qBlock
  rw [this, ho, qCells_wset _ _ _ _ _ _ _ _ hj]
theorem qBlock.winInto {w : World} {B : Nat} {ep nx gv : Int} {r l : Value} {ws : Nat → Value} (h : qBlock w B ep nx gv r l ws) (P : Nat) (hP : P < 4) (t : Int) (s : Nat → Bool) : qBlock (winInto w B (5 + P * 9) t s) B ep nx gv r l (wwin ws P t s) :=
  ((((((((h.wset _ (9 * P) _ (by omega) (by omega)).wset _ (9 * P + 1) _ (by omega) (by omega)).wset _ (9 * P + 2) _ (by omega) (by omega)).wset _ (9 * P + 3) _ (by omega) (by omega)).wset _ (9 * P + 4) _ (by omega) (by omega)).wset _ (9 * P + 5) _ (by omega) (by omega)).wset _ (9 * P + 6) _ (by omega) (by omega)).wset _ (9 * P + 7) _ (by omega) (by omega)).wset _ (9 * P + 8) _ (by omega) (by omega)
theorem win_loads {ops : Array Oper} {rest : List Oper} {o : Oper} {a : Act} {Q : Exit → Act → World → Prop} {w : World} {R : Nat} {t : Int} {s : Nat → Bool} (x : Operand) (ho : o.op = .load 89 x) (hw : Region.wanted o (yielded ops a.tmps) = true) (hx : a.eval x = .pointer (some ⟨R, 0, none⟩)) (wb : winBlock w R t s)
    (h : wpList Tryz.prog ops Q rest (a.put o.dst (winVal t s)) w) : wpList Tryz.prog ops Q (o :: rest) a w :=
  wpList_step fun K hK => by
    rw [if_pos hw]
    exact wp_load_row 89 x ho R hx 89 _ (0, 0) _ wb Tryz.underlying89 rfl (by kernel_rfl) (hK _ _ h)
theorem setCells_win (w : World) (B o : Nat) (t : Int) (s : Nat → Bool) : w.setCells B o [.int .i64 t, .bool (s 0), .bool (s 1), .bool (s 2), .bool (s 3), .bool (s 4), .bool (s 5), .bool (s 6), .bool (s 7)] = winInto w B o t s := by
  simp only [World.setCells, winInto, Nat.add_assoc, Nat.reduceAdd]
theorem win_into {ops : Array Oper} {rest : List Oper} {o : Oper} {a : Act} {Q : Exit → Act → World → Prop} {w : World} {B : Nat} {ep nx gv t : Int} {r l : Value} {ws : Nat → Value} {s : Nat → Bool} (P : Nat) (hP : P < 4) (x y : Operand) (ho : o.op = .store 89 x y) (hw : Region.wanted o (yielded ops a.tmps) = true) (hx : a.eval x = .pointer (some ⟨B, 5 + P * 9, none⟩)) (hy : a.eval y = winVal t s) (qb : qBlock w B ep nx gv r l ws)
    (h : ∀ w', qBlock w' B ep nx gv r l (wwin ws P t s) → Turned B w w' → wpList Tryz.prog ops Q rest (a.put o.dst undef) w') : wpList Tryz.prog ops Q (o :: rest) a w :=
  wpList_step fun K hK => by
    rw [if_pos hw]
    exact wp_store_mid 89 x y ho B (5 + P * 9) #[.int .i64 t, .bool (s 0), .bool (s 1), .bool (s 2), .bool (s 3), .bool (s 4), .bool (s 5), .bool (s 6), .bool (s 7)] hx hy (fun j hj => by
      have := qb.there (5 + P * 9 + j) (by have : j < 9 := hj; omega)
      rwa [Nat.zero_add] at this) (by kernel_rfl) (by simp [Value.oneCell']) (by
      show K _ (w.setCells B (5 + P * 9) [.int .i64 t, .bool (s 0), .bool (s 1), .bool (s 2), .bool (s 3), .bool (s 4), .bool (s 5), .bool (s 6), .bool (s 7)])
      rw [setCells_win]
      exact hK _ _ (h _ (qb.winInto P hP t s) (winInto_turned w B (5 + P * 9) t s)))
end Go.Proofs.YtcdopnkabbfooaaGreat

namespace Go.Proofs.YtcdopnkabbfooaaGreat
open Go.RowKit

theorem qBlock.nextNo {wx : World} {X : Nat} {ep nx gv : Int} {r l : Value} {ws : Nat → Value} (h : qBlock wx X ep nx gv r l ws) (y : Int) : qBlock (wx.setCell ⟨X, 1, none⟩ (.int .i64 y)) X ep y gv r l ws := by
  have := heap_set (o := 1) (v := .int .i64 y) h
  unfold qBlock
  rw [this]
  rfl
set_option maxRecDepth 20000 in
set_option maxHeartbeats 60000000 in
theorem queueDone_new (s : St) (ra la : Option Addr) (rc lc : Nat) (ws : Nat → Value) (v : Ev) (w : World) (hR : RowK .i64 w ra (2 * s.rn) s.R) (hL : RowK .i64 w la (4 * s.ln) s.L) (hW : Wins ws s.wt s.wz) (h : s.Ok) (hv : Hid v.Ok) (HK : Hid (v.k = 1)) (P : Nat) (hP : P < 4) (HP : Hid (v.p = P)) (t' : Int) (s' : Nat → Bool)
    (TK : ∀ w, Calls Tryz.prog 90 #[winVal (s.wt P) (s.wz P), .int .i64 v.i] w fun e w' => e = .returned (.tuple #[winVal t' s', .bool true, .int .i64 0]) ∧ Below w.heap.size w w')
    (hr0 : s.rn + s.ln < 500) (hx0 : s.nx < 1073741824) (wb : (Lit.int .i64 v.b).wf = true)
    (HST : Hid (Step s v ⟨s.ep, s.nx + 1, s.gv, s.rn + 1, s.R ++ [s.nx, v.b], s.ln, s.L, tput s.wt P t', tput s.wz P s'⟩ ⟨0, 0, 0, 0⟩ true)) :
    Calls Tryz.prog 84 #[qVal s.ep s.nx s.gv (.slice ra s.rn rc) (.slice la s.ln lc) ws, evIn v] w fun e w' => QdR s v w e w' := by
  obtain ⟨i1, hi1, hz10, hz11, hz12⟩ := info_of Tryz.infoMsg
  have hfb : ((s.rn : Int) + (s.ln : Int) == 500) = false := by simp; omega
  have hxb : (s.nx == 1073741824) = false := by simp; omega
  have hn0 := h.count.n0
  have HC : ∀ w, Calls Tryz.prog 66 #[evIn v] w fun e w' => e = .returned (.int .i64 0) ∧ Below w.heap.size w w' := fun w => by
    have := fault_any v.k v.p v.i v.b v.he v.hn w
    rwa [show eventFault v.k v.p v.i v.b v.he v.hn = 0 from unveil hv] at this
  have hsz := h.count.sz
  have hs : s.rn + s.ln ≤ 9223372036854775807 := by omega
  go_enter Tryz.func84, Tryz.ntmps84
  go_wp2_with (first
    | (refine q_box 2 _ rfl rfl rfl rfl ?_; intro W1 q1 b1)
    | (refine q_alloc 4 rfl rfl rfl ?_; intro W3 z3 b3; have DD := Dos.made q1 b1 z3 b3; have DQ := DD.q; have HDD := veil DD; clear DD z3 b3 q1 b1)
    | (refine q_loads _ rfl rfl rfl (by assumption) ?_)
    | (go_at_call 88; refine (queueFault_yes _ _ _ _ _ _ _ _ _ _ _ _ s.wt s.wz _ (hR.below (unveil HDD).bel) (hL.below (unveil HDD).bel) hW hs h).mono ?_; rintro e W4 ⟨rfl, b4⟩; have D4 := (unveil HDD).next b4; have ev4 := D4.e; have v0 : W4.cell? ⟨W1.heap.size, 0, none⟩ = some (.int .i64 v.k) := (by simp [World.cell?, ev4]); have v1 : W4.cell? ⟨W1.heap.size, 1, none⟩ = some (.int .i64 v.p) := (by simp [World.cell?, ev4]); have v2 : W4.cell? ⟨W1.heap.size, 2, none⟩ = some (.int .i64 v.i) := (by simp [World.cell?, ev4]); have v3 : W4.cell? ⟨W1.heap.size, 3, none⟩ = some (.int .i64 v.b) := (by simp [World.cell?, ev4]); have v4 : W4.cell? ⟨W1.heap.size, 4, none⟩ = some (.int .i64 v.he) := (by simp [World.cell?, ev4]); have v5 : W4.cell? ⟨W1.heap.size, 5, none⟩ = some (.int .i64 v.hn) := (by simp [World.cell?, ev4]); have HD4 := veil D4; clear D4 HDD DQ b4 ev4)
    | (go_at_call 66; refine (HC _).mono ?_; rintro e W5 ⟨rfl, b5⟩; have D5 := (unveil HD4).next b5; have DQ5 := D5.q; have HD5 := veil D5; clear D5 HD4 b5 v0 v1 v2 v3 v4 v5)
    | (go_at_call 89; refine (queueCopy_any _ _ _ _ _ _ _ _ _ s.R s.L ws s.wt s.wz _ (hR.below (unveil HD5).bel) (hL.below (unveil HD5).bel) hW (by omega) (by omega)).mono ?_; rintro e W6 ⟨v1, v2, rfl, o1, o2, b6⟩; obtain ⟨a1, c1, rfl⟩ := own_form o1; obtain ⟨a2, c2, rfl⟩ := own_form o2; have hA5 := (unveil HD5).a.lt; have HO1 := veil (own_lower o1 hA5); have HO2 := veil (own_lower o2 hA5); have HD6 := veil ((unveil HD5).next b6); clear DQ5 o1 o2 b6)
    | (refine q_alloc 9 rfl rfl rfl ?_; intro W7 z7 b7; have HB7 := veil b7; clear b7)
    | (refine q_store _ _ rfl rfl rfl rfl z7 hW ?_; intro W8 q8 t8; have HQ8 := veil (Qd.made (unveil HD6) (unveil HO1) (unveil HO2) (unveil HB7) q8 t8); clear t8 HD6 HO1 HO2 HB7 z7 hA5 HD5; obtain ⟨c0, c1', c2', c3, c4⟩ := (unveil HQ8).d.q.heads; have z8 := (unveil HQ8).d.z; have hups := (unveil HQ8).ups; have u0 : W8.cell? ⟨W1.heap.size, 0, none⟩ = some (.int .i64 (1 : Int)) := (by simp [World.cell?, (unveil HQ8).d.e, unveil HK]); have u1 : W8.cell? ⟨W1.heap.size, 1, none⟩ = some (.int .i64 (P : Int)) := (by simp [World.cell?, (unveil HQ8).d.e, unveil HP]); have u2 : W8.cell? ⟨W1.heap.size, 2, none⟩ = some (.int .i64 v.i) := (by simp [World.cell?, (unveil HQ8).d.e]); have u3 : W8.cell? ⟨W1.heap.size, 3, none⟩ = some (.int .i64 v.b) := (by simp [World.cell?, (unveil HQ8).d.e]); have u4 : W8.cell? ⟨W1.heap.size, 4, none⟩ = some (.int .i64 v.he) := (by simp [World.cell?, (unveil HQ8).d.e]); have u5 : W8.cell? ⟨W1.heap.size, 5, none⟩ = some (.int .i64 v.hn) := (by simp [World.cell?, (unveil HQ8).d.e]); obtain ⟨d0, d1, d2, d3, d4⟩ := q8.heads; have df := q8.free))
  obtain ⟨⟨m0, m1, m2, m3, m4⟩, m5, m6, m7, m8⟩ := (unveil HQ8).d.q.win hW P hP
  obtain ⟨g1, g2, g3, g4, g5⟩ := hups
  have hwl : w.heap.size < W8.heap.size := by omega
  have hwn : w.heap.size ≠ W8.heap.size := by omega
  have hwn' : W8.heap.size ≠ w.heap.size := by omega
  have hEl : W1.heap.size < W8.heap.size := by omega
  have hEn : W1.heap.size ≠ W8.heap.size := by omega
  have hEn' : W8.heap.size ≠ W1.heap.size := by omega
  have hPi : (P : Int) < 4 := by omega
  have HCc : Hid (∀ w3, Below W8.heap.size W8 w3 → ((w3.cell? ⟨W1.heap.size, 1, none⟩ = some (.int .i64 P) ∧ w3.cell? ⟨W1.heap.size, 2, none⟩ = some (.int .i64 v.i)) ∧ (w3.cell? ⟨w.heap.size, 5 + P * 9, none⟩ = some (.int .i64 (s.wt P)) ∧ w3.cell? ⟨w.heap.size, 5 + P * 9 + 1, none⟩ = some (.bool (s.wz P 0)) ∧ w3.cell? ⟨w.heap.size, 5 + P * 9 + 2, none⟩ = some (.bool (s.wz P 1)) ∧ w3.cell? ⟨w.heap.size, 5 + P * 9 + 3, none⟩ = some (.bool (s.wz P 2)) ∧ w3.cell? ⟨w.heap.size, 5 + P * 9 + 4, none⟩ = some (.bool (s.wz P 3))) ∧ (w3.cell? ⟨w.heap.size, 5 + P * 9 + 5, none⟩ = some (.bool (s.wz P 4)) ∧ w3.cell? ⟨w.heap.size, 5 + P * 9 + 6, none⟩ = some (.bool (s.wz P 5)) ∧ w3.cell? ⟨w.heap.size, 5 + P * 9 + 7, none⟩ = some (.bool (s.wz P 6)) ∧ w3.cell? ⟨w.heap.size, 5 + P * 9 + 8, none⟩ = some (.bool (s.wz P 7))))) :=
    veil fun w3 hb => ⟨⟨(hb.cell (p := ⟨W1.heap.size, 1, none⟩) hEl).trans u1, (hb.cell (p := ⟨W1.heap.size, 2, none⟩) hEl).trans u2⟩, ((unveil HQ8).d.q.next hb).win hW P hP⟩
  have RZ : Hid (winBlock (W8.alloc (.cells #[.int .i64 0, .bool false, .bool false, .bool false, .bool false, .bool false, .bool false, .bool false, .bool false] 89)).drew W8.heap.size 0 noneS) := veil (winBlock.new W8 0 noneS)
  clear q8 z8 d0 d1 d2 d3 d4 df c0 c1' c2' c3 c4 u3 u4 u5
  go_cut [11, 12, 13] (fun p6 p7 p8 wx => ∃ X, p6 = .pointer (some ⟨X, 0, none⟩) ∧ p7 = .bool true ∧ p8 = .int .i64 0 ∧ Won W8 wx X t' s')
  case first =>
    first | go_region_with
      (first | (go_at_call 90; refine (TK _).mono ?_; rintro e w3 ⟨rfl, bb⟩; first | (have b3 : Below W8.heap.size W8 w3 := (by with_reducible exact Below.next (below_drew _) bb); obtain ⟨⟨q0, q1⟩, ⟨q2, q3, q4, q5, q6⟩, q7, q8, q9, q10⟩ := unveil HCc w3 b3; have hb3 := b3.size; have hw3 : w.heap.size ≠ w3.heap.size := (by omega); have hE3 : W1.heap.size ≠ w3.heap.size := (by omega); have hE3l : W1.heap.size < w3.heap.size := (by omega); have hw3l : w.heap.size < w3.heap.size := (by omega); have HB3 := veil b3; clear bb b3 hb3) | (have b3 : Below W8.heap.size W8 w3 := (by first | with_reducible exact Below.next (below_drew1 _ _) bb | with_reducible exact Below.next (below_drew2 _ _) bb | exact Below.next (below_drew1 _ _) bb); have rz : winBlock w3 W8.heap.size 0 noneS := (unveil RZ).next bb; have rzf := rz.free; obtain ⟨y0, y1, y2, y3, y4, y5, y6, y7, y8⟩ := rz.cells; obtain ⟨⟨q0, q1⟩, ⟨q2, q3, q4, q5, q6⟩, q7, q8, q9, q10⟩ := unveil HCc w3 b3; have HB3 := veil b3; have HRZ := veil rz; clear bb b3 rz))) | fail
    all_goals (try go_wp2_with fail)
    all_goals go_meet
    all_goals refine ⟨_, rfl, rfl, rfl, ?_⟩
    all_goals first | with_reducible exact Won.old (unveil HRZ) (unveil HB3) | with_reducible exact Won.new (unveil HB3)
  case rest =>
    as_aux_lemma =>
    obtain ⟨XW, rfl, rfl, rfl, PW⟩ := hcut
    obtain ⟨WC, hWC⟩ : ∃ WC, WC = wc := ⟨_, rfl⟩
    subst hWC
    have HQC := veil ((unveil HQ8).next PW.bel)
    have HPW := veil PW
    clear PW HQ8 HCc RZ m0 m1 m2 m3 m4 m5 m6 m7 m8 u0 u1 u2
    have qc := (unveil HQC).q
    obtain ⟨e0, e1, e2, e3, e4⟩ := (unveil HQC).d.q.heads
    go_upto_region 15 with fail
    have u1 : WC.cell? ⟨W1.heap.size, 1, none⟩ = some (.int .i64 P) := by simp [World.cell?, (unveil HQC).d.e, unveil HP]
    have wP := (unveil HPW).win
    have hXW := (unveil HPW).up
    obtain ⟨j1, j2, j3, j4, j5⟩ := (unveil HQC).ups
    have nE : W1.heap.size ≠ W6.heap.size := by omega
    go_cut [] (fun wx => Turned W6.heap.size WC wx ∧ qBlock wx W6.heap.size s.ep s.nx s.gv (.slice a1 s.rn c1) (.slice a2 s.ln c2) (wwin ws P t' s'))
    case first =>
      go_wp2_with (first
        | (refine win_loads _ rfl rfl rfl wP ?_)
        | (refine win_into P hP _ _ rfl rfl rfl rfl qc ?_; intro W15 d15 T15; have HD15 := veil d15; have HT15 := veil T15; clear d15 T15))
      go_meet
      with_reducible exact ⟨unveil HT15, unveil HD15⟩
    case rest =>
      obtain ⟨T6, d6⟩ := hcut
      obtain ⟨WD, hWD⟩ : ∃ WD, WD = wc := ⟨_, rfl⟩
      subst hWD
      have C6 := (unveil HQC).turn (wt := tput s.wt P t') (wz := tput s.wz P s') T6 d6
      clear wP u1 e0 e1 e2 e3 e4 qc HQC HPW T6 d6
      obtain ⟨d0, d1, d2, d3, d4⟩ := C6.q.heads
      obtain ⟨e0, e1, e2, e3, e4⟩ := C6.d.q.heads
      have u3 : WD.cell? ⟨W1.heap.size, 3, none⟩ = some (.int .i64 v.b) := by simp [World.cell?, C6.d.e]
      obtain ⟨j1, j2, j3, j4, j5⟩ := C6.ups
      have nw : w.heap.size ≠ WD.heap.size := by omega
      have n1 : W1.heap.size ≠ WD.heap.size := by omega
      have n6 : W6.heap.size ≠ WD.heap.size := by omega
      have hl6 : W3.heap.size + 1 ≤ WD.heap.size := by omega
      have b7 : Below WD.heap.size WD (WD.alloc (.cells #[.int .i64 s.nx, .int .i64 v.b] 131)) := below1 _ _
      have HO7 : Hid ((WD.alloc (.cells #[.int .i64 s.nx, .int .i64 v.b] 131)).ownsRow (W3.heap.size + 1) 131 2 (.slice a1 s.rn c1) s.rn (s.R.map (Value.int .i64))) := veil (own_still C6.o1 (fun q _ hq => b7.block q hq))
      have HC6 := veil C6
      have HB7 := veil b7
      clear C6 b7
      go_upto_region 16 with fail
      go_cut [] (fun wx => ∃ a3 c3, Qd w wx W1.heap.size (W1.heap.size + 1) W3.heap.size W6.heap.size s (.slice ra s.rn rc) (.slice la s.ln lc) ws v ⟨s.ep, s.nx, s.gv, s.rn + 1, s.R ++ [s.nx, v.b], s.ln, s.L, tput s.wt P t', tput s.wz P s'⟩ (.slice a3 (s.rn + 1) c3) (.slice a2 s.ln c2) (wwin ws P t' s'))
      case first =>
        go_wp2_with (at_builtin; refine wpList_append_own _ rfl _ _ 85 rfl (W3.heap.size + 1) 131 i1 _ 2 16 Tryz.underlying85 hi1 hz10 hz11 hz12 rfl (by decide) (.slice a1 s.rn c1) s.rn (s.R.map (Value.int .i64)) rfl (unveil HO7) ⟨WD.heap.size, 0, none⟩ 1 1 ([s.nx, v.b].map (Value.int .i64)) rfl rfl (news2 _ _ _ _) (ints_oneCell _ _) (by unfold maxLen; omega) (by omega) (by simp; omega) ?_; intro v' w7 own7 grow7 _; obtain ⟨a3, c3, rfl⟩ := own_form own7; rw [← List.map_append] at own7; obtain ⟨e7, C7⟩ := (unveil HC6).ready (unveil HB7) grow7 [s.nx, v.b] (s.rn + 1) own7; have k3 := e7.heads.2.2.2.1; have f3 := e7.free; have HC7 := veil C7; clear C7 e7 own7 grow7)
        go_meet
        exact ⟨_, _, unveil HC7⟩
      case rest =>
        obtain ⟨a3, c3, C8⟩ := hcut
        obtain ⟨WE, hWE⟩ : ∃ WE, WE = wc := ⟨_, rfl⟩
        subst hWE
        clear d0 d1 d2 d3 d4 e0 e1 e2 e3 e4 u3 nw n1 n6 hl6 HO7 HC6 HB7
        obtain ⟨d0, d1, d2, d3, d4⟩ := C8.q.heads
        have df := C8.q.free
        obtain ⟨e0, e1, e2, e3, e4⟩ := C8.d.q.heads
        have C9 := C8.turn (wt := tput s.wt P t') (wz := tput s.wz P s') (Turned.set W6.heap.size 1 WE (.int .i64 (s.nx + 1))) (C8.q.nextNo (s.nx + 1))
        have q9' := C9.q
        have zc := C9.d.z
        have HC9 := veil C9
        have hn1 : w.heap.size ≠ W6.heap.size := by omega
        clear C8 C9
        have wR : ∀ u ∈ s.R ++ [s.nx, v.b], (Lit.int .i64 u).wf = true := by
          intro u hu
          rcases List.mem_append.1 hu with hu | hu
          · exact hR.wf u hu
          · simp only [List.mem_cons, List.not_mem_nil, or_false] at hu
            rcases hu with rfl | rfl
            · exact wf_in (by omega) (by omega)
            · exact wb
        go_wp2_with (first | (refine q_loads _ rfl rfl rfl q9' ?_) | (refine q_store _ _ rfl rfl rfl rfl zc (hW.put P t' s') ?_; intro W9 q9 t9; have a9 := (unveil HC9).d.a.turned t9 (by have := (unveil HC9).ups; omega); obtain ⟨x0, x1, x2, x3⟩ := a9.cells; have xf := a9.free; have HQ9 := veil q9; have HT9 := veil t9; clear q9 t9 a9))
        obtain ⟨fa, fT, fq, fb⟩ := (unveil HC9).out (unveil HT9) (hW.put P t' s') wR hL.wf 0 0 0 0
        exact bodyPost_ret (ret_QueueDone (fT.queue (unveil HQ9) (by have := (unveil HC9).ups; omega)) fa rfl rfl rfl rfl) rfl (QdR.of (s' := _) (unveil HST) fq fb)
end Go.Proofs.YtcdopnkabbfooaaGreat
