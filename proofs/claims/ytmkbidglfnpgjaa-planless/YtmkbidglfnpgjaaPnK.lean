/- The walk of plan.plans. -/
import Derived.Test.YtmkbidglfnpgjaaPnJ
import Derived.Deep.DeepCutAuto
import Derived.WalkMore
namespace Go.Proofs.Ytmkbidglfnpgjaa
open Go.RowKit

theorem Try.infoPlan : (Try.prog.info? 39).map (fun i => (i.zero, i.size, i.bytes)) = some (some (.agg #[.int .i64 0, .int .i64 0, .int .i64 0]), 3, 24) := by kernel_rfl
theorem Now.wsB {nodes : Nat} {now rest : List Ld} {gone : Int → Bool} {ws : List Int} (h : Now nodes now gone ws rest) (j : Nat) (hj : j < nodes) : 0 ≤ ws.getD j 0 ∧ ws.getD j 0 ≤ 4294967296 := by
  rw [h.ws_eq]; exact h.rise.wsB j hj
theorem Now.wsWf {nodes : Nat} {now rest : List Ld} {gone : Int → Bool} {ws : List Int} (h : Now nodes now gone ws rest) : ∀ u ∈ ws, (Lit.int .i64 u).wf = true := by
  rw [h.ws_eq]; exact h.rise.wsWf
theorem Now.restOk {nodes : Nat} {now rest : List Ld} {gone : Int → Bool} {ws : List Int} (h : Now nodes now gone ws rest) (k : Nat) (hk : k < rest.length) : LdOk nodes (ldAt rest k) := by
  obtain ⟨b, hb, e, _⟩ := h.restMem k hk
  rw [← e]; exact h.rise.ok b hb
theorem Now.restLen {nodes : Nat} {now rest : List Ld} {gone : Int → Bool} {ws : List Int} (h : Now nodes now gone ws rest) : rest.length ≤ 4 := by
  have h1 := h.rise.len
  have h2 : rest.length ≤ now.length := by rw [h.rest_eq]; exact List.length_filter_le _ _
  omega
theorem lit_wf {z : Int} (h0 : 0 ≤ z) (h1 : z ≤ 4294967296) : (Lit.int .i64 z).wf = true := by
  simp [Lit.wf, IntKind.min, IntKind.max, IntKind.signed, IntKind.bits]
  omega
theorem flat_wf (nodes : Int) (hn : nodes ≤ 4294967296) : ∀ l : List Ld, (∀ x ∈ l, LdOk nodes x) → ∀ u ∈ ldFlat l, (Lit.int .i64 u).wf = true
  | [], _, u, hu => by cases hu
  | x :: l, h, u, hu => by
    have hx := h x (by simp)
    have h1 := hx.q0; have h2 := hx.q3; have h3 := hx.n0; have h4 := hx.n4; have h5 := hx.w0; have h6 := hx.w1
    simp only [ldFlat, List.mem_cons] at hu
    rcases hu with rfl | rfl | rfl | hu
    · exact lit_wf (by omega) (by omega)
    · exact lit_wf (by omega) (by omega)
    · exact lit_wf (by omega) (by omega)
    · exact flat_wf nodes hn l (fun y hy => h y (by simp [hy])) u hu
theorem Now.restWf {nodes : Nat} {now rest : List Ld} {gone : Int → Bool} {ws : List Int} (h : Now nodes now gone ws rest) (h5 : nodes ≤ 5) : ∀ u ∈ ldFlat rest, (Lit.int .i64 u).wf = true :=
  flat_wf nodes (by omega) rest (fun x hx => by
    rw [h.rest_eq] at hx
    exact h.rise.mem x (List.mem_filter.1 hx).1)
/-- which one goes. -/
theorem goes_is (ws : List Int) (rest : List Ld) : goesOf ws rest = -1 ∨ ∃ j : Nat, goesOf ws rest = j ∧ j < rest.length ∧ Cand (busyOf ws) (gapOf ws) (ldAt rest j) := by
  unfold goesOf
  rcases heavTo_is rest (busyOf ws) (gapOf ws) rest.length with ⟨e, _⟩ | ⟨i, hi, e, hc, _⟩
  · left; rw [e]
  · right; exact ⟨i, by rw [e], hi, hc⟩
theorem Now.ends {nodes : Nat} {now rest : List Ld} {gone : Int → Bool} {ws : List Int} (h : Now nodes now gone ws rest) : busyOf ws < nodes ∧ idleOf ws < nodes := by
  have hl := h.len
  have := h.pos
  exact ⟨by rw [← hl]; exact (busyOf_is ws (by omega)).1.lt, by rw [← hl]; exact (idleOf_is ws (by omega)).1.lt⟩
theorem Now.step {nodes : Nat} {now rest : List Ld} {gone : Int → Bool} {ws : List Int} (h : Now nodes now gone ws rest) {j : Nat} (hj : j < rest.length) (hc : Cand (busyOf ws) (gapOf ws) (ldAt rest j)) :
    ∃ now' gone', Now nodes now' gone' (shift ws (busyOf ws) (idleOf ws) (ldAt rest j).w) (rest.eraseIdx j) := by
  obtain ⟨b, hb, e, _⟩ := h.restMem j hj
  obtain ⟨h1, h2⟩ := h.ends
  have hft : busyOf ws ≠ idleOf ws := by
    intro he
    have h3 := hc.2.1
    have h4 := hc.2.2
    unfold gapOf at h3
    rw [he] at h3
    omega
  exact ⟨_, _, h.goes hj hb e hc.1 h1 h2 hft⟩
/-- rows on their way: works, loads, plans. -/
structure PlR (w wr : World) (base gW : Nat) (a : Option Addr) (n c : Nat) (am : Option Addr) (k cm : Nat) (ws : List Int) (rest : List Ld) (made : List Pl) : Prop where
  oW : wsRow wr base gW ws
  oR : ldOwn wr base (.slice a n c) rest
  n_eq : rest.length = n
  oM : wr.ownsRow w.heap.size 39 3 (.slice am k cm) k ((plFlat made).map (Value.int .i64))
  len : made.length = k
  bel : Below base w wr
  low : base ≤ w.heap.size
section
variable {w wr wx : World} {base gW : Nat} {a : Option Addr} {n c : Nat} {am : Option Addr} {k cm : Nat} {ws : List Int} {rest : List Ld} {made : List Pl}
theorem PlR.below (h : PlR w wr base gW a n c am k cm ws rest made) (b : Below wr.heap.size wr wx) : PlR w wx base gW a n c am k cm ws rest made :=
  ⟨h.oW.still (b.block _ h.oW.lt.2), own_still h.oR (fun g _ hg => b.block g hg), h.n_eq, own_still h.oM (fun g _ hg => b.block g hg), h.len, h.bel.trans (b.mono (Nat.le_trans h.low h.bel.size)), h.low⟩
theorem PlR.apWR (h : PlR w wr base gW a n c am k cm ws rest made) : ∀ g, (Value.slice a n c).ownBlock = some g → g ≠ gW := fun g hg e => by
  have oR := h.oR
  unfold ldOwn at oR
  rw [h.n_eq] at oR
  exact own_apart oR h.oW (by decide) g hg (by rw [e]; rfl)
theorem PlR.apMW (h : PlR w wr base gW a n c am k cm ws rest made) : ∀ g, (Value.slice am k cm).ownBlock = some g → g ≠ gW := fun g hg e => own_apart (own_lower h.oM h.low) h.oW (by decide) g hg (by rw [e]; rfl)
theorem PlR.apMR (h : PlR w wr base gW a n c am k cm ws rest made) : ∀ g, (Value.slice am k cm).ownBlock = some g → (Value.slice a n c).ownBlock ≠ some g := fun g hg => by
  have oR := h.oR
  unfold ldOwn at oR
  exact own_apart (own_lower h.oM h.low) oR (by decide) g hg
/-- a plan more. -/
theorem PlR.added (h : PlR w wr base gW a n c am k cm ws rest made) {am' : Option Addr} {cm' : Nat} {x : Pl} (o : wx.ownsRow w.heap.size 39 3 (.slice am' (k + 1) cm') (k + 1) ((plFlat (made ++ [x])).map (Value.int .i64))) (g : wr.grownBy wx (Value.slice am k cm).ownBlock) : PlR w wx base gW a n c am' (k + 1) cm' ws rest (made ++ [x]) := by
  refine ⟨own_grown h.oW g (fun q hq e => ?_), own_grown h.oR g (fun q hq e => ?_), h.n_eq, o, by simp [h.len], h.bel.grown g (Nat.le_trans h.low h.bel.size) (fun q hq => Nat.le_trans h.low (h.oM.lt q hq).1), h.low⟩
  · simp only [Value.ownBlock, Option.some.injEq] at hq
    exact h.apMW q e hq.symm
  · exact h.apMR q e hq
/-- the work at a node, stored. -/
theorem PlR.set (h : PlR w wr base gW a n c am k cm ws rest made) (j : Nat) (z : Int) : PlR w (wr.setCell ⟨gW, j, none⟩ (.int .i64 z)).drew base gW a n c am k cm (ws.set j z) rest made := by
  have T := (Turned.set gW j wr (.int .i64 z)).trans (turned_drew gW _)
  refine ⟨(h.oW.set j z).still rfl, own_still h.oR (fun g hg _ => T.block g (h.apWR g hg)), h.n_eq, own_still h.oM (fun g hg _ => T.block g (h.apMW g hg)), h.len, T.under h.bel h.oW.lt.1, h.low⟩
/-- a load taken out. -/
theorem PlR.cut {g : Nat} (h : PlR w wr base gW (some ⟨g, 0, none⟩) n c am k cm ws rest made) (T : Turned g wr wx) {rest' : List Ld} (o : ldOwn wx base (.slice (some ⟨g, 0, none⟩) (n - 1) c) rest') (hn : rest'.length = n - 1) : PlR w wx base gW (some ⟨g, 0, none⟩) (n - 1) c am k cm ws rest' made := by
  refine ⟨h.oW.still (T.block _ (fun e => h.apWR g rfl e.symm)), o, hn, own_still h.oM (fun q hq _ => T.block q (fun e => h.apMR q hq (by rw [e]; rfl))), h.len, T.under h.bel (h.oR.lt g rfl).1, h.low⟩
theorem PlR.at3 {g : Nat} (h : PlR w wr base gW (some ⟨g, 0, none⟩) n c am k cm ws rest made) (j : Nat) (hj : j < n) :
    wr.cell? ⟨g, j * 3, none⟩ = some (.int .i64 (ldAt rest j).q) ∧ wr.cell? ⟨g, j * 3 + 1, none⟩ = some (.int .i64 (ldAt rest j).n) ∧ wr.cell? ⟨g, j * 3 + 2, none⟩ = some (.int .i64 (ldAt rest j).w) := by
  have hn := h.n_eq
  have oR := h.oR
  unfold ldOwn at oR
  rw [hn] at oR
  have hl := ldFlat_len rest
  have key : ∀ i, i < 3 * n → wr.cell? ⟨g, i, none⟩ = some (.int .i64 ((ldFlat rest).getD i 0)) := fun i hi => by
    rw [World.ownsRow.cellAt oR i (by omega), List.getElem?_map, List.getElem?_eq_getElem (by omega)]
    simp [List.getElem?_eq_getElem (show i < (ldFlat rest).length by omega)]
  obtain ⟨e0, e1, e2⟩ := ldFlat_at rest j
  rw [Nat.mul_comm j 3, ← e0, ← e1, ← e2]
  exact ⟨key _ (by omega), key _ (by omega), key _ (by omega)⟩
theorem PlR.head (h : PlR w wr base gW a n c am k cm ws rest made) (hn : 0 < n) : ∃ g, a = some ⟨g, 0, none⟩ := by
  have hn' := h.n_eq
  rcases h.oR.2 with ⟨_, h1⟩ | ⟨g, cap, cur, e, _⟩
  · omega
  · simp only [Value.slice.injEq] at e
    exact ⟨g, e.1⟩
end
/-- plans on their way. -/
structure PlSt (w wr : World) (base gW nodes m k : Nat) (a : Option Addr) (n c : Nat) (am : Option Addr) (cm : Nat) (ws : List Int) (rest : List Ld) (made all : List Pl) : Prop where
  now : ∃ now gone, Now nodes now gone ws rest
  r : PlR w wr base gW a n c am k cm ws rest made
  all_ : made ++ plansF (m - k) ws rest = all
theorem PlSt.begin {w : World} {base gW nodes m n c : Nat} {a : Option Addr} {ws : List Int} {rest now : List Ld} {gone : Int → Bool} (hN : Now nodes now gone ws rest) (oW : wsRow w base gW ws) (oR : ldOwn w base (.slice a n c) rest) (hn : rest.length = n) (hb : base ≤ w.heap.size) : PlSt w w base gW nodes m 0 a n c none 0 ws rest [] (plansF m ws rest) :=
  ⟨⟨_, _, hN⟩, ⟨oW, oR, hn, World.ownsRow_nil _ _ _ _, rfl, Below.refl _ _, hb⟩, rfl⟩
theorem news3 (w : World) (x0 x1 x2 : Int) (t : TypeId) : ∀ j u, ([x0, x1, x2].map (Value.int .i64))[j]? = some u → (w.alloc (.cells #[.int .i64 x0, .int .i64 x1, .int .i64 x2] t)).drew.cell? ((⟨w.heap.size, 0, none⟩ : Addr).add j) = some u := by
  intro j u hj
  rw [Addr.add_mid]
  match j, hj with
  | 0, hj => simp at hj; subst hj; simp
  | 1, hj => simp at hj; subst hj; simp
  | 2, hj => simp at hj; subst hj; simp
  | n + 3, hj => simp at hj
theorem plansF_stop {m : Nat} {ws : List Int} {rest : List Ld} (h : goesOf ws rest = -1) : plansF m ws rest = [] := by
  cases m with
  | zero => rfl
  | succ m => rw [plansF, if_pos (by omega)]
theorem plansF_go {m j : Nat} {ws : List Int} {rest : List Ld} (h : goesOf ws rest = j) : plansF (m + 1) ws rest = ⟨(ldAt rest j).q, busyOf ws, idleOf ws⟩ :: plansF m (shift ws (busyOf ws) (idleOf ws) (ldAt rest j).w) (rest.eraseIdx j) := by
  rw [plansF, if_neg (by omega), h]
  rfl
set_option maxRecDepth 20000 in
set_option maxHeartbeats 4000000 in
theorem plans_any {nodes : Nat} {ws : List Int} {rest now : List Ld} {gone : Int → Bool} (hN : Now nodes now gone ws rest) (h5 : nodes ≤ 5) (m : Nat) (hm : m ≤ 4) (w : World) (base gW : Nat) (a : Option Addr) (n c : Nat) (hn : rest.length = n) (hb : base ≤ w.heap.size) (oW : wsRow w base gW ws) (oR : ldOwn w base (.slice a n c) rest) :
    Calls Try.prog 27 #[.slice (some ⟨gW, 0, none⟩) nodes nodes, .slice a n c, .int .i64 m] w fun e w' => ∃ v', e = .returned v' ∧ w'.ownsRow w.heap.size 39 3 v' (plansF m ws rest).length ((plFlat (plansF m ws rest)).map (Value.int .i64)) ∧ Below base w w' := by
  obtain ⟨i2, hi2, hz20, hz21, hz22⟩ := info_ofP Try.infoPlan
  have P0 : PlSt w w base gW nodes m 0 a n c none 0 ws rest [] (plansF m ws rest) := PlSt.begin hN oW oR hn hb
  have HP := veil P0
  generalize plansF m ws rest = all at *
  clear P0 hN oW oR hn
  go_enter Try.func27, Try.ntmps27
  go_wp2
  go_step3
  go_wp2
  go_step3
  go_wp2
  go_loopw [1, 7, 12] (fun r mv t wr => ∃ k : Nat, ∃ a n c am cm ws rest made, k ≤ m ∧ t = .int .i64 k ∧ r = .slice a n c ∧ mv = .slice am k cm ∧ PlSt w wr base gW nodes m k a n c am cm ws rest made all) (fun _ _ t _ => m - (intOf t).toNat)
  case atStart => exact ⟨0, _, _, _, _, _, _, _, _, Nat.zero_le _, rfl, rfl, rfl, unveil HP⟩
  case round =>
    clear HP
    obtain ⟨k, a, n, c, am, cm, ws, rest, made, hk, rfl, rfl, rfl, P⟩ := hrel
    by_cases hlt : k < m
    · obtain ⟨now, gone, N⟩ := P.now
      have R := P.r
      obtain ⟨e1, e2⟩ := N.ends
      have hlen := N.len
      have hrow := R.oW.row N.wsWf
      have HB := busiest_row gW nodes ws wr hrow (by omega) (by omega)
      have HI := idlest_row gW nodes ws wr hrow (by omega) (by omega)
      rw [hlen] at HB HI
      obtain ⟨y0, yf⟩ := R.oW.at (busyOf ws) (by omega)
      obtain ⟨z0, zf⟩ := R.oW.at (idleOf ws) (by omega)
      have yb := N.wsB (busyOf ws) e1
      have zb := N.wsB (idleOf ws) e2
      have rl := N.restLen
      obtain ⟨a', c', ev, rr, _, _, _, ub⟩ := RowK.ofMany R.oR (N.restWf h5)
      have hne := R.n_eq
      rw [hne] at ev rr
      cases ev
      have HV : Hid (∀ w1 g, Below wr.heap.size wr w1 → g = ws.getD (busyOf ws) 0 - ws.getD (idleOf ws) 0 → Calls Try.prog 34 #[.slice a n c, .int .i64 (busyOf ws), .int .i64 g] w1 fun e w' => e = .returned (.int .i64 (goesOf ws rest)) ∧ Below w1.heap.size w1 w') := veil fun w1 g b1 hg => by
        subst hg
        subst hne
        exact heaviest_any (busyOf ws) (gapOf ws) a c rest w1 (rr.below b1) (by omega)
      have HG := goes_is ws rest
      have hgap : gapOf ws = ws.getD (busyOf ws) 0 - ws.getD (idleOf ws) 0 := rfl
      have HS := veil (fun j (hj : j < rest.length) (hc : Cand (busyOf ws) (ws.getD (busyOf ws) 0 - ws.getD (idleOf ws) 0) (ldAt rest j)) => N.step (j := j) hj hc)
      have HO := veil (fun j (hj : j < rest.length) => N.restOk j hj)
      have HX : Hid (goesOf ws rest = -1 → all = made) := veil fun h => by have := P.all_; rw [plansF_stop h, List.append_nil] at this; exact this.symm
      have HY : Hid (∀ j : Nat, goesOf ws rest = j → (made ++ [⟨(ldAt rest j).q, busyOf ws, idleOf ws⟩]) ++ plansF (m - (k + 1)) (shift ws (busyOf ws) (idleOf ws) (ldAt rest j).w) (rest.eraseIdx j) = all) := veil fun j h => by
        have := P.all_
        rw [show m - k = (m - (k + 1)) + 1 by omega, plansF_go h] at this
        rw [List.append_assoc]
        exact this
      have HRR := veil (fun w1 b => rr.below (w' := w1) b)
      have HSh : Hid (∀ xw, shift ws (busyOf ws) (idleOf ws) xw = (ws.set (busyOf ws) (ws.getD (busyOf ws) 0 - xw)).set (idleOf ws) ((ws.set (busyOf ws) (ws.getD (busyOf ws) 0 - xw)).getD (idleOf ws) 0 + xw)) := veil fun xw => rfl
      have HGD : Hid (∀ xw, busyOf ws ≠ idleOf ws → (ws.set (busyOf ws) (ws.getD (busyOf ws) 0 - xw)).getD (idleOf ws) 0 = ws.getD (idleOf ws) 0) := veil fun xw hne => by rw [getD_set _ _ _ _ (by omega), if_neg (fun e => hne e.symm)]
      have HNE : Hid (∀ x, Cand (busyOf ws) (ws.getD (busyOf ws) 0 - ws.getD (idleOf ws) 0) x → busyOf ws ≠ idleOf ws ∧ 0 < x.w ∧ x.w < ws.getD (busyOf ws) 0 - ws.getD (idleOf ws) 0) := veil fun x hc => ⟨fun he => by have h3 := hc.2.1; have h4 := hc.2.2; rw [he] at h3; omega, hc.2.2, hc.2.1⟩
      have HLn := veil hlen
      have HRn := veil hne
      have HR := veil R
      clear hrow rr ub hlen hne
      rw [hgap] at HG
      clear hgap
      generalize busyOf ws = bu at *
      generalize idleOf ws = id at *
      generalize goesOf ws rest = i at *
      generalize hy : ws.getD bu 0 = y at *
      generalize hz : ws.getD id 0 = z at *
      have Hy := veil hy
      have Hz := veil hz
      clear hy hz P N R
      go_wp2_with (first | (go_at_call 21; refine HB.mono ?_; rintro _ wr ⟨rfl, rfl⟩; clear HB) | (go_at_call 22; refine HI.mono ?_; rintro _ wr ⟨rfl, rfl⟩; clear HI))
      go_cut [10] (fun p wx => p = .int .i64 i ∧ Below wr.heap.size wr wx)
      case first =>
        first | go_region_with (go_at_call 34; refine (unveil HV _ _ (Below.refl _ _).drew (by first | rfl | omega | (rw [IntKind.wrap_i64]; omega))).mono ?_; rintro _ w1 ⟨rfl, b1⟩; have B1 := veil b1; clear b1) | fail
        all_goals (try go_wp2_with fail)
        all_goals go_meet
        all_goals exact ⟨rfl, Below.next ((Below.refl _ _).drew) (unveil B1)⟩
      case rest =>
        obtain ⟨rfl, bc⟩ := hcut
        have R1 := veil ((unveil HR).below bc)
        have RR1 := veil (unveil HRR wc bc)
        clear HV HRR HR y0 z0 yf zf bc
        rcases HG with rfl | ⟨j, rfl, hj, hc⟩
        · have hall := veil (unveil HX rfl)
          clear HX HY HS HO HSh HGD HNE
          go_wp2
          unfold Exit.noGoto
          go_ret
          exact ⟨_, rfl, by rw [unveil hall, (unveil R1).len]; exact (unveil R1).oM, (unveil R1).bel⟩
        · have hjn : j < n := by have := unveil HRn; omega
          obtain ⟨g, rfl⟩ := (unveil R1).head (by omega)
          obtain ⟨x0, x1, x2⟩ := (unveil R1).at3 j hjn
          have ho := unveil HO j hj
          have hall := veil (unveil HY j rfl)
          have hst := veil (unveil HS j hj hc)
          obtain ⟨hft, xw0, xw1⟩ := unveil HNE _ hc
          have hsh := unveil HSh (ldAt rest j).w
          have hgd := unveil HGD (ldAt rest j).w hft
          rw [hgd] at hsh
          rw [hsh] at hall hst
          have hq0 := ho.q0
          have hq3 := ho.q3
          have hw1 := ho.w1
          have hgl := ((unveil R1).oR.lt g rfl).2
          have hgn : g ≠ wc.heap.size := by omega
          have HGD1 := veil hgd
          have hat : Hid (∀ w4 am' cm' wsx, PlR w w4 base gW (some ⟨g, 0, none⟩) n c am' (k + 1) cm' wsx rest (made ++ [⟨(ldAt rest j).q, bu, id⟩]) → w4.cell? ⟨g, j * 3 + 2, none⟩ = some (.int .i64 (ldAt rest j).w)) := veil fun w4 am' cm' wsx R4 => (R4.at3 j hjn).2.2
          have hT : Hid (plFlat made ++ [(ldAt rest j).q, bu, id] = plFlat (made ++ [⟨(ldAt rest j).q, bu, id⟩])) := veil (by rw [plFlat_append]; rfl)
          have HDel : Hid (∀ w6, ldOwn w6 base (.slice (some ⟨g, 0, none⟩) n c) rest → Calls Try.prog 35 #[.slice (some ⟨g, 0, none⟩) n c, .int .i64 j, .int .i64 (j + 1)] w6 fun e w' => e = .returned (.slice (some ⟨g, 0, none⟩) (n - 1) c) ∧ Turned g w6 w' ∧ ldOwn w' base (.slice (some ⟨g, 0, none⟩) (n - 1) c) (rest.eraseIdx j)) := veil fun w6 o6 => by
            have e := unveil HRn
            subst e
            exact delete_own j o6 hj
          have HEl : Hid ((rest.eraseIdx j).length = n - 1) := veil (by rw [List.length_eraseIdx_of_lt hj, unveil HRn])
          clear HX HY HS HO HSh HGD HNE hc ho hsh hgd RR1
          generalize (ldAt rest j).q = q at *
          generalize (ldAt rest j).w = xw at *
          generalize (ldAt rest j).n = xn at *
          have RA := veil ((unveil R1).below (below1 wc (.cells #[.int .i64 q, .int .i64 bu, .int .i64 id] 39)))
          have hk4 : k + 1 ≤ 4 := by omega
          go_wp2_with (at_builtin; refine wpList_append_own _ rfl _ _ 28 rfl w.heap.size 39 i2 _ 3 24 Try.underlying28 hi2 hz20 hz21 hz22 rfl (by decide) (.slice am k cm) k ((plFlat made).map (Value.int .i64)) rfl (unveil RA).oM ⟨wc.heap.size, 0, none⟩ 1 1 ([q, bu, id].map (Value.int .i64)) rfl rfl (news3 _ _ _ _ _) (ints_oneCell _ _) (by unfold maxLen; omega) (by omega) (Nat.le_trans (unveil RA).bel.size (Nat.le_refl _)) ?_; intro v' w4 own4 grow4 _; obtain ⟨am', cm', rfl⟩ := own_form own4; rw [← List.map_append, unveil hT] at own4; have R4 := veil ((unveil RA).added own4 grow4); clear own4 grow4 RA R1)
          obtain ⟨c1, f1⟩ := (unveil R4).oW.at bu (by rw [unveil HLn]; exact e1)
          rw [unveil Hy] at c1
          have c2 := unveil hat _ _ _ _ (unveil R4)
          go_cut [42] (fun _ wx => PlR w wx base gW (some ⟨g, 0, none⟩) n c am' (k + 1) cm' (ws.set bu (y - xw)) rest (made ++ [⟨q, bu, id⟩]))
          case first =>
            go_region
            all_goals (try go_wp2_with fail)
            all_goals go_meet
            all_goals exact (unveil R4).set bu (y - xw)
          case rest =>
            have R5 := veil hcut
            clear c1 f1 c2 R4 hcut
            obtain ⟨c1, f1⟩ := (unveil R5).oW.at id (by rw [List.length_set, unveil HLn]; exact e2)
            rw [unveil HGD1] at c1
            have c2 := unveil hat _ _ _ _ (unveil R5)
            go_wp2_with fail
            go_cut [53] (fun _ wx => PlR w wx base gW (some ⟨g, 0, none⟩) n c am' (k + 1) cm' ((ws.set bu (y - xw)).set id (z + xw)) rest (made ++ [⟨q, bu, id⟩]))
            case first =>
              go_region
              all_goals (try go_wp2_with fail)
              all_goals go_meet
              all_goals exact (unveil R5).set id (z + xw)
            case rest =>
              have R6 := veil hcut
              clear c1 f1 c2 R5 hcut
              have HDl := unveil HDel _ (unveil R6).oR
              go_wp2_with (go_at_call 35; refine HDl.mono ?_; rintro _ w7 ⟨rfl, T7, o7⟩; have R7 := veil ((unveil R6).cut T7 o7 (unveil HEl)); clear T7 o7 R6 HDl)
              go_roundw
              case rel => exact ⟨k + 1, _, _, _, _, _, _, _, _, by omega, by go_num, rfl, rfl, ⟨unveil hst, unveil R7, unveil hall⟩⟩
              case measure => simp [intOf]; omega
    · have hkm : k = m := by omega
      have R1 := veil P.r
      have hall : Hid (all = made) := veil (by have := P.all_; rw [hkm, Nat.sub_self] at this; simpa [plansF] using this.symm)
      clear P hkm
      go_wp2
      unfold Exit.noGoto
      go_ret
      exact ⟨_, rfl, by rw [unveil hall, (unveil R1).len]; exact (unveil R1).oM, (unveil R1).bel⟩
end Go.Proofs.Ytmkbidglfnpgjaa
