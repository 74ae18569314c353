/- The walk of queue.Do where an event is done. -/
import Derived.Test.YtcdopnkabbfooaaGreatQvB
namespace Go.Proofs.YtcdopnkabbfooaaGreat
open Go.RowKit

/-- a queue in an answer: its rows are new. -/
structure QOut (w w' : World) (s : St) (x : Value) : Prop where
  ex : ∃ a1 c1 a2 c2 ws, x = qVal s.ep s.nx s.gv (.slice a1 s.rn c1) (.slice a2 s.ln c2) ws ∧ RowK .i64 w' a1 (2 * s.rn) s.R ∧ RowK .i64 w' a2 (4 * s.ln) s.L ∧ s.rn ≤ c1 ∧ s.ln ≤ c2 ∧ (a1 = none → c1 = 0) ∧ (a2 = none → c2 = 0) ∧ Wins ws s.wt s.wz ∧ (∀ x, a1 = some x → w.heap.size ≤ x.block) ∧ (∀ x, a2 = some x → w.heap.size ≤ x.block)

theorem ite_wanted {c : Bool} {A B : Prop} (h : c = true) (a : A) : if c = true then A else B := by rw [if_pos h]; exact a
theorem yields_a {ops : Array Oper} {S : World → Prop} {o : Oper} {a : Act} {R : Nat} {c he no bd : Int} (x : Operand) (ho : o.op = .load 75 x) (hw : Region.wanted o (yielded ops a.tmps) = true) (hx : a.eval x = .pointer (some ⟨R, 0, none⟩)) (hS : ∀ w, S w → ansBlock w R c he no bd) :
    YieldsIf Tryz.prog ops S o (ansVal c he no bd) a :=
  .inl ⟨hw, fun w hs => by
    unfold execOp
    simp only [ho, hx, Instr.loadAt, Instr.sureAddr, Sem.run_bind, Sem.run_pure, Result.andThen_ok, run_loadVar_row w R 75 75 _ (0, 0) _ (hS w hs) Tryz.underlying75 rfl (by kernel_rfl)]⟩
theorem Dos.under {w wx wy : World} {E Z A base : Nat} {s : St} {rv lv : Value} {ws : Nat → Value} {v : Ev} (h : Dos w wx E Z A s rv lv ws v) (b : Below base wx wy) (hA : A < base) : Dos w wy E Z A s rv lv ws v := by
  have := h.upE; have := h.upZ; have := h.upA
  exact ⟨h.q.below b (by omega), (b.block E (by omega)).trans h.e, h.z.below b (by omega), h.a.below b hA, h.bel.trans (b.mono (by omega)), h.upE, h.upZ, h.upA⟩

set_option maxRecDepth 20000 in
set_option maxHeartbeats 4000000 in
theorem do_step (s : St) (ra la : Option Addr) (rc lc : Nat) (ws : Nat → Value) (v : Ev) (w : World) (hR : RowK .i64 w ra (2 * s.rn) s.R) (hL : RowK .i64 w la (4 * s.ln) s.L) (nR : ra = none → rc = 0) (nL : la = none → lc = 0) (hW : Wins ws s.wt s.wz) (h : s.Ok) (hv : v.Ok) :
    Calls Tryz.prog 80 #[qVal s.ep s.nx s.gv (.slice ra s.rn rc) (.slice la s.ln lc) ws, evIn v] w fun e w' => ∃ (s' : St) (an : An) (ch : Bool) (x : Value), e = .returned (.tuple #[x, anOf an, .bool ch, .int .i64 0]) ∧ Step s v s' an ch ∧ QOut w w' s' x ∧ Below w.heap.size w w' := by
  have HC : ∀ w, Calls Tryz.prog 54 #[evIn v] w fun e w' => e = .returned (.int .i64 0) ∧ Below w.heap.size w w' := fun w => by
    have := check_any v.k v.p v.i v.b v.he v.hn w
    rwa [show eventFault v.k v.p v.i v.b v.he v.hn = 0 from hv] at this
  go_enter Tryz.func80, Tryz.ntmps80
  go_wp2_with (first
    | (refine q_box 2 _ rfl rfl rfl rfl ?_; intro W1 q1 b1)
    | (refine q_alloc 4 rfl rfl rfl ?_; intro W3 z3 b3; have DD := Dos.made q1 b1 z3 b3; have DQ := DD.q; have HDD := veil DD; clear DD z3 b3 q1 b1)
    | (refine q_loads _ rfl rfl rfl (by assumption) ?_)
    | (go_at_call 85; refine (qcheck_yes _ _ _ _ _ _ _ _ _ _ _ _ s.wt s.wz _ (hR.below (unveil HDD).bel) (hL.below (unveil HDD).bel) hW h).mono ?_; rintro e W4 ⟨rfl, b4⟩; have D4 := (unveil HDD).next b4; have ev4 := D4.e; have v0 : W4.cell? ⟨W1.heap.size, 0, none⟩ = some (.int .i64 v.k) := (by simp [World.cell?, ev4]); have v1 : W4.cell? ⟨W1.heap.size, 1, none⟩ = some (.int .i64 v.p) := (by simp [World.cell?, ev4]); have v2 : W4.cell? ⟨W1.heap.size, 2, none⟩ = some (.int .i64 v.i) := (by simp [World.cell?, ev4]); have v3 : W4.cell? ⟨W1.heap.size, 3, none⟩ = some (.int .i64 v.b) := (by simp [World.cell?, ev4]); have v4 : W4.cell? ⟨W1.heap.size, 4, none⟩ = some (.int .i64 v.he) := (by simp [World.cell?, ev4]); have v5 : W4.cell? ⟨W1.heap.size, 5, none⟩ = some (.int .i64 v.hn) := (by simp [World.cell?, ev4]); have HD4 := veil D4; clear D4 HDD DQ b4 ev4)
    | (go_at_call 54; refine (HC _).mono ?_; rintro e W5 ⟨rfl, b5⟩; have D5 := (unveil HD4).next b5; have DQ5 := D5.q; have HD5 := veil D5; clear D5 HD4 b5 v0 v1 v2 v3 v4 v5)
    | (go_at_call 86; refine (deskOf_any _ _ _ _ _ _ _ _ _ s.R s.L _ _ (hR.below (unveil HD5).bel) (hL.below (unveil HD5).bel) nR nL h.count.sz).mono ?_; rintro e W6 ⟨B, a1, c1, a2, c2, rfl, uB, d6, o1, o2, b6⟩; have D6 : Desk W6 W5.heap.size B s.ep s.nx s.gv a1 s.rn c1 a2 s.ln c2 s.R s.L ws := ⟨d6, uB, o1, o2, hR.wf, hL.wf⟩; have HS6 := veil D6; have HX6 := veil ((unveil HD5).next b6); have HB6 := veil b6; clear DQ5 D6 d6 uB o1 o2 b6))
  have hk4 : v.k = 1 ∨ v.k = 2 ∨ v.k = 3 ∨ v.k = 4 := by
    rcases Ev.cases hv with h | h | h | h
    · exact .inl h.1
    · exact .inr (.inl h.1)
    · exact .inr (.inr (.inl h.1))
    · exact .inr (.inr (.inr h.1))
  have HK := veil hk4
  have hMeth : Hid (∀ W, Below W6.heap.size W6 W → Calls Tryz.prog (methodOf v.k) #[.pointer (some ⟨B, 0, none⟩), evIn v] W fun e w' => ∃ x, e = .returned x ∧ Done s v W5.heap.size B W x w') := veil fun W hb =>
    method_any W5.heap.size B s a1 c1 a2 c2 ws v W ((unveil HS6).next hb) hW (by have := (unveil HS6).up; have := ((unveil HS6).next hb).d.lt; omega) h hv
  have heg : ∀ args w, (callFunc (methodOf v.k) args).run Tryz.prog w = .ok (.enter (methodOf v.k) args) w := by
    rcases hk4 with e | e | e | e
    · rw [e]; exact enters_of Tryz.func96 (by kernel_rfl) rfl
    · rw [e]; exact enters_of Tryz.func97 (by kernel_rfl) rfl
    · rw [e]; exact enters_of Tryz.func98 (by kernel_rfl) rfl
    · rw [e]; exact enters_of Tryz.func99 (by kernel_rfl) rfl
  obtain ⟨g, hg⟩ : ∃ g, methodOf v.k = g := ⟨_, rfl⟩
  rw [hg] at heg hMeth
  have HG := veil hg
  clear hg hk4
  have ev6 := (unveil HX6).e
  have v0 : W6.cell? ⟨W1.heap.size, 0, none⟩ = some (.int .i64 v.k) := by simp [World.cell?, ev6]
  have hEl : W1.heap.size < W6.heap.size := block_lt ev6
  have hEn : W1.heap.size ≠ W6.heap.size := by omega
  clear ev6
  go_cut [11] (fun p wx => p = .func (.func g) #[] #[] ∧ Below W6.heap.size W6 wx)
  case first =>
    go_region_with (go_at_call 87; refine (methods_any _).mono ?_; rintro e W7 ⟨rfl, m7, b7⟩; have B7 : Below W6.heap.size W6 W7 := (by first | with_reducible exact Below.next (below_drew _) b7 | exact Below.next (below_drew _) b7); have hlk : (Instr.lookup 121 (.map (some W6.heap.size)) (.int .i64 v.k) false).run Tryz.prog W7 = .ok (.func (.func g) #[] #[]) W7 := (by have hq := run_method m7 v.k (unveil HK); rw [unveil HG] at hq; exact hq); have v7 : W7.cell? ⟨W1.heap.size, 0, none⟩ = some (.int .i64 v.k) := (B7.cell (p := ⟨W1.heap.size, 0, none⟩) hEl).trans v0; have HB7 := veil B7; clear m7 b7 B7)
    all_goals (try go_wp2_with fail)
    all_goals go_meet
    all_goals exact ⟨rfl, unveil HB7⟩
  case rest =>
    obtain ⟨rfl, b8⟩ := hcut
    have X8 := (unveil HX6).next b8
    have ev8 := X8.e
    have v1 : wc.cell? ⟨W1.heap.size, 0, none⟩ = some (.int .i64 v.k) := by simp [World.cell?, ev8]
    have v2 : wc.cell? ⟨W1.heap.size, 1, none⟩ = some (.int .i64 v.p) := by simp [World.cell?, ev8]
    have v3 : wc.cell? ⟨W1.heap.size, 2, none⟩ = some (.int .i64 v.i) := by simp [World.cell?, ev8]
    have v4 : wc.cell? ⟨W1.heap.size, 3, none⟩ = some (.int .i64 v.b) := by simp [World.cell?, ev8]
    have v5 : wc.cell? ⟨W1.heap.size, 4, none⟩ = some (.int .i64 v.he) := by simp [World.cell?, ev8]
    have v6 : wc.cell? ⟨W1.heap.size, 5, none⟩ = some (.int .i64 v.hn) := by simp [World.cell?, ev8]
    have HX8 := veil X8
    have HB8 := veil b8
    clear v0 hEl hEn ev8 X8 b8
    go_step
    go_step
    go_wp2_with (go_at_fn g; refine (unveil hMeth _ (unveil HB8)).mono ?_; rintro e W9 ⟨x, rfl, s', an, ch, rfl, hst, dOut, b9⟩; have HST := veil hst; have HDO := veil dOut; have HB9 := veil b9; clear hst dOut b9 v1 v2 v3 v4 v5 v6)
    obtain ⟨a1', c1', a2', c2', ws', d9, r1, r2, l1, l2, n1, n2, hW', x1, x2⟩ := unveil HDO
    have X9 := (unveil HX8).under (unveil HB9) (unveil HD5).a.lt
    obtain ⟨W10, hW10, b10, y10⟩ : ∃ W10, W10 = W9.alloc (.cells #[.int .i64 an.c, .int .i64 an.he, .int .i64 an.no, .int .i64 an.bd] 75) ∧ Below W9.heap.size W9 W10 ∧ ansBlock W10 W9.heap.size an.c an.he an.no an.bd := ⟨_, rfl, below1 _ _, ansBlock.new W9 _ _ _ _⟩
    rw [← hW10]
    have d10 := d9.next b10
    have X10 := X9.next b10
    have r1' := r1.below b10
    have r2' := r2.below b10
    have hZB : W1.heap.size + 1 ≠ B := by
      have := (unveil HD5).z.lt; have := (unveil HS6).up; omega
    have hAB : W3.heap.size ≠ B := by
      have := (unveil HD5).a.lt; have := (unveil HS6).up; omega
    have hYZ : W9.heap.size ≠ W1.heap.size + 1 := by have := X9.z.lt; omega
    have hYA : W9.heap.size ≠ W3.heap.size := by have := X9.a.lt; omega
    have hZA : W1.heap.size + 1 ≠ W3.heap.size := by have := X9.upA; omega
    have hup : w.heap.size ≤ W5.heap.size := (unveil HD5).bel.size
    have hAl : w.heap.size ≤ W3.heap.size := by have := X9.upE; have := X9.upZ; have := X9.upA; omega
    have hZl : w.heap.size ≤ W1.heap.size + 1 := by have := X9.upE; omega
    have h5A := (unveil HD5).a.lt
    have h5Z := (unveil HD5).z.lt
    clear hW10 X9 d9 r1 r2 b10 HDO
    refine wp_region_held_drew (S := fun w' => dBlock w' B s'.ep s'.nx s'.gv (.slice a1' s'.rn c1') (.slice a2' s'.ln c2') ws' ∧ ansBlock w' W9.heap.size an.c an.he an.no an.bd) (by kernel_rfl) ⟨d10, y10⟩ (fun hHeld => ?_)
    refine wpAnyH_take (i := 0) (v := _) rfl (by kernel_rfl) (by kernel_rfl) (by kernel_rfl) (fun _ _ _ h => h) (Or.inl ⟨by rfl, fun _ _ => rfl⟩) hHeld ?_
    simp only [List.getElem_toArray, List.getElem_cons_zero, Act.put, List.setIfInBounds_toArray, List.set_cons_zero, List.set_cons_succ]
    refine wpAnyH_take (i := 1) (v := .pointer (some ⟨B, 0, none⟩)) rfl (by kernel_rfl) (by kernel_rfl) (by kernel_rfl) (fun _ _ _ h => h) (Or.inl ⟨by rfl, fun _ _ => by go_simp⟩) hHeld ?_
    simp only [List.getElem_toArray, List.getElem_cons_zero, List.getElem_cons_succ, Act.put, List.setIfInBounds_toArray, List.set_cons_zero, List.set_cons_succ]
    refine wpAnyH_take (i := 2) (v := .pointer (some ⟨B, 0, none⟩)) rfl (by kernel_rfl) (by kernel_rfl) (by kernel_rfl) (fun _ _ _ h => h) (Or.inl ⟨by rfl, fun _ _ => by go_simp⟩) hHeld ?_
    simp only [List.getElem_toArray, List.getElem_cons_zero, List.getElem_cons_succ, Act.put, List.setIfInBounds_toArray, List.set_cons_zero, List.set_cons_succ]
    refine wpAnyH_take (i := 3) (v := _) rfl (by kernel_rfl) (by kernel_rfl) (by kernel_rfl) (fun _ _ _ h => h) (yields_d _ rfl rfl rfl (fun _ h => h.1)) hHeld ?_
    simp only [List.getElem_toArray, List.getElem_cons_zero, List.getElem_cons_succ, Act.put, List.setIfInBounds_toArray, List.set_cons_zero, List.set_cons_succ]
    refine wpAnyH_take (i := 4) (v := _) rfl (by kernel_rfl) (by kernel_rfl) (by kernel_rfl) (fun _ _ _ h => h) (yields_a _ rfl rfl rfl (fun _ h => h.2)) hHeld ?_
    simp only [List.getElem_toArray, List.getElem_cons_zero, List.getElem_cons_succ, Act.put, List.setIfInBounds_toArray, List.set_cons_zero, List.set_cons_succ]
    refine wpAnyH_take (i := 5) (v := .bool ch) rfl (by kernel_rfl) (by kernel_rfl) (by kernel_rfl) (fun _ _ _ h => h) (Or.inl ⟨by rfl, fun _ _ => by go_simp⟩) hHeld ?_
    simp only [List.getElem_toArray, List.getElem_cons_zero, List.getElem_cons_succ, Act.put, List.setIfInBounds_toArray, List.set_cons_zero, List.set_cons_succ]
    refine wpAnyH_ready (rs := [6]) (by kernel_rfl) (by simp) ?_
    refine AllReadyH.cons rfl (fun K hK => ?_) AllReadyH.nil
    simp only [List.getElem_toArray, List.getElem_cons_zero, List.getElem_cons_succ]
    refine ite_wanted rfl ?_
    have zq : qBlock W10.drew (W1.heap.size + 1) 0 0 0 (.slice none 0 0) (.slice none 0 0) zeroW := X10.z
    refine wp_store_mid 92 (.tmp 4) (.tmp 44) rfl (W1.heap.size + 1) 0 _ rfl rfl (by rw [qCells_size]; exact zq.there) (by rw [qCells_size]; exact Tryz.infoQ) (qCells_one hW') ?_
    have q11 := zq.stored s'.ep s'.nx s'.gv (.slice a1' s'.rn c1') (.slice a2' s'.ln c2') ws'
    have T11 := Turned.sets (W1.heap.size + 1) (qCells s'.ep s'.nx s'.gv (.slice a1' s'.rn c1') (.slice a2' s'.ln c2') ws').toList 0 W10.drew
    have d11 := dBlock.turned (w := W10.drew) d10 T11 (fun e => hZB e.symm)
    have y11 := ansBlock.turned (w := W10.drew) y10 T11 hYZ
    have a11 := ansBlock.turned (w := W10.drew) X10.a T11 (fun e => hZA e.symm)
    have B11 : Below w.heap.size w _ := T11.under (show Below w.heap.size w W10.drew from ⟨X10.bel.os, X10.bel.tape, X10.bel.output, X10.bel.size, X10.bel.block⟩) hZl
    have r11 := Turned.row (w := W10.drew) T11 (r1'.below (below_drew W10)) (fun x hx _ => by have := x1 x hx; omega)
    have r12 := Turned.row (w := W10.drew) T11 (r2'.below (below_drew W10)) (fun x hx _ => by have := x2 x hx; omega)
    refine hK.out _ _ ⟨d11, y11⟩ (fun hHeld => ?_)
    clear hK K
    generalize W10.drew.setCells (W1.heap.size + 1) 0 (qCells s'.ep s'.nx s'.gv (.slice a1' s'.rn c1') (.slice a2' s'.ln c2') ws').toList = W11 at q11 d11 y11 a11 B11 r11 r12 hHeld ⊢
    refine wpAnyH_ready (rs := [7]) (by kernel_rfl) (by simp) ?_
    refine AllReadyH.cons rfl (fun K hK => ?_) AllReadyH.nil
    simp only [List.getElem_toArray, List.getElem_cons_zero, List.getElem_cons_succ]
    obtain ⟨u0, u1, u2, u3⟩ := a11.cells
    have xf := a11.free
    go_simp
    have T12 := ans_turned W11 W3.heap.size an.c an.he an.no an.bd
    have d12 := d11.turned T12 (fun e => hAB e.symm)
    have y12 := y11.turned T12 hYA
    have q12 := T12.queue q11 hZA
    have a12 := a11.store an.c an.he an.no an.bd
    have B12 := T12.under B11 hAl
    have s11 := T12.row r11 (fun x hx _ => by have := x1 x hx; omega)
    have s12 := T12.row r12 (fun x hx _ => by have := x2 x hx; omega)
    unfold ansStore at d12 y12 q12 a12 B12 s11 s12
    refine hK.out _ _ ⟨d12, y12⟩ (fun hHeld => ?_)
    clear hK K T12 d12 y12
    generalize (((W11.setCell ⟨W3.heap.size, 0, none⟩ (.int .i64 an.c)).setCell ⟨W3.heap.size, 1, none⟩ (.int .i64 an.he)).setCell ⟨W3.heap.size, 2, none⟩ (.int .i64 an.no)).setCell ⟨W3.heap.size, 3, none⟩ (.int .i64 an.bd) = W12 at q12 a12 B12 s11 s12 hHeld ⊢
    refine wpAnyH_take (i := 8) (v := .bool ch) rfl (by kernel_rfl) (by kernel_rfl) (by kernel_rfl) (fun _ _ _ h => h) (Or.inl ⟨by rfl, fun _ _ => by go_simp⟩) hHeld ?_
    simp only [List.getElem_toArray, List.getElem_cons_zero, List.getElem_cons_succ, Act.put, List.setIfInBounds_toArray, List.set_cons_zero, List.set_cons_succ]
    refine wpAnyH_take (i := 9) (v := .int .i64 0) rfl (by kernel_rfl) (by kernel_rfl) (by kernel_rfl) (fun _ _ _ h => h) (Or.inl ⟨by rfl, fun _ _ => by go_simp⟩) hHeld ?_
    simp only [List.getElem_toArray, List.getElem_cons_zero, List.getElem_cons_succ, Act.put, List.setIfInBounds_toArray, List.set_cons_zero, List.set_cons_succ]
    refine wpAnyH_done (by kernel_rfl) ?_ _
    have HQ12 := veil q12
    have HA12 := veil a12
    have HO12 := veil (QOut.mk (w := w) (w' := W12) (s := s') ⟨a1', c1', a2', c2', ws', rfl, s11, s12, l1, l2, n1, n2, hW', fun x hx => Nat.le_trans hup (x1 x hx), fun x hx => Nat.le_trans hup (x2 x hx)⟩)
    have HB12 := veil B12
    clear q12 a12 s11 s12 B12 q11 d11 y11 a11 r11 r12 B11 hHeld
    go_wp2
    exact bodyPost_ret (ret_Do (unveil HQ12) (unveil HA12) rfl rfl rfl rfl) rfl ⟨s', an, ch, _, rfl, unveil HST, unveil HO12, unveil HB12⟩
end Go.Proofs.YtcdopnkabbfooaaGreat
