/- The walk of the document's answer's Balanced. -/
import Derived.Test.YtmkbidglfnpgjaaPnM
namespace Go.Proofs.Ytmkbidglfnpgjaa
open Go.RowKit

/-- rows on their way, in the document's answer. -/
structure RfR (w wr : World) (aN : Option Addr) (n cN gB : Nat) (am : Option Addr) (k cm : Nat) (now : List Ld) (gone : Int → Bool) (made : List Pl) : Prop where
  oN : ldOwn wr w.heap.size (.slice aN n cN) now
  n_eq : now.length = n
  b : goneBlock wr gB gone
  low : w.heap.size ≤ gB
  oM : wr.ownsRow w.heap.size 39 3 (.slice am k cm) k ((plFlat made).map (Value.int .i64))
  len : made.length = k
  bel : Below w.heap.size w wr
theorem own_gone {w : World} {base e size n gB : Nat} {v : Value} {xs : List Value} {gone : Int → Bool} (o : w.ownsRow base e size v n xs) (b : goneBlock w gB gone) (he : e ≠ 4) : ∀ g, v.ownBlock = some g → g ≠ gB := by
  intro g hg e'
  subst e'
  rcases o.2 with ⟨rfl, _⟩ | ⟨g1, cap, cur, rfl, _, h3, _⟩
  · cases hg
  · simp only [Value.ownBlock, Option.some.injEq] at hg
    subst hg
    unfold goneBlock at b
    rw [b] at h3
    simp only [Option.some.injEq, Obj.cells.injEq] at h3
    exact he h3.2.1.symm
section
variable {w wr wx : World} {aN : Option Addr} {n cN gB : Nat} {am : Option Addr} {k cm : Nat} {now : List Ld} {gone : Int → Bool} {made : List Pl}
theorem RfR.below (h : RfR w wr aN n cN gB am k cm now gone made) (b : Below wr.heap.size wr wx) : RfR w wx aN n cN gB am k cm now gone made :=
  ⟨own_still h.oN (fun g _ hg => b.block g hg), h.n_eq, by have := h.b; unfold goneBlock at this ⊢; rw [← this]; exact b.block _ h.b.lt, h.low, own_still h.oM (fun g _ hg => b.block g hg), h.len, Below.next h.bel b⟩
theorem RfR.apMN (h : RfR w wr aN n cN gB am k cm now gone made) : ∀ g, (Value.slice am k cm).ownBlock = some g → (Value.slice aN n cN).ownBlock ≠ some g := fun g hg => by
  have oN := h.oN
  unfold ldOwn at oN
  exact own_apart h.oM oN (by decide) g hg
theorem RfR.added (h : RfR w wr aN n cN gB am k cm now gone made) {am' : Option Addr} {cm' : Nat} {x : Pl} (o : wx.ownsRow w.heap.size 39 3 (.slice am' (k + 1) cm') (k + 1) ((plFlat (made ++ [x])).map (Value.int .i64))) (g : wr.grownBy wx (Value.slice am k cm).ownBlock) : RfR w wx aN n cN gB am' (k + 1) cm' now gone (made ++ [x]) := by
  refine ⟨own_grown h.oN g (fun q hq e => h.apMN q e hq), h.n_eq, ?_, h.low, o, by simp [h.len], h.bel.grown g h.bel.size (fun q hq => (h.oM.lt q hq).1)⟩
  have := h.b
  unfold goneBlock at this ⊢
  rw [← this]
  exact g.block gB h.b.lt (fun e => own_gone h.oM h.b (by decide) gB e.symm rfl)
theorem RfR.goneSet (h : RfR w wr aN n cN gB am k cm now gone made) (q : Nat) (hq : q < 4) : RfR w (wr.setCell ⟨gB, q, none⟩ (.bool true)) aN n cN gB am k cm now (fun z => gone z || z == q) made := by
  have T := Turned.set gB q wr (.bool true)
  have oN := h.oN
  unfold ldOwn at oN
  exact ⟨own_still h.oN (fun g hg _ => T.block g (own_gone oN h.b (by decide) g hg)), h.n_eq, h.b.set q hq, h.low, own_still h.oM (fun g hg _ => T.block g (own_gone h.oM h.b (by decide) g hg)), h.len, T.under h.bel h.low⟩
theorem RfR.nowSet {g : Nat} (h : RfR w wr (some ⟨g, 0, none⟩) n cN gB am k cm now gone made) (b : Nat) (hb : b < n) (t : Int) : RfR w (wr.setCell ⟨g, b * 3 + 1, none⟩ (.int .i64 t)) (some ⟨g, 0, none⟩) n cN gB am k cm (now.set b ⟨(ldAt now b).q, t, (ldAt now b).w⟩) gone made := by
  have T := Turned.set g (b * 3 + 1) wr (.int .i64 t)
  have oN := h.oN
  unfold ldOwn at oN
  have hl := (oN.lt g rfl).1
  refine ⟨h.oN.set h.n_eq b hb t, by rw [List.length_set]; exact h.n_eq, ?_, h.low, own_still h.oM (fun q hq _ => T.block q (fun e => h.apMN q hq (by rw [e]; rfl))), h.len, T.under h.bel hl⟩
  have := h.b
  unfold goneBlock at this ⊢
  rw [← this]
  exact T.block gB (fun e => own_gone oN h.b (by decide) g rfl e.symm)
theorem RfR.head (h : RfR w wr aN n cN gB am k cm now gone made) (hn : 0 < n) : ∃ g, aN = some ⟨g, 0, none⟩ := by
  have hn' := h.n_eq
  rcases h.oN.2 with ⟨_, h1⟩ | ⟨g, cap, cur, e, _⟩
  · omega
  · simp only [Value.slice.injEq] at e
    exact ⟨g, e.1⟩
theorem RfR.at3 {g : Nat} (h : RfR w wr (some ⟨g, 0, none⟩) n cN gB am k cm now gone made) (j : Nat) (hj : j < n) :
    wr.cell? ⟨g, j * 3, none⟩ = some (.int .i64 (ldAt now j).q) ∧ wr.cell? ⟨g, j * 3 + 1, none⟩ = some (.int .i64 (ldAt now j).n) ∧ wr.cell? ⟨g, j * 3 + 2, none⟩ = some (.int .i64 (ldAt now j).w) := by
  have hn := h.n_eq
  have oR := h.oN
  unfold ldOwn at oR
  rw [hn] at oR
  have hl := ldFlat_len now
  have key : ∀ i, i < 3 * n → wr.cell? ⟨g, i, none⟩ = some (.int .i64 ((ldFlat now).getD i 0)) := fun i hi => by
    rw [World.ownsRow.cellAt oR i (by omega), List.getElem?_map, List.getElem?_eq_getElem (by omega)]
    simp [List.getElem?_eq_getElem (show i < (ldFlat now).length by omega)]
  obtain ⟨e0, e1, e2⟩ := ldFlat_at now j
  rw [Nat.mul_comm j 3, ← e0, ← e1, ← e2]
  exact ⟨key _ (by omega), key _ (by omega), key _ (by omega)⟩
theorem RfR.free {g : Nat} (h : RfR w wr (some ⟨g, 0, none⟩) n cN gB am k cm now gone made) (o : Nat) : wr.frozen? ⟨g, o, none⟩ = false := by
  have oR := h.oN
  unfold ldOwn at oR
  rw [h.n_eq] at oR
  exact World.ownsRow.frozenAt oR o
theorem RfR.row (h : RfR w wr aN n cN gB am k cm now gone made) (hw : ∀ u ∈ ldFlat now, (Lit.int .i64 u).wf = true) : RowK .i64 wr aN (3 * n) (ldFlat now) := by
  obtain ⟨a, c, e, r, _⟩ := RowK.ofMany h.oN hw
  rw [h.n_eq] at e r
  cases e
  exact r
end
/-- the document's answer on its way. -/
structure RfSt (w wr : World) (nodes m : Nat) (aN : Option Addr) (n cN gB : Nat) (am : Option Addr) (k cm : Nat) (made all : List Pl) : Prop where
  ex : ∃ now gone ws rest, Now nodes now gone ws rest ∧ RfR w wr aN n cN gB am k cm now gone made ∧ made ++ plansF (m - k) ws rest = all
theorem now_works {nodes : Nat} {now rest : List Ld} {gone : Int → Bool} {ws : List Int} (h : Now nodes now gone ws rest) : gapOf ws = workAt now (busyOf ws : Nat) - workAt now (idleOf ws : Nat) := by
  have := gapOf_at now nodes h.pos
  rwa [← h.ws_eq] at this
theorem false4 : (Try.prog.info? 4).map (fun i => (i.zero, i.size, i.bytes)) = some (some (.bool false), 1, 1) := by kernel_rfl
theorem run_make4 (w : World) : (Instr.makeSlice 55 (.int .i64 4) (.int .i64 4)).run Try.prog w = .ok (.slice (some ⟨w.heap.size, 0, none⟩) 4 4) (w.alloc (.cells #[.bool false, .bool false, .bool false, .bool false] 4)) := by
  obtain ⟨i, h1, h2, h3, h4⟩ := info_ofP false4
  have := run_make (P := Try.prog) w 55 4 i (.bool false) Try.underlying55 h1 h2 .i64 .i64 4 4 (by omega) (by omega) (by rw [h4]; omega) (by omega)
  rw [h3] at this
  have e : madeCells (Value.bool false).cells (Int.toNat 4 * 1) = #[.bool false, .bool false, .bool false, .bool false] := Array.toList_inj.1 (by rw [show (Value.bool false).cells = #[.bool false] from rfl, toList_madeCells_one]; rfl)
  rw [e] at this
  exact this
set_option maxRecDepth 20000 in
set_option maxHeartbeats 4000000 in
theorem refBalanced_any (nodes moves : Int) (a : Option Addr) (c : Nat) (l : List Ld) (w : World) (hA : RowK .i64 w a (3 * l.length) (ldFlat l)) (hl : l.length * 24 ≤ 140737488351232) :
    Calls Try.prog 12 #[.slice a l.length c, .int .i64 nodes, .int .i64 moves] w fun e w' => ∃ v, e = .returned (.tuple #[v, .int .i64 (balOf nodes moves l)]) ∧ plOwn w' w.heap.size v (plansOf nodes moves l) ∧ Below w.heap.size w w' := by
  obtain ⟨i2, hi2, hz20, hz21, hz22⟩ := info_ofP Try.infoPlan
  obtain ⟨i3, hi3, hz30, hz31, hz32⟩ := info_ofP Try.infoLoad
  have HC := loadsFault_any nodes a c l w hA (by omega)
  rcases loadsOf_cases nodes l with h0 | ⟨h0, h1, h5, hr⟩
  · have e0 : balOf nodes moves l = loadsOf nodes l := by unfold balOf; rw [if_neg h0]
    have e1 : plansOf nodes moves l = [] := by unfold plansOf; rw [e0, if_neg h0]
    rw [e1, e0]
    clear e1 e0
    generalize loadsOf nodes l = e0 at *
    generalize l.length = n at *
    have hb : (e0 != 0) = true := by simpa using h0
    clear hA
    go_enter Try.func12, Try.ntmps12
    go_wp2_with (go_at_call 23; refine HC.mono ?_; rintro _ w1 ⟨rfl, b1⟩; have B1 := veil b1; clear b1 HC)
    exact bodyPost_ret (v := .tuple #[.slice none 0 0, .int .i64 e0]) (by simp [results, Try.results12, go_sem]) rfl ⟨_, rfl, plOwn.none _ _, unveil B1⟩
  by_cases hm : 0 ≤ moves ∧ moves ≤ 4
  case neg =>
    have e0 : balOf nodes moves l = 2 := by unfold balOf; rw [if_pos h0, if_neg hm]
    have e1 : plansOf nodes moves l = [] := by unfold plansOf; rw [e0, if_neg (by decide)]
    rw [e1, e0]
    have Hm := inB_no hm
    rw [h0] at HC
    clear e1 e0 hA
    go_enter Try.func12, Try.ntmps12
    go_wp2_with (first | (go_at_call 23; refine HC.mono ?_; rintro _ w1 ⟨rfl, b1⟩; have B1 := veil b1; clear b1 HC) | (go_at_call 29; refine (In_is (by assumption) _).mono ?_; rintro _ w1 ⟨rfl, rfl⟩))
    exact bodyPost_ret (v := .tuple #[.slice none 0 0, .int .i64 2]) (by simp [results, Try.results12, go_sem]) rfl ⟨_, rfl, plOwn.none _ _, unveil B1⟩
  have e0 : balOf nodes moves l = 0 := by unfold balOf; rw [if_pos h0, if_pos hm]
  have e1 : plansOf nodes moves l = plansF moves.toNat (works l nodes.toNat) l := by unfold plansOf; rw [if_pos e0]
  rw [e1, e0]
  have Hm := inB_yes hm
  rw [h0] at HC
  obtain ⟨nd, rfl⟩ : ∃ m : Nat, nodes = m := ⟨nodes.toNat, by omega⟩
  obtain ⟨m, rfl⟩ : ∃ k : Nat, moves = k := ⟨moves.toNat, by omega⟩
  simp only [Int.toNat_natCast]
  have hl4 := hr.len
  have hwf := hA.wf
  have HBeg : Hid (∀ w2 aN cN, ldOwn w2 w.heap.size (.slice aN l.length cN) l → Below w.heap.size w w2 → RfSt w (w2.alloc (.cells #[.bool false, .bool false, .bool false, .bool false] 4)) nd m aN l.length cN w2.heap.size none 0 0 [] (plansF m (works l nd) l)) := veil fun w2 aN cN o b => ⟨⟨l, fun _ => false, works l nd, l, Now.begin hr (by omega), ⟨own_still o (fun g _ hg => (below1 w2 _).block g hg), rfl, heap_alloc_new w2 _, b.size, World.ownsRow_nil _ _ _ _, rfl, b.trans ((below1 w2 _).mono b.size)⟩, rfl⟩⟩
  have HT3 : Hid (∀ k, k < l.length → ldFlat (l.take (k + 1)) = ldFlat (l.take k) ++ [(ldAt l k).q, (ldAt l k).n, (ldAt l k).w]) := veil fun k hk => by rw [take_ld l k hk, ldFlat_append]; rfl
  have HTl : Hid (l.take l.length = l) := veil List.take_length
  have HLt : Hid (∀ k, k ≤ l.length → (l.take k).length = k) := veil fun k hk => by simp; omega
  clear e0 e1 h0 hr
  generalize plansF m (works l nd) l = all at *
  generalize hN : l.length = n at *
  clear hN
  go_enter Try.func12, Try.ntmps12
  go_wp2_with (first | (go_at_call 23; refine HC.mono ?_; rintro _ w1 ⟨rfl, b1⟩; have B1 := veil b1; clear b1 HC) | (go_at_call 29; refine (In_is (by assumption) _).mono ?_; rintro _ w1 ⟨rfl, rfl⟩))
  go_loopw [9, 10] (fun v t wr => ∃ k : Nat, ∃ aN cN, k ≤ n ∧ t = .int .i64 k ∧ v = .slice aN k cN ∧ wr.ownsRow w.heap.size 41 3 v k ((ldFlat (l.take k)).map (Value.int .i64)) ∧ Below w.heap.size w wr) (fun _ t _ => n - (intOf t).toNat)
  case atStart => exact ⟨0, _, _, Nat.zero_le _, rfl, rfl, World.ownsRow_nil _ _ _ _, unveil B1⟩
  case round =>
    obtain ⟨k, aN, cN, hk, rfl, rfl, ow, bel⟩ := hrel
    by_cases hlt : k < n
    · have rA := hA.below bel
      obtain ⟨b, off, rfl⟩ := hA.form (by omega)
      obtain ⟨x0, x1, x2⟩ := rA.three k hlt
      have hT := veil (unveil HT3 k hlt)
      have hbl : b < wr.heap.size := rA.lt (by omega)
      have hbn : b ≠ wr.heap.size := by omega
      have HA := veil hA
      clear rA hA
      generalize (ldAt l k).q = q at *
      generalize (ldAt l k).n = xn at *
      generalize (ldAt l k).w = xw at *
      have b5 : Below wr.heap.size wr (wr.alloc (.cells #[.int .i64 q, .int .i64 xn, .int .i64 xw] 41)) := below1 _ _
      have HO5 : Hid ((wr.alloc (.cells #[.int .i64 q, .int .i64 xn, .int .i64 xw] 41)).ownsRow w.heap.size 41 3 (.slice aN k cN) k ((ldFlat (l.take k)).map (Value.int .i64))) := veil (own_still ow (fun g _ hg => b5.block g hg))
      have hws : w.heap.size ≤ wr.heap.size := bel.size
      have HG : Hid (∀ w4, (wr.alloc (.cells #[.int .i64 q, .int .i64 xn, .int .i64 xw] 41)).grownBy w4 (Value.slice aN k cN).ownBlock → Below w.heap.size w w4) := veil fun w4 g => (bel.trans (b5.mono bel.size)).grown g (by have := b5.size; omega) (fun q hq => (ow.lt q hq).1)
      clear ow bel b5
      go_wp2_with (at_builtin; refine wpList_append_own _ rfl _ _ 22 rfl w.heap.size 41 i3 _ 3 24 Try.underlying22 hi3 hz30 hz31 hz32 rfl (by decide) (.slice aN k cN) k ((ldFlat (l.take k)).map (Value.int .i64)) rfl (unveil HO5) ⟨wr.heap.size, 0, none⟩ 1 1 ([q, xn, xw].map (Value.int .i64)) rfl rfl (news3 _ _ _ _ _) (ints_oneCell _ _) (by unfold maxLen; omega) (by omega) (by simp; omega) ?_; intro v' w4 own4 grow4 _; obtain ⟨a', cap', rfl⟩ := own_form own4; rw [← List.map_append, ← unveil hT] at own4; have HO4 := veil own4; have HB4 := veil (unveil HG w4 grow4); clear own4 grow4)
      all_goals (go_roundw <;> first | exact ⟨k + 1, _, _, by omega, by go_num, rfl, unveil HO4, unveil HB4⟩ | (simp [intOf]; omega))
    · have hkn : k = n := by omega
      have hmk := run_make4 wr
      have HS := veil (unveil HBeg wr aN cN (by
        have h2 := ow
        unfold ldOwn
        rw [hkn, unveil HTl] at h2
        have h3 := unveil HLt n (Nat.le_refl _)
        rw [unveil HTl] at h3
        rw [h3]
        exact h2) bel)
      clear ow bel hA HBeg HT3 HTl HLt
      obtain rfl : n = k := hkn.symm
      clear hkn
      go_wp2
      clear hmk
      generalize wr.alloc (.cells #[.bool false, .bool false, .bool false, .bool false] 4) = W0 at HS ⊢
      generalize wr.heap.size = gB at HS ⊢
      go_loopw [12] (fun mv wo => ∃ k : Nat, ∃ am cm made, k ≤ m ∧ mv = .slice am k cm ∧ RfSt w wo nd m aN n cN gB am k cm made all) (fun mv _ => match mv with | .slice _ q _ => m - q | _ => 0)
      case atStart => exact ⟨0, _, _, _, Nat.zero_le _, rfl, unveil HS⟩
      case round =>
        clear HS
        obtain ⟨k, am, cm, made, hk, rfl, S⟩ := hrel
        obtain ⟨now, gone, ws, rest, N, R, hall⟩ := S.ex
        clear S
        by_cases hlt : k < m
        · have hnow := R.n_eq
          have hrow := R.row (flat_wf nd (by omega) now N.rise.mem)
          have HB : Calls Try.prog 24 #[.slice aN n cN, .int .i64 nd] wr fun e w' => e = .returned (.tuple #[.int .i64 (busyOf ws), .int .i64 (idleOf ws)]) ∧ w' = wr := by
            have := refBusiest_any nd aN cN now wr (by rw [hnow]; exact hrow) (by omega) (by omega) N.rise
            rw [hnow, ← N.ws_eq] at this
            exact this
          have HW : ∀ z, Calls Try.prog 25 #[.slice aN n cN, .int .i64 z] wr fun e w' => e = .returned (.int .i64 (workAt now z)) ∧ w' = wr := fun z => by
            have := workAt_any z nd aN cN now wr (by rw [hnow]; exact hrow) N.rise
            rw [hnow] at this
            exact this
          have hgap := now_works N
          have y1 := N.rise.work (busyOf ws : Nat)
          have z1 := N.rise.work (idleOf ws : Nat)
          have BB := veil (BestFrom.begin (l := now) (node := busyOf ws) (gap := gapOf ws) (gone := gone))
          have HNo := veil (fun h => N.best_none h)
          have HSo := veil (fun b h => N.best_some (b := b) h)
          have HO := veil (fun j (hj : j < now.length) => N.rise.ok j hj)
          obtain ⟨e1, e2⟩ := N.ends
          have HN := veil N
          have HR := veil R
          have hallH := veil hall
          clear N R hrow hall
          rw [hgap] at BB HNo HSo
          rw [hnow] at BB HO
          clear hgap
          have HBu : Hid (∃ bu, bu = busyOf ws) := veil ⟨_, rfl⟩
          clear HBu
          generalize hbu : busyOf ws = bu at *
          generalize hid : idleOf ws = id at *
          have Hbu := veil hbu
          have Hidl := veil hid
          clear hbu hid
          generalize hf : workAt now = f at *
          have Hf := veil hf
          clear hf
          have HNl := veil hnow
          clear hnow
          go_wp2_with (first | (go_at_call 24; refine HB.mono ?_; rintro _ wr ⟨rfl, rfl⟩; clear HB) | (go_at_call 25; refine (HW _).mono ?_; rintro _ wr ⟨rfl, rfl⟩))
          clear HW
          obtain ⟨gp, hgp⟩ : ∃ gp, gp = f bu - f id := ⟨_, rfl⟩
          rw [← hgp] at BB HNo HSo ⊢
          have hg1 : -4294967296 ≤ gp := by omega
          have hg2 : gp ≤ 4294967296 := by omega
          have Hgp := veil hgp
          clear hgp y1 z1
          have HRx : Hid (∀ wx, Below wr.heap.size wr wx → RfR w wx aN n cN gB am k cm now gone made) := veil fun wx b => (unveil HR).below b
          clear HR
          go_loopw [16, 17] (fun bv t wx => ∃ j : Nat, ∃ b : Int, j ≤ n ∧ t = .int .i64 ((j : Int) - 1) ∧ bv = .int .i64 b ∧ Hid (BestFrom now bu gp gone j b) ∧ Below wr.heap.size wr wx) (fun _ t _ => (intOf t + 1).toNat)
          case atStart => exact ⟨n, -1, Nat.le_refl _, rfl, rfl, BB, Below.refl _ _⟩
          case round =>
            clear BB
            obtain ⟨j, b, hj, rfl, rfl, HB1, bel⟩ := hrel
            have R1 := unveil HRx wr bel
            cases j with
            | zero =>
              have hca := (unveil HB1).cases'
              rcases hca with rfl | ⟨bk, rfl, hbk⟩
              · have hg := unveil HNo (unveil HB1)
                have hal : Hid (all = made) := veil (by have := unveil hallH; rw [plansF_stop hg, List.append_nil] at this; exact this.symm)
                have RH := veil R1
                clear HNo HSo HO HRx HB1 R1 hg bel HN hallH
                go_wp2
                exact bodyPost_ret (v := .tuple #[.slice am k cm, .int .i64 0]) (by simp [results, Try.results12, go_sem]) rfl ⟨_, rfl, by unfold plOwn; rw [unveil hal, (unveil RH).len]; exact (unveil RH).oM, (unveil RH).bel⟩
              · have hbn : bk < n := by rw [← unveil HNl]; exact hbk
                obtain ⟨jj, hgo, hjj, hld, hcd⟩ := unveil HSo bk (unveil HB1)
                obtain ⟨g, rfl⟩ := R1.head (by omega)
                have ho := unveil HO bk hbn
                obtain ⟨x0, x1, x2⟩ := R1.at3 bk hbn
                obtain ⟨qn, hqn⟩ : ∃ qn : Nat, (ldAt now bk).q = qn := ⟨(ldAt now bk).q.toNat, by have := ho.q0; omega⟩
                have hq4 : qn < 4 := by have := ho.q3; omega
                have hft : bu ≠ id := by
                  intro he
                  have h2 := hcd.2.1
                  have h3 := hcd.2.2
                  have h4 := unveil Hgp
                  rw [he] at h4
                  omega
                have HNw : Hid (Now nd (now.set bk ⟨(ldAt now bk).q, id, (ldAt now bk).w⟩) (fun z => gone z || z == (qn : Int)) (shift ws bu id (ldAt now bk).w) (rest.eraseIdx jj)) := veil (by
                  have := (unveil HN).goes hjj hbk hld.symm (f := bu) (t := id) (by rw [hld]; exact hcd.1) e1 e2 hft
                  rw [hld, hqn] at this
                  rw [hqn]
                  exact this)
                have HAl : Hid ((made ++ [⟨(qn : Int), bu, id⟩]) ++ plansF (m - (k + 1)) (shift ws bu id (ldAt now bk).w) (rest.eraseIdx jj) = all) := veil (by
                  have := unveil hallH
                  rw [show m - k = (m - (k + 1)) + 1 by omega, plansF_go hgo, hld, hqn, unveil Hbu, unveil Hidl] at this
                  rw [List.append_assoc]
                  exact this)
                obtain ⟨cg, fg⟩ := R1.b.at qn hq4
                have hT : Hid (plFlat made ++ [(qn : Int), bu, id] = plFlat (made ++ [⟨(qn : Int), bu, id⟩])) := veil (by rw [plFlat_append]; rfl)
                rw [hqn] at x0
                have RH := veil (R1.goneSet qn hq4)
                have hnot : decide ((bk : Int) < 0) = false := by simp
                have hk4 : k + 1 ≤ 4 := by omega
                have hgB : g ≠ gB := by
                  have oN := R1.oN
                  unfold ldOwn at oN
                  exact own_gone oN R1.b (by decide) g rfl
                clear HNo HSo HO HRx HB1 R1 hgo hld hcd bel HN hallH ho hqn x1 x2
                have RA := veil ((unveil RH).below (below1 (wr.setCell ⟨gB, qn, none⟩ (.bool true)) (.cells #[.int .i64 qn, .int .i64 bu, .int .i64 id] 39)))
                have HNs : Hid (∀ j u, ([(qn : Int), bu, id].map (Value.int .i64))[j]? = some u → ((wr.setCell ⟨gB, qn, none⟩ (.bool true)).alloc (.cells #[.int .i64 qn, .int .i64 bu, .int .i64 id] 39)).drew.cell? ((⟨wr.heap.size, 0, none⟩ : Addr).add j) = some u) := veil (by
                  have hs : (wr.setCell ⟨gB, qn, none⟩ (.bool true)).heap.size = wr.heap.size := (Turned.set gB qn wr (.bool true)).size
                  rw [← hs]
                  exact news3 _ _ _ _ _)
                go_wp2_with (at_builtin; refine wpList_append_own _ rfl _ _ 28 rfl w.heap.size 39 i2 _ 3 24 Try.underlying28 hi2 hz20 hz21 hz22 rfl (by decide) (.slice am k cm) k ((plFlat made).map (Value.int .i64)) rfl (unveil RA).oM ⟨wr.heap.size, 0, none⟩ 1 1 ([(qn : Int), bu, id].map (Value.int .i64)) rfl rfl (unveil HNs) (ints_oneCell _ _) (by unfold maxLen; omega) (by omega) (Nat.le_trans (unveil RA).bel.size (Nat.le_refl _)) ?_; intro v' w4 own4 grow4 _; obtain ⟨am', cm', rfl⟩ := own_form own4; rw [← List.map_append, unveil hT] at own4; have R4 := veil ((unveil RA).added own4 grow4); have c9 := ((unveil R4).at3 bk hbn).2.1; have f9 := (unveil R4).free (bk * 3 + 1); clear own4 grow4 RA RH HNs)
                go_roundw
                case rel => exact ⟨k + 1, _, _, _, by omega, rfl, ⟨⟨_, _, _, _, unveil HNw, (unveil R4).nowSet bk hbn id, unveil HAl⟩⟩⟩
                case measure => show m - (k + 1) < m - k; omega
            | succ p =>
              have ep : ((p + 1 : Nat) : Int) - 1 = (p : Int) := by omega
              rw [ep]
              clear ep
              have hp : p < n := by omega
              obtain ⟨g, rfl⟩ := R1.head (by omega)
              obtain ⟨x0, x1, x2⟩ := R1.at3 p hp
              have hgl := (R1.oN.lt g rfl).2
              have hgn : g ≠ wr.heap.size := by omega
              have ho := unveil HO p hp
              have hpn : p < now.length := by rw [unveil HNl]; exact hp
              have HSk := veil (fun h => (unveil HB1).skip (p := p) h)
              have HFi : Hid (b = -1 → CandG bu gp gone (ldAt now p) → BestFrom now bu gp gone p (p : Int)) := veil fun e h => by have h1 := unveil HB1; rw [e] at h1; exact h1.first hpn h
              have HBe : Hid (∀ q : Nat, b = q → CandG bu gp gone (ldAt now p) → (ldAt now q).w ≤ (ldAt now p).w → BestFrom now bu gp gone p (p : Int)) := veil fun q e h h2 => by have h1 := unveil HB1; rw [e] at h1; exact h1.better hpn h h2
              have HWo : Hid (∀ q : Nat, b = q → ¬ (ldAt now q).w ≤ (ldAt now p).w → BestFrom now bu gp gone p (q : Int)) := veil fun q e h2 => by have h1 := unveil HB1; rw [e] at h1; exact h1.worse h2
              have hca := (unveil HB1).cases'
              obtain ⟨qn, hqn⟩ : ∃ qn : Nat, (ldAt now p).q = qn := ⟨(ldAt now p).q.toNat, by have := ho.q0; omega⟩
              have hq4 : qn < 4 := by have := ho.q3; omega
              have HCand : Hid (CandG bu gp gone (ldAt now p) ↔ ((ldAt now p).n = bu ∧ gone qn = false ∧ 1 ≤ (ldAt now p).w ∧ (ldAt now p).w ≤ gp - 1)) := veil (by unfold CandG; rw [hqn])
              rw [hqn] at x0
              clear hqn ho
              generalize CandG bu gp gone (ldAt now p) = cand at *
              generalize (ldAt now p).n = xn at *
              generalize (ldAt now p).w = xw at *
              have BX := veil (bel.trans ((below1 wr (.cells #[.int .i64 qn, .int .i64 xn, .int .i64 xw] 41)).mono bel.size))
              have R2 := R1.below (below1 wr (.cells #[.int .i64 qn, .int .i64 xn, .int .i64 xw] 41))
              have nb : ldBlock (wr.alloc (.cells #[.int .i64 qn, .int .i64 xn, .int .i64 xw] 41)) wr.heap.size ⟨qn, xn, xw⟩ := heap_alloc_new wr _
              obtain ⟨c0, c1, c2⟩ := nb.cells
              have cg := (R2.b.at qn hq4).1
              have HAt := veil (fun q hq => (R2.at3 q hq).2.2)
              clear HB1 R1 R2 nb bel
              go_wp2_with fail
              generalize wr.alloc (.cells #[.int .i64 qn, .int .i64 xn, .int .i64 xw] 41) = W at *
              clear x0 x1 x2
              by_cases hn1 : xn = bu
              case neg =>
                have HB2 := veil (unveil HSk (fun h => hn1 ((unveil HCand).1 h).1))
                have hb1 : (xn == (bu : Int)) = false := by simpa using hn1
                clear HSk HFi HBe HWo HCand HAt
                go_quiet (first | (go_at_call 29; refine Calls.quiet_of_same (In_is (by assumption) _)))
                go_wp2
                go_roundw
                case rel => exact ⟨p, _, by omega, by go_num, rfl, HB2, below_n (unveil BX) _⟩
                case measure => simp [intOf]
              case pos =>
              subst hn1
              cases hgq : gone qn with
              | true =>
                rw [hgq] at cg
                have HB2 := veil (unveil HSk (fun h => by have := ((unveil HCand).1 h).2.1; rw [hgq] at this; cases this))
                clear HSk HFi HBe HWo HCand HAt hgq
                go_quiet (first | (go_at_call 29; refine Calls.quiet_of_same (In_is (by assumption) _)))
                go_wp2
                go_roundw
                case rel => exact ⟨p, _, by omega, by go_num, rfl, HB2, below_n (unveil BX) _⟩
                case measure => simp [intOf]
              | false =>
                rw [hgq] at cg
                by_cases hw : 1 ≤ xw ∧ xw ≤ gp - 1
                case neg =>
                  have HB2 := veil (unveil HSk (fun h => hw ((unveil HCand).1 h).2.2))
                  have Hw := inB_no hw
                  clear HSk HFi HBe HWo HCand HAt hgq hw
                  go_quiet (first | (go_at_call 29; refine Calls.quiet_of_same (In_is (by assumption) _)))
                  go_wp2
                  go_roundw
                  case rel => exact ⟨p, _, by omega, by go_num, rfl, HB2, below_n (unveil BX) _⟩
                  case measure => simp [intOf]
                case pos =>
                have Hw := inB_yes hw
                have hcd := (unveil HCand).2 ⟨rfl, hgq, hw⟩
                rcases hca with rfl | ⟨bk, rfl, hbk⟩
                · have HB2 := veil (unveil HFi rfl hcd)
                  clear HSk HFi HBe HWo HCand HAt hgq hw hcd
                  go_quiet (first | (go_at_call 29; refine Calls.quiet_of_same (In_is (by assumption) _)))
                  go_wp2
                  go_roundw
                  case rel => exact ⟨p, _, by omega, by go_num, rfl, HB2, below_n (unveil BX) _⟩
                  case measure => simp [intOf]
                · have hbn : bk < n := by rw [← unveil HNl]; exact hbk
                  have cb := unveil HAt bk hbn
                  have hnot : decide ((bk : Int) < 0) = false := by simp
                  by_cases hle : (ldAt now bk).w ≤ xw
                  · have HB2 := veil (unveil HBe bk rfl hcd hle)
                    generalize (ldAt now bk).w = wb at *
                    clear HSk HFi HBe HWo HCand HAt hgq hw hcd
                    go_quiet (first | (go_at_call 29; refine Calls.quiet_of_same (In_is (by assumption) _)))
                    go_wp2
                    go_roundw
                    case rel => exact ⟨p, _, by omega, by go_num, rfl, HB2, below_n (unveil BX) _⟩
                    case measure => simp [intOf]
                  · have HB2 := veil (unveil HWo bk rfl (by omega))
                    generalize (ldAt now bk).w = wb at *
                    clear HSk HFi HBe HWo HCand HAt hgq hw hcd
                    go_quiet (first | (go_at_call 29; refine Calls.quiet_of_same (In_is (by assumption) _)))
                    go_wp2
                    go_roundw
                    case rel => exact ⟨p, _, by omega, by go_num, rfl, HB2, below_n (unveil BX) _⟩
                    case measure => simp [intOf]
        · have hkm : k = m := by omega
          have hal : Hid (all = made) := veil (by have h := hall; rw [hkm, Nat.sub_self] at h; simpa [plansF] using h.symm)
          have RH := veil R
          clear R N hall hkm
          go_wp2
          exact bodyPost_ret (v := .tuple #[.slice am k cm, .int .i64 0]) (by simp [results, Try.results12, go_sem]) rfl ⟨_, rfl, by unfold plOwn; rw [unveil hal, (unveil RH).len]; exact (unveil RH).oM, (unveil RH).bel⟩
end Go.Proofs.Ytmkbidglfnpgjaa
