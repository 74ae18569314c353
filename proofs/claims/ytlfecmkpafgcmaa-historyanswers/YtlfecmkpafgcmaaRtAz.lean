/- The document's answer's Told and Replayed: what a list of events makes. -/
import Derived.Test.YtlfecmkpafgcmaaRqJz
import Derived.Test.YtlfecmkpafgcmaaHsAll
import Derived.Test.YtlfecmkpafgcmaaKkAll
import Derived.Deep.DeepCutAuto
namespace Go.Proofs.Ytlfecmkpafgcmaa
open Go.RowKit

theorem ret_Told {W : World} {Z : Nat} {ep nx gv : Int} {r l va : Value} {ws : Nat → Value} {er : Int} {tmps : Array Value} (q : qBlock W Z ep nx gv r l ws) (t2 : tmps[2]? = some (.pointer (some ⟨Z, 0, none⟩))) (t3 : tmps[3]? = some va) (t4 : tmps[4]? = some (.int .i64 er)) :
    (results Try.f25 tmps).run Try.prog W = .ok (.tuple #[qVal ep nx gv r l ws, va, .int .i64 er]) W := by
  have h1 := run_loadVar_row (P := Try.prog) W Z 38 38 _ (0, 0) _ q Try.underlying38 rfl (by rw [qCells_size]; exact Try.infoQ)
  simp [results, Try.results25, t2, t3, t4, asAddr, h1]
/-- what QueueDone left in two boxes. -/
def Tc (wr wx : World) (s : St) (v : Ev) (p8 p9 p10 p11 : Value) : Prop :=
  ∃ (X A : Nat) (s' : St) (an : An) (ch : Bool) (er : Int) (b1 : Option Addr) (d1 : Nat) (b2 : Option Addr) (d2 : Nat) (vs : Nat → Value), p8 = .pointer (some ⟨X, 0, none⟩) ∧ p9 = .pointer (some ⟨A, 0, none⟩) ∧ p10 = .bool ch ∧ p11 = .int .i64 er ∧ DoR s v s' an ch er ∧ Bx wx X s' b1 d1 b2 d2 vs ∧ ansBlock wx A an.c an.he an.no an.bd ∧ Below wr.heap.size wr wx ∧ wr.heap.size ≤ X ∧ wr.heap.size ≤ A ∧ s'.rn ≤ d1 ∧ s'.ln ≤ d2 ∧ (∀ x, b1 = some x → wr.heap.size ≤ x.block) ∧ (∀ x, b2 = some x → wr.heap.size ≤ x.block)
/-- the answers that Told gives. -/
inductive Tv (es : List Ev) (w w' : World) : St → Value → Int → Prop
  | bad {er : Int} (h : ¬ er = 0) (hr : Rv es St.zero er) : Tv es w w' St.zero (.slice none 0 0) er
  | told {s : St} {va : Value} (ans : List An) (h : es.length ≤ 2000) (ht : Tells es s ans) (own : w'.ownsRow w.heap.size 50 4 va ans.length ((anFlat ans).map (Value.int .i64))) : Tv es w w' s va 0
theorem Tv.rv {es : List Ev} {w w' : World} {s : St} {va : Value} {er : Int} (h : Tv es w w' s va er) : Rv es s er := by
  cases h with
  | bad h hr => exact hr
  | told ans h ht own => exact .told ans h ht
set_option maxRecDepth 20000 in
set_option maxHeartbeats 8000000 in
theorem told_any (es : List Ev) (a : Option Addr) (cap : Nat) (w : World) (hr : RowK .i64 w a (6 * es.length) (evFlat es)) :
    Calls Try.prog 25 #[.slice a es.length cap] w fun e w' => ∃ x va er s, e = .returned (.tuple #[x, va, .int .i64 er]) ∧ Tv es w w' s va er ∧ QOut w w' s x ∧ Below w.heap.size w w' := by
  obtain ⟨i4, hi4, hz40, hz41, hz42⟩ := info_of Try.infoAns
  by_cases hl : es.length ≤ 2000
  case neg =>
    go_enter Try.func25, Try.ntmps25
    go_wp2_with (first
      | (refine q_alloc 2 rfl rfl rfl ?_; intro W1 z1 b1; have HB1 := veil b1; clear b1)
      | (refine q_build0 rfl rfl ?_)
      | (refine q_store (ra := none) (la := none) (rn := 0) (rc := 0) (ln := 0) (lc := 0) (ws' := zeroW) _ _ rfl rfl rfl rfl z1 zeroWins ?_; intro W4 q4 t4; have HQ4 := veil q4; have HT4 := veil t4; clear q4 t4))
    exact bodyPost_ret (ret_Told (unveil HQ4) rfl rfl rfl) rfl ⟨_, _, _, St.zero, rfl, .bad (by decide) (.size (by omega)), ⟨none, 0, none, 0, zeroW, rfl, RowK.nil _ _ _, RowK.nil _ _ _, Nat.le_refl _, Nat.le_refl _, fun _ => rfl, fun _ => rfl, zeroWins, fun x hx => (by cases hx), fun x hx => (by cases hx)⟩, (unveil HT4).under (unveil HB1) (Nat.le_refl _)⟩
  case pos =>
  go_enter Try.func25, Try.ntmps25
  go_upto_region 6 with (first
    | (refine q_alloc 2 rfl rfl rfl ?_; intro W1 z1 b1)
    | (refine q_alloc 5 rfl rfl rfl ?_; intro W2 z2 b2; have z1' := z1.next b2))
  have s1 : w.heap.size < W1.heap.size := z1.lt
  have P0 : Pl w W2 w.heap.size W1.heap.size St.zero none 0 none 0 zeroW (.slice none 0 0) (.slice none 0 0) [] [] :=
    ⟨z1', ⟨z2, RowK.nil _ _ _, RowK.nil _ _ _, Nat.le_refl _, Nat.le_refl _, fun _ => rfl, fun _ => rfl, zeroWins, (fun x hx => by cases hx), (fun x hx => by cases hx)⟩, World.ownsRow_nil _ _ _ _, World.ownsRow_nil _ _ _ _, Below.next b1 b2, Nat.le_refl _, s1⟩
  obtain ⟨B, hB⟩ : ∃ B, B = W1.heap.size := ⟨_, rfl⟩
  rw [← hB] at P0 s1 ⊢
  clear hB z1 z2 z1' b1 b2
  go_loopw [6, 7] (fun va t wr => ∃ (k : Nat) (s : St) (a1 : Option Addr) (c1 : Nat) (a2 : Option Addr) (c2 : Nat) (ws : Nat → Value) (ans : List An), k ≤ es.length ∧ t = .int .i64 k ∧ Pl w wr w.heap.size B s a1 c1 a2 c2 ws (.slice none 0 0) va [] ans ∧ Hid (Tells (es.take k) s ans)) (fun _ t _ => es.length - (intOf t).toNat)
  case atStart => exact ⟨0, St.zero, none, 0, none, 0, zeroW, [], by omega, rfl, P0, veil (by simpa using Tells.nil)⟩
  case round =>
    obtain ⟨k, s, a1, c1, a2, c2, ws, ans, hk, rfl, P, HH⟩ := hrel
    clear P0
    obtain ⟨aa, ca, rfl⟩ := own_form P.oa
    have hW0 := P.q.wins
    by_cases hlt : k < es.length
    case neg =>
      obtain rfl : k = es.length := by omega
      have q0 := P.q.q
      have z0 := P.z
      have hu := P.upB
      have HP := veil P
      clear P
      go_wp2_with (first
        | (refine q_loads _ rfl rfl rfl q0 ?_)
        | (refine q_store (ra := a1) (la := a2) (ws' := ws) _ _ rfl rfl rfl rfl z0 hW0 ?_; intro W4 q4 t4; have HQ4 := veil q4; have HT4 := veil t4; clear q4 t4))
      have X3 := unveil HP
      have X4 := unveil HT4
      have ht := unveil HH
      rw [List.take_length] at ht
      exact bodyPost_ret (ret_Told (unveil HQ4) rfl rfl rfl) rfl ⟨_, _, _, s, rfl, .told ans hl ht (own_lower (X4.own X3.oa (by omega)) (by omega)), ⟨a1, c1, a2, c2, ws, rfl, X4.row X3.q.r1 (fun x hx _ => by have := X3.q.f1 x hx; omega), X4.row X3.q.r2 (fun x hx _ => by have := X3.q.f2 x hx; omega), X3.q.l1, X3.q.l2, X3.q.n1, X3.q.n2, hW0, fun x hx => Nat.le_of_lt (X3.q.f1 x hx), fun x hx => Nat.le_of_lt (X3.q.f2 x hx)⟩, X4.under X3.bel (Nat.le_refl _)⟩
    case pos =>
    have hrr := hr.below P.bel
    obtain ⟨g, off, rfl⟩ := hr.form (by omega)
    have hgl : g < wr.heap.size := hrr.lt (by omega)
    obtain ⟨x0, x1, x2, x3, x4, x5⟩ := hrr.six k hlt
    have ea : ∀ t, t < 6 → (evFlat es).getD (6 * k + t) 0 = (evCells es[k]).getD t 0 := fun t ht => evFlat_at es k hlt t ht
    rw [show 6 * k = 6 * k + 0 from rfl, ea 0 (by omega)] at x0
    rw [ea 1 (by omega)] at x1
    rw [ea 2 (by omega)] at x2
    rw [ea 3 (by omega)] at x3
    rw [ea 4 (by omega)] at x4
    rw [ea 5 (by omega)] at x5
    obtain ⟨v, hv⟩ : ∃ v, v = es[k] := ⟨_, rfl⟩
    rw [← hv] at x0 x1 x2 x3 x4 x5
    simp only [evCells, List.getD_cons_zero, List.getD_cons_succ] at x0 x1 x2 x3 x4 x5
    have HV := veil hv
    have HR := veil hr
    have q0 := P.q.q
    have hwf := (unveil HH).wf
    have HDo : Hid (∀ W, Below wr.heap.size wr W → Calls Try.prog 36 #[qVal s.ep s.nx s.gv (.slice a1 s.rn c1) (.slice a2 s.ln c2) ws, evIn v] W fun e w' => ∃ (s' : St) (an : An) (ch : Bool) (er : Int) (x : Value), e = .returned (.tuple #[x, anOf an, .bool ch, .int .i64 er]) ∧ DoR s v s' an ch er ∧ QOut W w' s' x ∧ Below W.heap.size W w') := veil fun W hb => queueDone_any s a1 a2 c1 c2 ws v W (P.q.r1.below hb) (P.q.r2.below hb) P.q.wins hwf.ok
    have HP := veil P
    clear P hrr ea hv hr hwf
    go_upto_region 8 with fail
    go_cut [8, 9, 10, 11] (fun p8 p9 p10 p11 wx => Tc wr wx s v p8 p9 p10 p11)
    case first =>
      as_aux_lemma =>
      refine wp_region_held_drew (S := Below wr.heap.size wr) (by kernel_rfl) (below_drew wr) (fun hHeld => ?_)
      refine wpAnyH_take (i := 0) (v := _) rfl (by kernel_rfl) (by kernel_rfl) (by kernel_rfl) (fun _ _ _ h => h) (yields_q _ rfl rfl rfl (fun _ b3 => q0.next b3)) hHeld ?_
      simp only [List.getElem_toArray, List.getElem_cons_zero, Act.put, List.setIfInBounds_toArray, List.set_cons_zero, List.set_cons_succ]
      refine wpAnyH_take (i := 1) (v := .slice (some ⟨g, off, none⟩) es.length cap) rfl (by kernel_rfl) (by kernel_rfl) (by kernel_rfl) (fun _ _ _ h => h) (Or.inl ⟨by rfl, fun _ _ => by go_simp⟩) hHeld ?_
      simp only [List.getElem_toArray, List.getElem_cons_zero, List.getElem_cons_succ, Act.put, List.setIfInBounds_toArray, List.set_cons_zero, List.set_cons_succ]
      refine wpAnyH_take (i := 2) (v := .int .i64 k) rfl (by kernel_rfl) (by kernel_rfl) (by kernel_rfl) (fun _ _ _ h => h) (Or.inl ⟨by rfl, fun _ _ => by go_simp⟩) hHeld ?_
      simp only [List.getElem_toArray, List.getElem_cons_zero, List.getElem_cons_succ, Act.put, List.setIfInBounds_toArray, List.set_cons_zero, List.set_cons_succ]
      refine wpAnyH_take (i := 3) (v := .pointer (some ⟨g, off + k * 6, none⟩)) rfl (by kernel_rfl) (by kernel_rfl) (by kernel_rfl) (fun _ _ _ h => h) (Or.inl ⟨by rfl, fun _ _ => by go_simp⟩) hHeld ?_
      simp only [List.getElem_toArray, List.getElem_cons_zero, List.getElem_cons_succ, Act.put, List.setIfInBounds_toArray, List.set_cons_zero, List.set_cons_succ]
      refine wpAnyH_take (i := 4) (v := .agg #[.int .i64 v.k, .int .i64 v.p, .int .i64 v.i, .int .i64 v.b, .int .i64 v.he, .int .i64 v.hn]) rfl (by kernel_rfl) (by kernel_rfl) (by kernel_rfl) (fun _ _ _ h => h) (Or.inl ⟨by rfl, fun w3 b3 => by have j0 := (b3.cell (p := ⟨g, off + k * 6, none⟩) hgl).trans x0; have j1 := (b3.cell (p := ⟨g, off + k * 6 + 1, none⟩) hgl).trans x1; have j2 := (b3.cell (p := ⟨g, off + k * 6 + 2, none⟩) hgl).trans x2; have j3 := (b3.cell (p := ⟨g, off + k * 6 + 3, none⟩) hgl).trans x3; have j4 := (b3.cell (p := ⟨g, off + k * 6 + 4, none⟩) hgl).trans x4; have j5 := (b3.cell (p := ⟨g, off + k * 6 + 5, none⟩) hgl).trans x5; go_simp⟩) hHeld ?_
      simp only [List.getElem_toArray, List.getElem_cons_zero, List.getElem_cons_succ, Act.put, List.setIfInBounds_toArray, List.set_cons_zero, List.set_cons_succ]
      have bW0 := below_drew wr
      have hz0 : wr.heap.size ≤ wr.drew.heap.size := bW0.size
      obtain ⟨W0, hW0⟩ : ∃ W0, W0 = wr.drew := ⟨_, rfl⟩
      rw [← hW0] at bW0 hz0 hHeld ⊢
      clear hW0
      refine wpAnyH_ready (rs := [5, 11, 12]) (by kernel_rfl) (by simp) ?_
      refine AllReadyH.cons rfl (fun K hK => ?_) (AllReadyH.cons rfl (fun K hK => ?_) (AllReadyH.cons rfl (fun K hK => ?_) AllReadyH.nil))
      · simp only [List.getElem_toArray, List.getElem_cons_zero, List.getElem_cons_succ]
        go_simp
        refine (unveil HDo _ bW0).mono ?_
        rintro e WC ⟨s', an, ch, er, x', rfl, hs', ⟨⟨b1', d1', b2', d2', vs', rfl, r1, r2, l1', l2', n1, n2, hW'', f1, f2⟩⟩, bn⟩
        have HS' := veil hs'
        clear hs'
        have hr1 := fun x hx h0 => r1.blk_lt x hx h0
        have hr2 := fun x hx h0 => r2.blk_lt x hx h0
        have bWC := Below.next bW0 bn
        have hSWC : W0.heap.size ≤ WC.heap.size := bn.size
        refine hK.out _ _ bWC (fun hHeld => ?_)
        clear hK K bn
        refine wpAnyH_take (i := 6) (v := .tuple #[qVal s'.ep s'.nx s'.gv (.slice b1' s'.rn d1') (.slice b2' s'.ln d2') vs', ansVal an.c an.he an.no an.bd, .bool ch, .int .i64 er]) rfl (by kernel_rfl) (by kernel_rfl) (by kernel_rfl) (fun _ _ _ h => h) (Or.inl ⟨by rfl, fun _ _ => by go_simp⟩) hHeld ?_
        simp only [List.getElem_toArray, List.getElem_cons_zero, List.getElem_cons_succ, Act.put, List.setIfInBounds_toArray, List.set_cons_zero, List.set_cons_succ]
        refine wpAnyH_take (i := 7) (v := qVal s'.ep s'.nx s'.gv (.slice b1' s'.rn d1') (.slice b2' s'.ln d2') vs') rfl (by kernel_rfl) (by kernel_rfl) (by kernel_rfl) (fun _ _ _ h => h) (Or.inl ⟨by rfl, fun _ _ => by go_simp⟩) hHeld ?_
        simp only [List.getElem_toArray, List.getElem_cons_zero, List.getElem_cons_succ, Act.put, List.setIfInBounds_toArray, List.set_cons_zero, List.set_cons_succ]
        refine wpAnyH_take (i := 8) (v := ansVal an.c an.he an.no an.bd) rfl (by kernel_rfl) (by kernel_rfl) (by kernel_rfl) (fun _ _ _ h => h) (Or.inl ⟨by rfl, fun _ _ => by go_simp⟩) hHeld ?_
        simp only [List.getElem_toArray, List.getElem_cons_zero, List.getElem_cons_succ, Act.put, List.setIfInBounds_toArray, List.set_cons_zero, List.set_cons_succ]
        refine wpAnyH_take (i := 9) (v := .bool ch) rfl (by kernel_rfl) (by kernel_rfl) (by kernel_rfl) (fun _ _ _ h => h) (Or.inl ⟨by rfl, fun _ _ => by go_simp⟩) hHeld ?_
        simp only [List.getElem_toArray, List.getElem_cons_zero, List.getElem_cons_succ, Act.put, List.setIfInBounds_toArray, List.set_cons_zero, List.set_cons_succ]
        refine wpAnyH_take (i := 10) (v := .int .i64 er) rfl (by kernel_rfl) (by kernel_rfl) (by kernel_rfl) (fun _ _ _ h => h) (Or.inl ⟨by rfl, fun _ _ => by go_simp⟩) hHeld ?_
        simp only [List.getElem_toArray, List.getElem_cons_zero, List.getElem_cons_succ, Act.put, List.setIfInBounds_toArray, List.set_cons_zero, List.set_cons_succ]
        refine wpAnyH_ready (rs := [11, 12]) (by kernel_rfl) (by simp) ?_
        refine AllReadyH.cons rfl (fun K hK => ?_) (AllReadyH.cons rfl (fun K hK => ?_) AllReadyH.nil)
        · simp only [List.getElem_toArray, List.getElem_cons_zero, List.getElem_cons_succ]
          refine ite_wanted rfl ?_
          refine q_alloc_wp 8 rfl rfl ?_
          intro WCQ zq bn
          have hXq : WC.heap.size < WCQ.heap.size := zq.lt
          have bWCQ := Below.next bWC bn
          have r1 := r1.below bn
          have r2 := r2.below bn
          have hSWCQ : WC.heap.size ≤ WCQ.heap.size := bn.size
          refine hK.out _ _ bWCQ (fun hHeld => ?_)
          clear hK K bn
          refine wpAnyH_ready (rs := [12]) (by kernel_rfl) (by simp) ?_
          refine AllReadyH.cons rfl (fun K hK => ?_) AllReadyH.nil
          · simp only [List.getElem_toArray, List.getElem_cons_zero, List.getElem_cons_succ]
            go_simp
            obtain ⟨WCQA, hWCQA, ya, bn⟩ : ∃ W, W = WCQ.alloc (.cells #[.int .i64 0, .int .i64 0, .int .i64 0, .int .i64 0] 50) ∧ ansBlock W WCQ.heap.size 0 0 0 0 ∧ Below WCQ.heap.size WCQ W := ⟨_, rfl, ansBlock.new _ 0 0 0 0, below1 _ _⟩
            rw [← hWCQA]
            have hXa : WCQ.heap.size < WCQA.heap.size := ya.lt
            have bWCQA := Below.next bWCQ bn
            clear hWCQA
            have zq := zq.next bn
            have r1 := r1.below bn
            have r2 := r2.below bn
            have hSWCQA : WCQ.heap.size ≤ WCQA.heap.size := bn.size
            refine hK.out _ _ bWCQA (fun hHeld => ?_)
            clear hK K bn
            refine wpAnyH_ready (rs := [13]) (by kernel_rfl) (by simp) ?_
            refine AllReadyH.cons rfl (fun K hK => ?_) AllReadyH.nil
            simp only [List.getElem_toArray, List.getElem_cons_zero, List.getElem_cons_succ]
            refine ite_wanted rfl ?_
            refine q_store_wp (ra := b1') (la := b2') (ws' := vs') _ _ rfl rfl rfl zq hW'' ?_
            intro Wq q5 t5
            have ya5 := ya.turned t5 (by omega)
            have r15 := t5.row r1 (fun x hx h0 => by have := f1 x hx; have := hr1 x hx h0; omega)
            have r25 := t5.row r2 (fun x hx h0 => by have := f2 x hx; have := hr2 x hx h0; omega)
            have b5 := t5.under bWCQA (by omega)
            refine hK.out _ _ b5 (fun hHeld => ?_)
            clear hK K
            refine wpAnyH_ready (rs := [14]) (by kernel_rfl) (by simp) ?_
            refine AllReadyH.cons rfl (fun K hK => ?_) AllReadyH.nil
            simp only [List.getElem_toArray, List.getElem_cons_zero, List.getElem_cons_succ]
            obtain ⟨y0, y1, y2, y3⟩ := ya5.cells
            have yf := ya5.free
            go_simp
            have t6 := ans_turned Wq (WCQ.heap.size) an.c an.he an.no an.bd
            have ya6 := ya5.store an.c an.he an.no an.bd
            have q6 := t6.queue q5 (by omega)
            have b6 := t6.under b5 (by omega)
            have X6 : Bx _ (WC.heap.size) s' b1' d1' b2' d2' vs' := ⟨q6, t6.row r15 (fun x hx h0 => by have := f1 x hx; have := hr1 x hx h0; omega), t6.row r25 (fun x hx h0 => by have := f2 x hx; have := hr2 x hx h0; omega), n1, n2, hW''⟩
            unfold ansStore at ya6 X6 b6
            refine hK.out _ _ b6 (fun hHeld => ?_)
            clear hK K y0 y1 y2 y3 yf q6 t6
            generalize (((Wq.setCell ⟨WCQ.heap.size, 0, none⟩ (.int .i64 an.c)).setCell ⟨WCQ.heap.size, 1, none⟩ (.int .i64 an.he)).setCell ⟨WCQ.heap.size, 2, none⟩ (.int .i64 an.no)).setCell ⟨WCQ.heap.size, 3, none⟩ (.int .i64 an.bd) = W6 at ya6 X6 b6 hHeld ⊢
            refine wpAnyH_take (i := 15) (v := .bool ch) rfl (by kernel_rfl) (by kernel_rfl) (by kernel_rfl) (fun _ _ _ h => h) (Or.inl ⟨by rfl, fun _ _ => by go_simp⟩) hHeld ?_
            simp only [List.getElem_toArray, List.getElem_cons_zero, List.getElem_cons_succ, Act.put, List.setIfInBounds_toArray, List.set_cons_zero, List.set_cons_succ]
            refine wpAnyH_take (i := 16) (v := .int .i64 er) rfl (by kernel_rfl) (by kernel_rfl) (by kernel_rfl) (fun _ _ _ h => h) (Or.inl ⟨by rfl, fun _ _ => by go_simp⟩) hHeld ?_
            simp only [List.getElem_toArray, List.getElem_cons_zero, List.getElem_cons_succ, Act.put, List.setIfInBounds_toArray, List.set_cons_zero, List.set_cons_succ]
            refine wpAnyH_done (by kernel_rfl) ?_ _
            go_wp2_with fail
            go_meet
            exact ⟨_, _, s', an, ch, er, b1', d1', b2', d2', vs', rfl, rfl, rfl, rfl, unveil HS', X6, ya6, b6, (by omega), (by omega), l1', l2', fun x hx => by have := f1 x hx; omega, fun x hx => by have := f2 x hx; omega⟩
        · simp only [List.getElem_toArray, List.getElem_cons_zero, List.getElem_cons_succ]
          go_simp
          obtain ⟨WCA, hWCA, ya, bn⟩ : ∃ W, W = WC.alloc (.cells #[.int .i64 0, .int .i64 0, .int .i64 0, .int .i64 0] 50) ∧ ansBlock W WC.heap.size 0 0 0 0 ∧ Below WC.heap.size WC W := ⟨_, rfl, ansBlock.new _ 0 0 0 0, below1 _ _⟩
          rw [← hWCA]
          have hXa : WC.heap.size < WCA.heap.size := ya.lt
          have bWCA := Below.next bWC bn
          clear hWCA
          have r1 := r1.below bn
          have r2 := r2.below bn
          have hSWCA : WC.heap.size ≤ WCA.heap.size := bn.size
          refine hK.out _ _ bWCA (fun hHeld => ?_)
          clear hK K bn
          refine wpAnyH_ready (rs := [11]) (by kernel_rfl) (by simp) ?_
          refine AllReadyH.cons rfl (fun K hK => ?_) AllReadyH.nil
          · simp only [List.getElem_toArray, List.getElem_cons_zero, List.getElem_cons_succ]
            refine ite_wanted rfl ?_
            refine q_alloc_wp 8 rfl rfl ?_
            intro WCAQ zq bn
            have hXq : WCA.heap.size < WCAQ.heap.size := zq.lt
            have bWCAQ := Below.next bWCA bn
            have ya := ya.next bn
            have r1 := r1.below bn
            have r2 := r2.below bn
            have hSWCAQ : WCA.heap.size ≤ WCAQ.heap.size := bn.size
            refine hK.out _ _ bWCAQ (fun hHeld => ?_)
            clear hK K bn
            refine wpAnyH_ready (rs := [13]) (by kernel_rfl) (by simp) ?_
            refine AllReadyH.cons rfl (fun K hK => ?_) AllReadyH.nil
            simp only [List.getElem_toArray, List.getElem_cons_zero, List.getElem_cons_succ]
            refine ite_wanted rfl ?_
            refine q_store_wp (ra := b1') (la := b2') (ws' := vs') _ _ rfl rfl rfl zq hW'' ?_
            intro Wq q5 t5
            have ya5 := ya.turned t5 (by omega)
            have r15 := t5.row r1 (fun x hx h0 => by have := f1 x hx; have := hr1 x hx h0; omega)
            have r25 := t5.row r2 (fun x hx h0 => by have := f2 x hx; have := hr2 x hx h0; omega)
            have b5 := t5.under bWCAQ (by omega)
            refine hK.out _ _ b5 (fun hHeld => ?_)
            clear hK K
            refine wpAnyH_ready (rs := [14]) (by kernel_rfl) (by simp) ?_
            refine AllReadyH.cons rfl (fun K hK => ?_) AllReadyH.nil
            simp only [List.getElem_toArray, List.getElem_cons_zero, List.getElem_cons_succ]
            obtain ⟨y0, y1, y2, y3⟩ := ya5.cells
            have yf := ya5.free
            go_simp
            have t6 := ans_turned Wq (WC.heap.size) an.c an.he an.no an.bd
            have ya6 := ya5.store an.c an.he an.no an.bd
            have q6 := t6.queue q5 (by omega)
            have b6 := t6.under b5 (by omega)
            have X6 : Bx _ (WCA.heap.size) s' b1' d1' b2' d2' vs' := ⟨q6, t6.row r15 (fun x hx h0 => by have := f1 x hx; have := hr1 x hx h0; omega), t6.row r25 (fun x hx h0 => by have := f2 x hx; have := hr2 x hx h0; omega), n1, n2, hW''⟩
            unfold ansStore at ya6 X6 b6
            refine hK.out _ _ b6 (fun hHeld => ?_)
            clear hK K y0 y1 y2 y3 yf q6 t6
            generalize (((Wq.setCell ⟨WC.heap.size, 0, none⟩ (.int .i64 an.c)).setCell ⟨WC.heap.size, 1, none⟩ (.int .i64 an.he)).setCell ⟨WC.heap.size, 2, none⟩ (.int .i64 an.no)).setCell ⟨WC.heap.size, 3, none⟩ (.int .i64 an.bd) = W6 at ya6 X6 b6 hHeld ⊢
            refine wpAnyH_take (i := 15) (v := .bool ch) rfl (by kernel_rfl) (by kernel_rfl) (by kernel_rfl) (fun _ _ _ h => h) (Or.inl ⟨by rfl, fun _ _ => by go_simp⟩) hHeld ?_
            simp only [List.getElem_toArray, List.getElem_cons_zero, List.getElem_cons_succ, Act.put, List.setIfInBounds_toArray, List.set_cons_zero, List.set_cons_succ]
            refine wpAnyH_take (i := 16) (v := .int .i64 er) rfl (by kernel_rfl) (by kernel_rfl) (by kernel_rfl) (fun _ _ _ h => h) (Or.inl ⟨by rfl, fun _ _ => by go_simp⟩) hHeld ?_
            simp only [List.getElem_toArray, List.getElem_cons_zero, List.getElem_cons_succ, Act.put, List.setIfInBounds_toArray, List.set_cons_zero, List.set_cons_succ]
            refine wpAnyH_done (by kernel_rfl) ?_ _
            go_wp2_with fail
            go_meet
            exact ⟨_, _, s', an, ch, er, b1', d1', b2', d2', vs', rfl, rfl, rfl, rfl, unveil HS', X6, ya6, b6, (by omega), (by omega), l1', l2', fun x hx => by have := f1 x hx; omega, fun x hx => by have := f2 x hx; omega⟩
      · simp only [List.getElem_toArray, List.getElem_cons_zero, List.getElem_cons_succ]
        refine ite_wanted rfl ?_
        refine q_alloc_wp 8 rfl rfl ?_
        intro WQ zq bn
        have hXq : W0.heap.size < WQ.heap.size := zq.lt
        have bWQ := Below.next bW0 bn
        have hSWQ : W0.heap.size ≤ WQ.heap.size := bn.size
        refine hK.out _ _ bWQ (fun hHeld => ?_)
        clear hK K bn
        refine wpAnyH_ready (rs := [5, 12]) (by kernel_rfl) (by simp) ?_
        refine AllReadyH.cons rfl (fun K hK => ?_) (AllReadyH.cons rfl (fun K hK => ?_) AllReadyH.nil)
        · simp only [List.getElem_toArray, List.getElem_cons_zero, List.getElem_cons_succ]
          go_simp
          refine (unveil HDo _ bWQ).mono ?_
          rintro e WQC ⟨s', an, ch, er, x', rfl, hs', ⟨⟨b1', d1', b2', d2', vs', rfl, r1, r2, l1', l2', n1, n2, hW'', f1, f2⟩⟩, bn⟩
          have HS' := veil hs'
          clear hs'
          have hr1 := fun x hx h0 => r1.blk_lt x hx h0
          have hr2 := fun x hx h0 => r2.blk_lt x hx h0
          have bWQC := Below.next bWQ bn
          have zq := zq.next bn
          have hSWQC : WQ.heap.size ≤ WQC.heap.size := bn.size
          refine hK.out _ _ bWQC (fun hHeld => ?_)
          clear hK K bn
          refine wpAnyH_take (i := 6) (v := .tuple #[qVal s'.ep s'.nx s'.gv (.slice b1' s'.rn d1') (.slice b2' s'.ln d2') vs', ansVal an.c an.he an.no an.bd, .bool ch, .int .i64 er]) rfl (by kernel_rfl) (by kernel_rfl) (by kernel_rfl) (fun _ _ _ h => h) (Or.inl ⟨by rfl, fun _ _ => by go_simp⟩) hHeld ?_
          simp only [List.getElem_toArray, List.getElem_cons_zero, List.getElem_cons_succ, Act.put, List.setIfInBounds_toArray, List.set_cons_zero, List.set_cons_succ]
          refine wpAnyH_take (i := 7) (v := qVal s'.ep s'.nx s'.gv (.slice b1' s'.rn d1') (.slice b2' s'.ln d2') vs') rfl (by kernel_rfl) (by kernel_rfl) (by kernel_rfl) (fun _ _ _ h => h) (Or.inl ⟨by rfl, fun _ _ => by go_simp⟩) hHeld ?_
          simp only [List.getElem_toArray, List.getElem_cons_zero, List.getElem_cons_succ, Act.put, List.setIfInBounds_toArray, List.set_cons_zero, List.set_cons_succ]
          refine wpAnyH_take (i := 8) (v := ansVal an.c an.he an.no an.bd) rfl (by kernel_rfl) (by kernel_rfl) (by kernel_rfl) (fun _ _ _ h => h) (Or.inl ⟨by rfl, fun _ _ => by go_simp⟩) hHeld ?_
          simp only [List.getElem_toArray, List.getElem_cons_zero, List.getElem_cons_succ, Act.put, List.setIfInBounds_toArray, List.set_cons_zero, List.set_cons_succ]
          refine wpAnyH_take (i := 9) (v := .bool ch) rfl (by kernel_rfl) (by kernel_rfl) (by kernel_rfl) (fun _ _ _ h => h) (Or.inl ⟨by rfl, fun _ _ => by go_simp⟩) hHeld ?_
          simp only [List.getElem_toArray, List.getElem_cons_zero, List.getElem_cons_succ, Act.put, List.setIfInBounds_toArray, List.set_cons_zero, List.set_cons_succ]
          refine wpAnyH_take (i := 10) (v := .int .i64 er) rfl (by kernel_rfl) (by kernel_rfl) (by kernel_rfl) (fun _ _ _ h => h) (Or.inl ⟨by rfl, fun _ _ => by go_simp⟩) hHeld ?_
          simp only [List.getElem_toArray, List.getElem_cons_zero, List.getElem_cons_succ, Act.put, List.setIfInBounds_toArray, List.set_cons_zero, List.set_cons_succ]
          refine wpAnyH_ready (rs := [12]) (by kernel_rfl) (by simp) ?_
          refine AllReadyH.cons rfl (fun K hK => ?_) AllReadyH.nil
          · simp only [List.getElem_toArray, List.getElem_cons_zero, List.getElem_cons_succ]
            go_simp
            obtain ⟨WQCA, hWQCA, ya, bn⟩ : ∃ W, W = WQC.alloc (.cells #[.int .i64 0, .int .i64 0, .int .i64 0, .int .i64 0] 50) ∧ ansBlock W WQC.heap.size 0 0 0 0 ∧ Below WQC.heap.size WQC W := ⟨_, rfl, ansBlock.new _ 0 0 0 0, below1 _ _⟩
            rw [← hWQCA]
            have hXa : WQC.heap.size < WQCA.heap.size := ya.lt
            have bWQCA := Below.next bWQC bn
            clear hWQCA
            have zq := zq.next bn
            have r1 := r1.below bn
            have r2 := r2.below bn
            have hSWQCA : WQC.heap.size ≤ WQCA.heap.size := bn.size
            refine hK.out _ _ bWQCA (fun hHeld => ?_)
            clear hK K bn
            refine wpAnyH_ready (rs := [13]) (by kernel_rfl) (by simp) ?_
            refine AllReadyH.cons rfl (fun K hK => ?_) AllReadyH.nil
            simp only [List.getElem_toArray, List.getElem_cons_zero, List.getElem_cons_succ]
            refine ite_wanted rfl ?_
            refine q_store_wp (ra := b1') (la := b2') (ws' := vs') _ _ rfl rfl rfl zq hW'' ?_
            intro Wq q5 t5
            have ya5 := ya.turned t5 (by omega)
            have r15 := t5.row r1 (fun x hx h0 => by have := f1 x hx; have := hr1 x hx h0; omega)
            have r25 := t5.row r2 (fun x hx h0 => by have := f2 x hx; have := hr2 x hx h0; omega)
            have b5 := t5.under bWQCA (by omega)
            refine hK.out _ _ b5 (fun hHeld => ?_)
            clear hK K
            refine wpAnyH_ready (rs := [14]) (by kernel_rfl) (by simp) ?_
            refine AllReadyH.cons rfl (fun K hK => ?_) AllReadyH.nil
            simp only [List.getElem_toArray, List.getElem_cons_zero, List.getElem_cons_succ]
            obtain ⟨y0, y1, y2, y3⟩ := ya5.cells
            have yf := ya5.free
            go_simp
            have t6 := ans_turned Wq (WQC.heap.size) an.c an.he an.no an.bd
            have ya6 := ya5.store an.c an.he an.no an.bd
            have q6 := t6.queue q5 (by omega)
            have b6 := t6.under b5 (by omega)
            have X6 : Bx _ (W0.heap.size) s' b1' d1' b2' d2' vs' := ⟨q6, t6.row r15 (fun x hx h0 => by have := f1 x hx; have := hr1 x hx h0; omega), t6.row r25 (fun x hx h0 => by have := f2 x hx; have := hr2 x hx h0; omega), n1, n2, hW''⟩
            unfold ansStore at ya6 X6 b6
            refine hK.out _ _ b6 (fun hHeld => ?_)
            clear hK K y0 y1 y2 y3 yf q6 t6
            generalize (((Wq.setCell ⟨WQC.heap.size, 0, none⟩ (.int .i64 an.c)).setCell ⟨WQC.heap.size, 1, none⟩ (.int .i64 an.he)).setCell ⟨WQC.heap.size, 2, none⟩ (.int .i64 an.no)).setCell ⟨WQC.heap.size, 3, none⟩ (.int .i64 an.bd) = W6 at ya6 X6 b6 hHeld ⊢
            refine wpAnyH_take (i := 15) (v := .bool ch) rfl (by kernel_rfl) (by kernel_rfl) (by kernel_rfl) (fun _ _ _ h => h) (Or.inl ⟨by rfl, fun _ _ => by go_simp⟩) hHeld ?_
            simp only [List.getElem_toArray, List.getElem_cons_zero, List.getElem_cons_succ, Act.put, List.setIfInBounds_toArray, List.set_cons_zero, List.set_cons_succ]
            refine wpAnyH_take (i := 16) (v := .int .i64 er) rfl (by kernel_rfl) (by kernel_rfl) (by kernel_rfl) (fun _ _ _ h => h) (Or.inl ⟨by rfl, fun _ _ => by go_simp⟩) hHeld ?_
            simp only [List.getElem_toArray, List.getElem_cons_zero, List.getElem_cons_succ, Act.put, List.setIfInBounds_toArray, List.set_cons_zero, List.set_cons_succ]
            refine wpAnyH_done (by kernel_rfl) ?_ _
            go_wp2_with fail
            go_meet
            exact ⟨_, _, s', an, ch, er, b1', d1', b2', d2', vs', rfl, rfl, rfl, rfl, unveil HS', X6, ya6, b6, (by omega), (by omega), l1', l2', fun x hx => by have := f1 x hx; omega, fun x hx => by have := f2 x hx; omega⟩
        · simp only [List.getElem_toArray, List.getElem_cons_zero, List.getElem_cons_succ]
          go_simp
          obtain ⟨WQA, hWQA, ya, bn⟩ : ∃ W, W = WQ.alloc (.cells #[.int .i64 0, .int .i64 0, .int .i64 0, .int .i64 0] 50) ∧ ansBlock W WQ.heap.size 0 0 0 0 ∧ Below WQ.heap.size WQ W := ⟨_, rfl, ansBlock.new _ 0 0 0 0, below1 _ _⟩
          rw [← hWQA]
          have hXa : WQ.heap.size < WQA.heap.size := ya.lt
          have bWQA := Below.next bWQ bn
          clear hWQA
          have zq := zq.next bn
          have hSWQA : WQ.heap.size ≤ WQA.heap.size := bn.size
          refine hK.out _ _ bWQA (fun hHeld => ?_)
          clear hK K bn
          refine wpAnyH_ready (rs := [5]) (by kernel_rfl) (by simp) ?_
          refine AllReadyH.cons rfl (fun K hK => ?_) AllReadyH.nil
          · simp only [List.getElem_toArray, List.getElem_cons_zero, List.getElem_cons_succ]
            go_simp
            refine (unveil HDo _ bWQA).mono ?_
            rintro e WQAC ⟨s', an, ch, er, x', rfl, hs', ⟨⟨b1', d1', b2', d2', vs', rfl, r1, r2, l1', l2', n1, n2, hW'', f1, f2⟩⟩, bn⟩
            have HS' := veil hs'
            clear hs'
            have hr1 := fun x hx h0 => r1.blk_lt x hx h0
            have hr2 := fun x hx h0 => r2.blk_lt x hx h0
            have bWQAC := Below.next bWQA bn
            have zq := zq.next bn
            have ya := ya.next bn
            have hSWQAC : WQA.heap.size ≤ WQAC.heap.size := bn.size
            refine hK.out _ _ bWQAC (fun hHeld => ?_)
            clear hK K bn
            refine wpAnyH_take (i := 6) (v := .tuple #[qVal s'.ep s'.nx s'.gv (.slice b1' s'.rn d1') (.slice b2' s'.ln d2') vs', ansVal an.c an.he an.no an.bd, .bool ch, .int .i64 er]) rfl (by kernel_rfl) (by kernel_rfl) (by kernel_rfl) (fun _ _ _ h => h) (Or.inl ⟨by rfl, fun _ _ => by go_simp⟩) hHeld ?_
            simp only [List.getElem_toArray, List.getElem_cons_zero, List.getElem_cons_succ, Act.put, List.setIfInBounds_toArray, List.set_cons_zero, List.set_cons_succ]
            refine wpAnyH_take (i := 7) (v := qVal s'.ep s'.nx s'.gv (.slice b1' s'.rn d1') (.slice b2' s'.ln d2') vs') rfl (by kernel_rfl) (by kernel_rfl) (by kernel_rfl) (fun _ _ _ h => h) (Or.inl ⟨by rfl, fun _ _ => by go_simp⟩) hHeld ?_
            simp only [List.getElem_toArray, List.getElem_cons_zero, List.getElem_cons_succ, Act.put, List.setIfInBounds_toArray, List.set_cons_zero, List.set_cons_succ]
            refine wpAnyH_take (i := 8) (v := ansVal an.c an.he an.no an.bd) rfl (by kernel_rfl) (by kernel_rfl) (by kernel_rfl) (fun _ _ _ h => h) (Or.inl ⟨by rfl, fun _ _ => by go_simp⟩) hHeld ?_
            simp only [List.getElem_toArray, List.getElem_cons_zero, List.getElem_cons_succ, Act.put, List.setIfInBounds_toArray, List.set_cons_zero, List.set_cons_succ]
            refine wpAnyH_take (i := 9) (v := .bool ch) rfl (by kernel_rfl) (by kernel_rfl) (by kernel_rfl) (fun _ _ _ h => h) (Or.inl ⟨by rfl, fun _ _ => by go_simp⟩) hHeld ?_
            simp only [List.getElem_toArray, List.getElem_cons_zero, List.getElem_cons_succ, Act.put, List.setIfInBounds_toArray, List.set_cons_zero, List.set_cons_succ]
            refine wpAnyH_take (i := 10) (v := .int .i64 er) rfl (by kernel_rfl) (by kernel_rfl) (by kernel_rfl) (fun _ _ _ h => h) (Or.inl ⟨by rfl, fun _ _ => by go_simp⟩) hHeld ?_
            simp only [List.getElem_toArray, List.getElem_cons_zero, List.getElem_cons_succ, Act.put, List.setIfInBounds_toArray, List.set_cons_zero, List.set_cons_succ]
            refine wpAnyH_ready (rs := [13]) (by kernel_rfl) (by simp) ?_
            refine AllReadyH.cons rfl (fun K hK => ?_) AllReadyH.nil
            simp only [List.getElem_toArray, List.getElem_cons_zero, List.getElem_cons_succ]
            refine ite_wanted rfl ?_
            refine q_store_wp (ra := b1') (la := b2') (ws' := vs') _ _ rfl rfl rfl zq hW'' ?_
            intro Wq q5 t5
            have ya5 := ya.turned t5 (by omega)
            have r15 := t5.row r1 (fun x hx h0 => by have := f1 x hx; have := hr1 x hx h0; omega)
            have r25 := t5.row r2 (fun x hx h0 => by have := f2 x hx; have := hr2 x hx h0; omega)
            have b5 := t5.under bWQAC (by omega)
            refine hK.out _ _ b5 (fun hHeld => ?_)
            clear hK K
            refine wpAnyH_ready (rs := [14]) (by kernel_rfl) (by simp) ?_
            refine AllReadyH.cons rfl (fun K hK => ?_) AllReadyH.nil
            simp only [List.getElem_toArray, List.getElem_cons_zero, List.getElem_cons_succ]
            obtain ⟨y0, y1, y2, y3⟩ := ya5.cells
            have yf := ya5.free
            go_simp
            have t6 := ans_turned Wq (WQ.heap.size) an.c an.he an.no an.bd
            have ya6 := ya5.store an.c an.he an.no an.bd
            have q6 := t6.queue q5 (by omega)
            have b6 := t6.under b5 (by omega)
            have X6 : Bx _ (W0.heap.size) s' b1' d1' b2' d2' vs' := ⟨q6, t6.row r15 (fun x hx h0 => by have := f1 x hx; have := hr1 x hx h0; omega), t6.row r25 (fun x hx h0 => by have := f2 x hx; have := hr2 x hx h0; omega), n1, n2, hW''⟩
            unfold ansStore at ya6 X6 b6
            refine hK.out _ _ b6 (fun hHeld => ?_)
            clear hK K y0 y1 y2 y3 yf q6 t6
            generalize (((Wq.setCell ⟨WQ.heap.size, 0, none⟩ (.int .i64 an.c)).setCell ⟨WQ.heap.size, 1, none⟩ (.int .i64 an.he)).setCell ⟨WQ.heap.size, 2, none⟩ (.int .i64 an.no)).setCell ⟨WQ.heap.size, 3, none⟩ (.int .i64 an.bd) = W6 at ya6 X6 b6 hHeld ⊢
            refine wpAnyH_take (i := 15) (v := .bool ch) rfl (by kernel_rfl) (by kernel_rfl) (by kernel_rfl) (fun _ _ _ h => h) (Or.inl ⟨by rfl, fun _ _ => by go_simp⟩) hHeld ?_
            simp only [List.getElem_toArray, List.getElem_cons_zero, List.getElem_cons_succ, Act.put, List.setIfInBounds_toArray, List.set_cons_zero, List.set_cons_succ]
            refine wpAnyH_take (i := 16) (v := .int .i64 er) rfl (by kernel_rfl) (by kernel_rfl) (by kernel_rfl) (fun _ _ _ h => h) (Or.inl ⟨by rfl, fun _ _ => by go_simp⟩) hHeld ?_
            simp only [List.getElem_toArray, List.getElem_cons_zero, List.getElem_cons_succ, Act.put, List.setIfInBounds_toArray, List.set_cons_zero, List.set_cons_succ]
            refine wpAnyH_done (by kernel_rfl) ?_ _
            go_wp2_with fail
            go_meet
            exact ⟨_, _, s', an, ch, er, b1', d1', b2', d2', vs', rfl, rfl, rfl, rfl, unveil HS', X6, ya6, b6, (by omega), (by omega), l1', l2', fun x hx => by have := f1 x hx; omega, fun x hx => by have := f2 x hx; omega⟩
      · simp only [List.getElem_toArray, List.getElem_cons_zero, List.getElem_cons_succ]
        go_simp
        obtain ⟨WA, hWA, ya, bn⟩ : ∃ W, W = W0.alloc (.cells #[.int .i64 0, .int .i64 0, .int .i64 0, .int .i64 0] 50) ∧ ansBlock W W0.heap.size 0 0 0 0 ∧ Below W0.heap.size W0 W := ⟨_, rfl, ansBlock.new _ 0 0 0 0, below1 _ _⟩
        rw [← hWA]
        have hXa : W0.heap.size < WA.heap.size := ya.lt
        have bWA := Below.next bW0 bn
        clear hWA
        have hSWA : W0.heap.size ≤ WA.heap.size := bn.size
        refine hK.out _ _ bWA (fun hHeld => ?_)
        clear hK K bn
        refine wpAnyH_ready (rs := [5, 11]) (by kernel_rfl) (by simp) ?_
        refine AllReadyH.cons rfl (fun K hK => ?_) (AllReadyH.cons rfl (fun K hK => ?_) AllReadyH.nil)
        · simp only [List.getElem_toArray, List.getElem_cons_zero, List.getElem_cons_succ]
          go_simp
          refine (unveil HDo _ bWA).mono ?_
          rintro e WAC ⟨s', an, ch, er, x', rfl, hs', ⟨⟨b1', d1', b2', d2', vs', rfl, r1, r2, l1', l2', n1, n2, hW'', f1, f2⟩⟩, bn⟩
          have HS' := veil hs'
          clear hs'
          have hr1 := fun x hx h0 => r1.blk_lt x hx h0
          have hr2 := fun x hx h0 => r2.blk_lt x hx h0
          have bWAC := Below.next bWA bn
          have ya := ya.next bn
          have hSWAC : WA.heap.size ≤ WAC.heap.size := bn.size
          refine hK.out _ _ bWAC (fun hHeld => ?_)
          clear hK K bn
          refine wpAnyH_take (i := 6) (v := .tuple #[qVal s'.ep s'.nx s'.gv (.slice b1' s'.rn d1') (.slice b2' s'.ln d2') vs', ansVal an.c an.he an.no an.bd, .bool ch, .int .i64 er]) rfl (by kernel_rfl) (by kernel_rfl) (by kernel_rfl) (fun _ _ _ h => h) (Or.inl ⟨by rfl, fun _ _ => by go_simp⟩) hHeld ?_
          simp only [List.getElem_toArray, List.getElem_cons_zero, List.getElem_cons_succ, Act.put, List.setIfInBounds_toArray, List.set_cons_zero, List.set_cons_succ]
          refine wpAnyH_take (i := 7) (v := qVal s'.ep s'.nx s'.gv (.slice b1' s'.rn d1') (.slice b2' s'.ln d2') vs') rfl (by kernel_rfl) (by kernel_rfl) (by kernel_rfl) (fun _ _ _ h => h) (Or.inl ⟨by rfl, fun _ _ => by go_simp⟩) hHeld ?_
          simp only [List.getElem_toArray, List.getElem_cons_zero, List.getElem_cons_succ, Act.put, List.setIfInBounds_toArray, List.set_cons_zero, List.set_cons_succ]
          refine wpAnyH_take (i := 8) (v := ansVal an.c an.he an.no an.bd) rfl (by kernel_rfl) (by kernel_rfl) (by kernel_rfl) (fun _ _ _ h => h) (Or.inl ⟨by rfl, fun _ _ => by go_simp⟩) hHeld ?_
          simp only [List.getElem_toArray, List.getElem_cons_zero, List.getElem_cons_succ, Act.put, List.setIfInBounds_toArray, List.set_cons_zero, List.set_cons_succ]
          refine wpAnyH_take (i := 9) (v := .bool ch) rfl (by kernel_rfl) (by kernel_rfl) (by kernel_rfl) (fun _ _ _ h => h) (Or.inl ⟨by rfl, fun _ _ => by go_simp⟩) hHeld ?_
          simp only [List.getElem_toArray, List.getElem_cons_zero, List.getElem_cons_succ, Act.put, List.setIfInBounds_toArray, List.set_cons_zero, List.set_cons_succ]
          refine wpAnyH_take (i := 10) (v := .int .i64 er) rfl (by kernel_rfl) (by kernel_rfl) (by kernel_rfl) (fun _ _ _ h => h) (Or.inl ⟨by rfl, fun _ _ => by go_simp⟩) hHeld ?_
          simp only [List.getElem_toArray, List.getElem_cons_zero, List.getElem_cons_succ, Act.put, List.setIfInBounds_toArray, List.set_cons_zero, List.set_cons_succ]
          refine wpAnyH_ready (rs := [11]) (by kernel_rfl) (by simp) ?_
          refine AllReadyH.cons rfl (fun K hK => ?_) AllReadyH.nil
          · simp only [List.getElem_toArray, List.getElem_cons_zero, List.getElem_cons_succ]
            refine ite_wanted rfl ?_
            refine q_alloc_wp 8 rfl rfl ?_
            intro WACQ zq bn
            have hXq : WAC.heap.size < WACQ.heap.size := zq.lt
            have bWACQ := Below.next bWAC bn
            have ya := ya.next bn
            have r1 := r1.below bn
            have r2 := r2.below bn
            have hSWACQ : WAC.heap.size ≤ WACQ.heap.size := bn.size
            refine hK.out _ _ bWACQ (fun hHeld => ?_)
            clear hK K bn
            refine wpAnyH_ready (rs := [13]) (by kernel_rfl) (by simp) ?_
            refine AllReadyH.cons rfl (fun K hK => ?_) AllReadyH.nil
            simp only [List.getElem_toArray, List.getElem_cons_zero, List.getElem_cons_succ]
            refine ite_wanted rfl ?_
            refine q_store_wp (ra := b1') (la := b2') (ws' := vs') _ _ rfl rfl rfl zq hW'' ?_
            intro Wq q5 t5
            have ya5 := ya.turned t5 (by omega)
            have r15 := t5.row r1 (fun x hx h0 => by have := f1 x hx; have := hr1 x hx h0; omega)
            have r25 := t5.row r2 (fun x hx h0 => by have := f2 x hx; have := hr2 x hx h0; omega)
            have b5 := t5.under bWACQ (by omega)
            refine hK.out _ _ b5 (fun hHeld => ?_)
            clear hK K
            refine wpAnyH_ready (rs := [14]) (by kernel_rfl) (by simp) ?_
            refine AllReadyH.cons rfl (fun K hK => ?_) AllReadyH.nil
            simp only [List.getElem_toArray, List.getElem_cons_zero, List.getElem_cons_succ]
            obtain ⟨y0, y1, y2, y3⟩ := ya5.cells
            have yf := ya5.free
            go_simp
            have t6 := ans_turned Wq (W0.heap.size) an.c an.he an.no an.bd
            have ya6 := ya5.store an.c an.he an.no an.bd
            have q6 := t6.queue q5 (by omega)
            have b6 := t6.under b5 (by omega)
            have X6 : Bx _ (WAC.heap.size) s' b1' d1' b2' d2' vs' := ⟨q6, t6.row r15 (fun x hx h0 => by have := f1 x hx; have := hr1 x hx h0; omega), t6.row r25 (fun x hx h0 => by have := f2 x hx; have := hr2 x hx h0; omega), n1, n2, hW''⟩
            unfold ansStore at ya6 X6 b6
            refine hK.out _ _ b6 (fun hHeld => ?_)
            clear hK K y0 y1 y2 y3 yf q6 t6
            generalize (((Wq.setCell ⟨W0.heap.size, 0, none⟩ (.int .i64 an.c)).setCell ⟨W0.heap.size, 1, none⟩ (.int .i64 an.he)).setCell ⟨W0.heap.size, 2, none⟩ (.int .i64 an.no)).setCell ⟨W0.heap.size, 3, none⟩ (.int .i64 an.bd) = W6 at ya6 X6 b6 hHeld ⊢
            refine wpAnyH_take (i := 15) (v := .bool ch) rfl (by kernel_rfl) (by kernel_rfl) (by kernel_rfl) (fun _ _ _ h => h) (Or.inl ⟨by rfl, fun _ _ => by go_simp⟩) hHeld ?_
            simp only [List.getElem_toArray, List.getElem_cons_zero, List.getElem_cons_succ, Act.put, List.setIfInBounds_toArray, List.set_cons_zero, List.set_cons_succ]
            refine wpAnyH_take (i := 16) (v := .int .i64 er) rfl (by kernel_rfl) (by kernel_rfl) (by kernel_rfl) (fun _ _ _ h => h) (Or.inl ⟨by rfl, fun _ _ => by go_simp⟩) hHeld ?_
            simp only [List.getElem_toArray, List.getElem_cons_zero, List.getElem_cons_succ, Act.put, List.setIfInBounds_toArray, List.set_cons_zero, List.set_cons_succ]
            refine wpAnyH_done (by kernel_rfl) ?_ _
            go_wp2_with fail
            go_meet
            exact ⟨_, _, s', an, ch, er, b1', d1', b2', d2', vs', rfl, rfl, rfl, rfl, unveil HS', X6, ya6, b6, (by omega), (by omega), l1', l2', fun x hx => by have := f1 x hx; omega, fun x hx => by have := f2 x hx; omega⟩
        · simp only [List.getElem_toArray, List.getElem_cons_zero, List.getElem_cons_succ]
          refine ite_wanted rfl ?_
          refine q_alloc_wp 8 rfl rfl ?_
          intro WAQ zq bn
          have hXq : WA.heap.size < WAQ.heap.size := zq.lt
          have bWAQ := Below.next bWA bn
          have ya := ya.next bn
          have hSWAQ : WA.heap.size ≤ WAQ.heap.size := bn.size
          refine hK.out _ _ bWAQ (fun hHeld => ?_)
          clear hK K bn
          refine wpAnyH_ready (rs := [5]) (by kernel_rfl) (by simp) ?_
          refine AllReadyH.cons rfl (fun K hK => ?_) AllReadyH.nil
          · simp only [List.getElem_toArray, List.getElem_cons_zero, List.getElem_cons_succ]
            go_simp
            refine (unveil HDo _ bWAQ).mono ?_
            rintro e WAQC ⟨s', an, ch, er, x', rfl, hs', ⟨⟨b1', d1', b2', d2', vs', rfl, r1, r2, l1', l2', n1, n2, hW'', f1, f2⟩⟩, bn⟩
            have HS' := veil hs'
            clear hs'
            have hr1 := fun x hx h0 => r1.blk_lt x hx h0
            have hr2 := fun x hx h0 => r2.blk_lt x hx h0
            have bWAQC := Below.next bWAQ bn
            have zq := zq.next bn
            have ya := ya.next bn
            have hSWAQC : WAQ.heap.size ≤ WAQC.heap.size := bn.size
            refine hK.out _ _ bWAQC (fun hHeld => ?_)
            clear hK K bn
            refine wpAnyH_take (i := 6) (v := .tuple #[qVal s'.ep s'.nx s'.gv (.slice b1' s'.rn d1') (.slice b2' s'.ln d2') vs', ansVal an.c an.he an.no an.bd, .bool ch, .int .i64 er]) rfl (by kernel_rfl) (by kernel_rfl) (by kernel_rfl) (fun _ _ _ h => h) (Or.inl ⟨by rfl, fun _ _ => by go_simp⟩) hHeld ?_
            simp only [List.getElem_toArray, List.getElem_cons_zero, List.getElem_cons_succ, Act.put, List.setIfInBounds_toArray, List.set_cons_zero, List.set_cons_succ]
            refine wpAnyH_take (i := 7) (v := qVal s'.ep s'.nx s'.gv (.slice b1' s'.rn d1') (.slice b2' s'.ln d2') vs') rfl (by kernel_rfl) (by kernel_rfl) (by kernel_rfl) (fun _ _ _ h => h) (Or.inl ⟨by rfl, fun _ _ => by go_simp⟩) hHeld ?_
            simp only [List.getElem_toArray, List.getElem_cons_zero, List.getElem_cons_succ, Act.put, List.setIfInBounds_toArray, List.set_cons_zero, List.set_cons_succ]
            refine wpAnyH_take (i := 8) (v := ansVal an.c an.he an.no an.bd) rfl (by kernel_rfl) (by kernel_rfl) (by kernel_rfl) (fun _ _ _ h => h) (Or.inl ⟨by rfl, fun _ _ => by go_simp⟩) hHeld ?_
            simp only [List.getElem_toArray, List.getElem_cons_zero, List.getElem_cons_succ, Act.put, List.setIfInBounds_toArray, List.set_cons_zero, List.set_cons_succ]
            refine wpAnyH_take (i := 9) (v := .bool ch) rfl (by kernel_rfl) (by kernel_rfl) (by kernel_rfl) (fun _ _ _ h => h) (Or.inl ⟨by rfl, fun _ _ => by go_simp⟩) hHeld ?_
            simp only [List.getElem_toArray, List.getElem_cons_zero, List.getElem_cons_succ, Act.put, List.setIfInBounds_toArray, List.set_cons_zero, List.set_cons_succ]
            refine wpAnyH_take (i := 10) (v := .int .i64 er) rfl (by kernel_rfl) (by kernel_rfl) (by kernel_rfl) (fun _ _ _ h => h) (Or.inl ⟨by rfl, fun _ _ => by go_simp⟩) hHeld ?_
            simp only [List.getElem_toArray, List.getElem_cons_zero, List.getElem_cons_succ, Act.put, List.setIfInBounds_toArray, List.set_cons_zero, List.set_cons_succ]
            refine wpAnyH_ready (rs := [13]) (by kernel_rfl) (by simp) ?_
            refine AllReadyH.cons rfl (fun K hK => ?_) AllReadyH.nil
            simp only [List.getElem_toArray, List.getElem_cons_zero, List.getElem_cons_succ]
            refine ite_wanted rfl ?_
            refine q_store_wp (ra := b1') (la := b2') (ws' := vs') _ _ rfl rfl rfl zq hW'' ?_
            intro Wq q5 t5
            have ya5 := ya.turned t5 (by omega)
            have r15 := t5.row r1 (fun x hx h0 => by have := f1 x hx; have := hr1 x hx h0; omega)
            have r25 := t5.row r2 (fun x hx h0 => by have := f2 x hx; have := hr2 x hx h0; omega)
            have b5 := t5.under bWAQC (by omega)
            refine hK.out _ _ b5 (fun hHeld => ?_)
            clear hK K
            refine wpAnyH_ready (rs := [14]) (by kernel_rfl) (by simp) ?_
            refine AllReadyH.cons rfl (fun K hK => ?_) AllReadyH.nil
            simp only [List.getElem_toArray, List.getElem_cons_zero, List.getElem_cons_succ]
            obtain ⟨y0, y1, y2, y3⟩ := ya5.cells
            have yf := ya5.free
            go_simp
            have t6 := ans_turned Wq (W0.heap.size) an.c an.he an.no an.bd
            have ya6 := ya5.store an.c an.he an.no an.bd
            have q6 := t6.queue q5 (by omega)
            have b6 := t6.under b5 (by omega)
            have X6 : Bx _ (WA.heap.size) s' b1' d1' b2' d2' vs' := ⟨q6, t6.row r15 (fun x hx h0 => by have := f1 x hx; have := hr1 x hx h0; omega), t6.row r25 (fun x hx h0 => by have := f2 x hx; have := hr2 x hx h0; omega), n1, n2, hW''⟩
            unfold ansStore at ya6 X6 b6
            refine hK.out _ _ b6 (fun hHeld => ?_)
            clear hK K y0 y1 y2 y3 yf q6 t6
            generalize (((Wq.setCell ⟨W0.heap.size, 0, none⟩ (.int .i64 an.c)).setCell ⟨W0.heap.size, 1, none⟩ (.int .i64 an.he)).setCell ⟨W0.heap.size, 2, none⟩ (.int .i64 an.no)).setCell ⟨W0.heap.size, 3, none⟩ (.int .i64 an.bd) = W6 at ya6 X6 b6 hHeld ⊢
            refine wpAnyH_take (i := 15) (v := .bool ch) rfl (by kernel_rfl) (by kernel_rfl) (by kernel_rfl) (fun _ _ _ h => h) (Or.inl ⟨by rfl, fun _ _ => by go_simp⟩) hHeld ?_
            simp only [List.getElem_toArray, List.getElem_cons_zero, List.getElem_cons_succ, Act.put, List.setIfInBounds_toArray, List.set_cons_zero, List.set_cons_succ]
            refine wpAnyH_take (i := 16) (v := .int .i64 er) rfl (by kernel_rfl) (by kernel_rfl) (by kernel_rfl) (fun _ _ _ h => h) (Or.inl ⟨by rfl, fun _ _ => by go_simp⟩) hHeld ?_
            simp only [List.getElem_toArray, List.getElem_cons_zero, List.getElem_cons_succ, Act.put, List.setIfInBounds_toArray, List.set_cons_zero, List.set_cons_succ]
            refine wpAnyH_done (by kernel_rfl) ?_ _
            go_wp2_with fail
            go_meet
            exact ⟨_, _, s', an, ch, er, b1', d1', b2', d2', vs', rfl, rfl, rfl, rfl, unveil HS', X6, ya6, b6, (by omega), (by omega), l1', l2', fun x hx => by have := f1 x hx; omega, fun x hx => by have := f2 x hx; omega⟩
    case rest =>
      as_aux_lemma =>
      obtain ⟨X, A, s', an, ch, er, b1', d1', b2', d2', vs', rfl, rfl, rfl, rfl, st, B5, y5, bel5, uX, uA, l1, l2, f1, f2⟩ := hcut
      obtain ⟨W5, hW5⟩ : ∃ W5, W5 = wc := ⟨_, rfl⟩
      subst hW5
      have P5 := (unveil HP).next bel5
      have hoa : ∀ g, (Value.slice aa ans.length ca).ownBlock = some g → g < wr.heap.size := fun g hg => ((unveil HP).oa.lt g hg).2
      have hBl := (unveil HP).q.q.lt
      have hZl := (unveil HP).z.lt
      have hu := P5.upB
      clear x0 x1 x2 x3 x4 x5 q0 HDo hW0
      by_cases hgo : er = 0 ∧ ch = true
      case neg =>
        have hbad : Stuck es := by
          refine ⟨k, s, ans, hlt, unveil HH, ?_⟩
          rw [← unveil HV]
          cases st with
          | step hv' st' =>
            cases ch with
            | true => exact absurd ⟨rfl, rfl⟩ hgo
            | false => exact .inr ⟨_, _, st'⟩
          | form _ hv' h0 => exact .inl (fun hok => h0 (hv'.symm.trans hok))
        have HS := veil hbad
        have hc : er = 0 ∧ ch = false ∨ ¬ er = 0 := by
          rcases Classical.em (er = 0) with h | h
          · exact .inl ⟨h, by cases ch with
              | true => exact absurd ⟨h, rfl⟩ hgo
              | false => rfl⟩
          · exact .inr h
        have z5 := P5.z
        have HP5 := veil P5
        clear hgo st B5 y5 hbad P5 HP
        rcases hc with ⟨rfl, rfl⟩ | hne
        all_goals
          go_wp2_with (first
            | (refine q_build0 rfl rfl ?_)
            | (refine q_store (ra := none) (la := none) (rn := 0) (rc := 0) (ln := 0) (lc := 0) (ws' := zeroW) _ _ rfl rfl rfl rfl z5 zeroWins ?_; intro W6 q6 t6; have HQ6 := veil q6; have HT6 := veil t6; clear q6 t6))
          exact bodyPost_ret (ret_Told (unveil HQ6) rfl rfl rfl) rfl ⟨_, _, _, St.zero, rfl, .bad (by decide) (.form hl (unveil HS)), ⟨none, 0, none, 0, zeroW, rfl, RowK.nil _ _ _, RowK.nil _ _ _, Nat.le_refl _, Nat.le_refl _, fun _ => rfl, fun _ => rfl, zeroWins, fun x hx => (by cases hx), fun x hx => (by cases hx)⟩, (unveil HT6).under (unveil HP5).bel (Nat.le_refl _)⟩
      case pos =>
      obtain ⟨rfl, rfl⟩ := hgo
      have HST : Hid (v.Ok ∧ Step s v s' an true) := veil (by
        cases st with
        | step hv' st' => exact ⟨hv', st'⟩)
      have hal : ans.length ≤ 2000 := by
        have := (unveil HH).len
        have h2 : (es.take k).length ≤ 2000 := by rw [List.length_take]; omega
        omega
      have qX := B5.q
      have qB := P5.q.q
      have hWs := B5.wins
      have HB5 := veil B5
      have HY5 := veil y5
      have HP5 := veil P5
      have hAl := y5.lt
      have hXl := B5.q.lt
      clear B5 y5 P5 st HP
      go_wp2_with (first
        | (refine q_loads _ rfl rfl rfl qX ?_)
        | (refine q_store (ra := b1') (la := b2') (ws' := vs') _ _ rfl rfl rfl rfl qB hWs ?_; intro W9 q9 t9; have O9 : Off B W5.heap.size W5 W9 := (Off.below (Below.refl _ _)).self t9; have y9 := (unveil HY5).turned t9 (by omega); have P9 := (unveil HP5).stored O9 q9 (unveil HB5).r1 (unveil HB5).r2 l1 l2 (unveil HB5).n1 (unveil HB5).n2 hWs (fun x hx => by have := f1 x hx; omega) (fun x hx => by have := f2 x hx; omega); obtain ⟨y0, y1, y2, y3⟩ := y9.cells; have HOa := veil (own_still P9.oa (fun g _ hg => (below1 W9 (.cells #[.int .i64 an.c, .int .i64 an.he, .int .i64 an.no, .int .i64 an.bd] 50)).block g hg)); have hB9 := P9.q.q.lt; have HP9 := veil P9; clear q9 t9 O9 y9 P9)
        | (at_builtin; refine wpList_append_own _ rfl _ _ 23 rfl (B + 1) 50 i4 _ 4 32 Try.underlying23 hi4 hz40 hz41 hz42 rfl (by decide) (.slice aa ans.length ca) ans.length ((anFlat ans).map (Value.int .i64)) rfl (unveil HOa) ⟨W9.heap.size, 0, none⟩ 1 1 ((anCells an).map (Value.int .i64)) rfl rfl (news4 _ _ _ _ _ _) (ints_oneCell _ _) (by unfold maxLen; omega) (by omega) (by simp; omega) ?_; intro v' W11 own11 grow11 _; obtain ⟨a'', c'', rfl⟩ := own_form own11; have P11 := (unveil HP9).answer (below1 W9 _) grow11 (fun x hx e => by have := hoa _ e; have := f1 x hx; omega) (fun x hx e => by have := hoa _ e; have := f2 x hx; omega) an own11; have HP11 := veil P11; clear own11 grow11 P11))
      have HI : Hid (Tells (es.take (k + 1)) s' (ans ++ [an])) := veil (by
        rw [List.take_succ_eq_append_getElem hlt, ← unveil HV]
        exact .snoc (unveil HH) (unveil HST).1 (unveil HST).2)
      go_roundw
      case rel => exact ⟨k + 1, s', _, _, _, _, _, ans ++ [an], by omega, by go_num, (by simpa using unveil HP11), HI⟩
      case measure => simp [intOf]; omega
end Go.Proofs.Ytlfecmkpafgcmaa
