/- Texts put together: RlK, RlL, BlD, RlX. -/
import Derived.Test.YtcdopnkabbfooaaGreatRkLow
import Derived.Deep.RegionHeld3
import Derived.Test.YtcdopnkabbfooaaGreatRkB2
import Derived.Test.YtcdopnkabbfooaaGreatRaLow
import Derived.Deep.QuietTactic
import Derived.BigQuiet
namespace Go.Proofs.YtcdopnkabbfooaaGreat
open Go.RowKit

/-- what the table has for a record, in each world to come. -/
theorem Table.doerW {w : World} {M : Nat} {v1 v2 v3 v5 v6 v7 : Value} {B : Bt} {a : Option Addr} {c base : Nat} {r : Rec} (t : Table w M v1 v2 v3 v5 v6 v7) (hown : w.ownsRow base 28 6 (.slice a B.es.length c) B.es.length ((evFlat B.es).map (Value.int .i64))) (hb : base ≤ w.heap.size) (hs : B.Stand) (hlen : (B.es.length + 1) * 48 ≤ 140737488355328) (hk : r.k = 1 ∨ r.k = 2 ∨ r.k = 3 ∨ r.k = 4 ∨ r.k = 5 ∨ r.k = 6 ∨ r.k = 7) :
    ∃ v, (∀ W, Below w.heap.size w W → (Instr.lookup 64 (.map (some M)) (.int .i64 r.k) false).run Tryz.prog W = .ok v W) ∧ DoerR w base v B a c r (deedT B r) := by
  obtain ⟨v, h1, h2⟩ := t.doerR hown hb hs hlen hk
  refine ⟨v, fun W b => ?_, h2⟩
  obtain ⟨l1, l2, l3, l4, l5, l6, l7⟩ := run_deedAt t
  obtain ⟨m1, m2, m3, m4, m5, m6, m7⟩ := run_deedAt (t.next b)
  rcases hk with e | e | e | e | e | e | e <;> rw [e] at h1 ⊢
  · rw [l1] at h1; cases h1; exact m1
  · rw [l2] at h1; cases h1; exact m2
  · rw [l3] at h1; cases h1; exact m3
  · rw [l4] at h1; cases h1; exact m4
  · rw [l5] at h1; cases h1; exact m5
  · rw [l6] at h1; cases h1; exact m6
  · rw [l7] at h1; cases h1; exact m7
def zeroF : Nat → Bt := fun _ => Bt.zero
theorem zero4_is : zero4 = btCells zeroF (fun _ => none) (fun _ => 0) := by first | rfl | simp [zero4, bCells, zeroF, Bt.zero]
theorem Bt.zero_stand : Bt.zero.Stand := Bt.zero_ok.stand
/-- what told answers. -/
def ToldOut (w w' : World) (o : Option (List Bt) × Int) (x : Ending) : Prop :=
  (o.1 = none → x = .returned (.tuple #[.slice none 0 0, .int .i64 o.2])) ∧
  ∀ S, o.1 = some S → ∃ Y f A K, x = .returned (.tuple #[.slice (some ⟨Y, 0, none⟩) 4 4, .int .i64 0]) ∧ o.2 = 0 ∧ S = bts f ∧ Fbt w' Y f A K ∧ w.heap.size ≤ Y
theorem ToldOut.none {w w' : World} {o : Option (List Bt) × Int} {e : Int} (h : o = (none, e)) : ToldOut w w' o (.returned (.tuple #[.slice none 0 0, .int .i64 e])) := by
  subst h
  exact ⟨fun _ => rfl, fun S h => by cases h⟩
/-- what holds in each round of told. -/
structure Td (W1 W : World) (Y : Nat) (rs : List Rec) (k : Nat) (f : Nat → Bt) (A : Nat → Option Addr) (K : Nat → Nat) : Prop where
  bel : Below W1.heap.size W1 W
  fb : Fbt W Y f A K
  eq : toldS (bts zeroF) rs = toldS (bts f) (rs.drop k)
  few : ∀ q, q < 4 → (f q).es.length ≤ k
  up : W1.heap.size ≤ Y
theorem Td.next {W1 W W' : World} {Y : Nat} {rs : List Rec} {k : Nat} {f : Nat → Bt} {A : Nat → Option Addr} {K : Nat → Nat} (h : Td W1 W Y rs k f A K) (b : Below W.heap.size W W') : Td W1 W' Y rs k f A K := ⟨Below.next h.bel b, h.fb.next b, h.eq, h.few, h.up⟩
set_option maxRecDepth 20000 in
set_option maxHeartbeats 16000000 in
theorem btold_any (rs : List Rec) (a : Option Addr) (c : Nat) (w : World) (hr : RowK .i64 w a (10 * rs.length) (recFlat rs)) (hlen : (rs.length + 1) * 48 ≤ 140737488355328) :
    Calls Tryz.prog 36 #[.slice a rs.length c] w fun x w' => ToldOut w w' (toldS (bts zeroF) rs) x ∧ Below w.heap.size w w' := by
  have HR : Hid (∀ W, Below w.heap.size w W → RowK .i64 W a (10 * rs.length) (recFlat rs)) := veil fun W b => hr.below b
  clear hr
  obtain ⟨o, ho⟩ : ∃ o, o = toldS (bts zeroF) rs := ⟨_, rfl⟩
  rw [← ho]
  have HO := veil ho
  clear ho
  go_enter Tryz.func36, Tryz.ntmps36
  go_upto_region 2 with (go_at_call 31; refine (deeds_any w).mono ?_; rintro e W1 ⟨v1, v2, v3, v5, v6, v7, rfl, tb, d1⟩)
  have hmk := run_makeB W1
  have HT := veil tb
  have HD1 := veil d1
  clear tb d1
  go_upto_region 3 with fail
  obtain ⟨W2, hW2, T2⟩ : ∃ W2, W2 = W1.alloc (.cells zero4 24) ∧ Td W1 W2 W1.heap.size rs 0 zeroF (fun _ => none) (fun _ => 0) := by
    refine ⟨_, rfl, below1 _ _, ⟨?_, fun q _ => World.ownsRow_nil _ _ _ _, (fun p q _ _ _ g hg => by cases hg), fun q _ => Bt.zero_stand, fun q _ u hu => by cases hu⟩, rfl, fun q _ => Nat.le_refl _, Nat.le_refl _⟩
    have := heap_alloc_new W1 (.cells zero4 24)
    rw [zero4_is] at this
    exact this
  rw [← hW2]
  obtain ⟨Y, hY⟩ : ∃ Y, Y = W1.heap.size := ⟨_, rfl⟩
  rw [← hY]
  have HT2 : Hid (Td W1 W2 Y rs 0 zeroF (fun _ => none) (fun _ => 0)) := veil (by rw [hY]; exact T2)
  clear hW2 hmk T2 hY
  go_upto_region 4 with fail
  go_loopw [19] (fun i wr => ∃ (k : Nat) (f : Nat → Bt) (A : Nat → Option Addr) (K : Nat → Nat), k ≤ rs.length ∧ i = .int .i64 k ∧ Hid (Td W1 wr Y rs k f A K)) (fun i _ => rs.length - (intOf i).toNat)
  case atStart => exact ⟨0, _, _, _, Nat.zero_le _, rfl, HT2⟩
  case round =>
    obtain ⟨k, f, A, K, hk, rfl, HTd⟩ := hrel
    clear HT2
    by_cases hlt : k < rs.length
    case neg =>
      obtain rfl : k = rs.length := by omega
      have HE : Hid (((∀ q, q < 4 → (f q).Ok) → o = (some (bts f), 0)) ∧ (¬ (∀ q, q < 4 → (f q).Ok) → o = (none, 3))) := veil (by
        rw [unveil HO, (unveil HTd).eq, List.drop_length]
        unfold toldS
        exact ⟨fun h => if_pos ((bts_all f Bt.Ok).2 h), fun h => if_neg (fun g => h ((bts_all f Bt.Ok).1 g))⟩)
      clear HO
      go_upto_region 16 with fail
      go_loopw [68] (fun i wx => ∃ q : Nat, q ≤ 4 ∧ i = .int .i64 q ∧ Hid (Td W1 wx Y rs rs.length f A K) ∧ Hid (∀ p, p < q → (f p).Ok)) (fun i _ => 4 - (intOf i).toNat)
      case atStart => exact ⟨0, by omega, rfl, HTd, veil (fun p hp => by omega)⟩
      case round =>
        obtain ⟨q, hq, rfl, HTq, HI⟩ := hrel
        by_cases hq4 : q < 4
        case neg =>
          obtain rfl : q = 4 := by omega
          have HE2 : Hid (o = (some (bts f), 0)) := veil ((unveil HE).1 (unveil HI))
          go_wp2
          go_ret2
          refine ⟨⟨(fun h => by rw [unveil HE2] at h; cases h), fun S h => ?_⟩, Below.next (unveil HD1) (unveil HTq).bel⟩
          rw [unveil HE2] at h ⊢
          cases h
          exact ⟨Y, f, A, K, rfl, rfl, rfl, (unveil HTq).fb, Nat.le_trans (unveil HD1).size (unveil HTq).up⟩
        case pos =>
          obtain ⟨x0, x1, x2, x3, x4, x5⟩ := (unveil HTq).fb.b.at q hq4
          have hYl := (unveil HTq).fb.b.lt
          have hYn : Y ≠ wr.heap.size := by omega
          have HW3 : Hid (∀ W, Below wr.heap.size wr W → Td W1 W Y rs rs.length f A K ∧ BIn W (f q) (A q) (K q)) := veil fun W b => ⟨(unveil HTq).next b, ((unveil HTq).next b).fb.bin q hq4⟩
          obtain ⟨B, hB⟩ : ∃ B, B = f q := ⟨_, rfl⟩
          obtain ⟨aq, haq⟩ : ∃ aq, aq = A q := ⟨_, rfl⟩
          obtain ⟨cq, hcq⟩ : ∃ cq, cq = K q := ⟨_, rfl⟩
          rw [← hB] at x0 x1 x2 x3 x4 x5 HW3
          rw [← haq] at x5 HW3
          rw [← hcq] at x5 HW3
          have HBq := veil hB
          clear hB haq hcq HTq
          go_upto_region 18 with fail
          obtain ⟨W3, hW3, bb3, d3⟩ : ∃ W3, W3 = wr.alloc (.cells (bCells B.r B.e B.f B.t B.o aq B.es.length cq) 24) ∧ bBlock W3 wr.heap.size B.r B.e B.f B.t B.o aq B.es.length cq ∧ Below wr.heap.size wr W3 := ⟨_, rfl, bBlock.new _ _ _ _ _ _ _ _ _, below1 _ _⟩
          rw [← hW3]
          clear hW3 x0 x1 x2 x3 x4 x5
          obtain ⟨x0, x1, x2, x3, x4, x5⟩ := bb3.cells
          have HI3 := (unveil HW3 W3 d3).2
          have HD3 := veil d3
          clear bb3 d3
          by_cases ok : B.Ok
          · have HC := bcheck_yes B aq cq W3 HI3 ok
            have HI2 : Hid (∀ p, p < q + 1 → (f p).Ok) := veil fun p hp => by
              rcases Nat.lt_or_ge p q with h | h
              · exact unveil HI p h
              · obtain rfl : p = q := by omega
                rw [← unveil HBq]; exact ok
            clear HI3 ok
            go_wp2_with (go_at_call 28; refine HC.mono ?_; rintro e W4 ⟨rfl, d4⟩; clear HC x0 x1 x2 x3 x4 x5; have HT4 := veil (unveil HW3 W4 (Below.next (unveil HD3) d4)).1; clear d4)
            go_roundw
            case rel => exact ⟨q + 1, by omega, by go_num, HT4, HI2⟩
            case measure => simp [intOf]; omega
          · have HC := bcheck_no B aq cq W3 HI3 ok
            have HE2 : Hid (o = (none, 3)) := veil ((unveil HE).2 (fun h => ok (by rw [unveil HBq]; exact h q hq4)))
            clear HI3 ok
            go_wp2_with (go_at_call 28; refine HC.mono ?_; rintro e W4 ⟨rfl, d4⟩; clear HC x0 x1 x2 x3 x4 x5; have HT4 := veil (unveil HW3 W4 (Below.next (unveil HD3) d4)).1; clear d4)
            go_ret2
            exact ⟨ToldOut.none (unveil HE2), Below.next (unveil HD1) (unveil HT4).bel⟩
    case pos =>
      have hrr := unveil HR wr (Below.next (unveil HD1) (unveil HTd).bel)
      obtain ⟨bb, off, rfl⟩ := hrr.form (by omega)
      obtain ⟨y0, y1, y2, y3, y4, y5, y6, y7, y8, y9⟩ := row_rec hrr k hlt
      have HVW := veil (rec_wf hrr k hlt)
      have hbl := hrr.lt (by omega)
      have hbn : bb ≠ wr.heap.size := by omega
      have hd : rs.drop k = rs[k] :: rs.drop (k + 1) := List.drop_eq_getElem_cons hlt
      obtain ⟨r, hre⟩ : ∃ r, r = rs[k] := ⟨_, rfl⟩
      have HE : Hid (o = toldS (bts f) (r :: rs.drop (k + 1))) := veil (by rw [unveil HO, (unveil HTd).eq, hd, hre])
      rw [← hre] at y0 y1 y2 y3 y4 y5 y6 y7 y8 y9 HVW
      clear hrr hd hre
      go_upto_region 6 with fail
      obtain ⟨W3, hW3, rb3, d3⟩ : ∃ W3, W3 = wr.alloc (.cells #[.int .i64 r.k, .int .i64 r.q, .int .i64 r.e, .int .i64 r.p, .int .i64 r.v.k, .int .i64 r.v.p, .int .i64 r.v.i, .int .i64 r.v.b, .int .i64 r.v.he, .int .i64 r.v.hn] 30) ∧ rcBlock W3 wr.heap.size r ∧ Below wr.heap.size wr W3 := ⟨_, rfl, heap_alloc_new _ _, below1 _ _⟩
      rw [← hW3]
      clear hW3 y0 y1 y2 y3 y4 y5 y6 y7 y8 y9 hbn hbl
      obtain ⟨R, hR⟩ : ∃ R, R = wr.heap.size := ⟨_, rfl⟩
      rw [← hR] at rb3 ⊢
      have HT3 := veil ((unveil HTd).next d3)
      clear hR d3 HTd
      have HP : ∀ w, Calls Tryz.prog 29 #[recIn r] w fun x w' => x = .returned (.int .i64 r.fault) ∧ Below w.heap.size w w' := fun w => record_any _ _ _ _ _ _ _ _ _ _ w
      obtain ⟨r0, r1, r2, r3, r4, r5, r6, r7, r8, r9⟩ := rb3.cells
      have HR3 := veil rb3
      clear rb3
      by_cases hf : r.fault = 0
      case neg =>
        have HE2 : Hid (o = (none, r.fault)) := veil (by rw [unveil HE]; unfold toldS; rw [if_pos hf])
        have hf' : (r.fault != 0) = true := by simpa using hf
        obtain ⟨fl, hfl⟩ : ∃ fl, fl = r.fault := ⟨_, rfl⟩
        rw [← hfl] at HP HE2 hf'
        clear HE HO hf hfl
        go_wp2_with (go_at_call 29; refine (HP _).mono ?_; rintro e W4 ⟨rfl, d4⟩; clear HP r0 r1 r2 r3 r4 r5 r6 r7 r8 r9; have HT4 := veil ((unveil HT3).next d4); clear d4)
        go_ret2
        exact ⟨ToldOut.none (unveil HE2), Below.next (unveil HD1) (unveil HT4).bel⟩
      case pos =>
      rw [hf] at HP
      have HF := veil hf
      clear hf
      go_upto_region 9 with (go_at_call 29; refine (HP _).mono ?_; rintro e W4 ⟨rfl, d4⟩; clear HP r0 r1 r2 r3 r4 r5 r6 r7 r8 r9; have HT4 := veil ((unveil HT3).next d4); have HR4 : Hid (rcBlock W4 R r) := veil ((d4.block _ (block_lt (unveil HR3))).trans (unveil HR3)); clear d4 HT3 HR3)
      obtain ⟨qn, hqn⟩ : ∃ qn : Nat, r.q = qn := ⟨r.q.toNat, by have := fault_q (unveil HF); omega⟩
      have hq4 : qn < 4 := by have := fault_q (unveil HF); omega
      have HQN := veil hqn
      obtain ⟨B, hB⟩ : ∃ B, B = f qn := ⟨_, rfl⟩
      obtain ⟨aq, haq⟩ : ∃ aq, aq = A qn := ⟨_, rfl⟩
      obtain ⟨cq, hcq⟩ : ∃ cq, cq = K qn := ⟨_, rfl⟩
      have own4 := (unveil HT4).fb.own qn hq4
      rw [evSl, ← hB, ← haq, ← hcq] at own4
      have hY4 := (unveil HT4).fb.b.lt
      obtain ⟨dv, hlk, hdo⟩ := ((unveil HT).next (unveil HT4).bel).doerW own4 (by omega) (by rw [hB]; exact (unveil HT4).fb.stand qn hq4) (by have := (unveil HT4).few qn hq4; rw [hB]; omega) (Rec.kinds (unveil HF))
      have HDO := veil hdo
      have HLK := veil hlk
      obtain ⟨x0, x1, x2, x3, x4, x5⟩ := (unveil HT4).fb.b.at qn hq4
      rw [← hB] at x0 x1 x2 x3 x4 x5
      rw [← haq, ← hcq] at x5
      have HBB : Hid (B = f qn ∧ aq = A qn ∧ cq = K qn) := veil ⟨hB, haq, hcq⟩
      obtain ⟨r0, r1, r2, r3, r4, r5, r6, r7, r8, r9⟩ := (unveil HR4).cells
      rw [hqn] at r1
      have hR4 := block_lt (unveil HR4)
      have hRn : R ≠ W4.heap.size := by omega
      have hYn : Y ≠ W4.heap.size := by omega
      clear hqn hB haq hcq own4 hdo hlk
      go_wp2_with fail
      go_cut [9, 10] (fun p9 v10 wx => ∃ X, p9 = .pointer (some ⟨X, 0, none⟩) ∧ v10 = dv ∧ bBlock wx X B.r B.e B.f B.t B.o aq B.es.length cq ∧ Below W4.heap.size W4 wx)
      case first =>
        refine wp_region_held_drew (S := Below W4.heap.size W4) (by kernel_rfl) (below_drew W4) (fun hHeld => ?_)
        refine wpAnyH_take (i := 0) (v := .slice (some ⟨Y, 0, none⟩) 4 4) rfl (by kernel_rfl) (by kernel_rfl) (by kernel_rfl) (fun _ _ _ h => h) (Or.inl ⟨by rfl, fun _ _ => by go_simp⟩) hHeld ?_
        simp only [List.getElem_toArray, List.getElem_cons_zero, Act.put, List.setIfInBounds_toArray, List.set_cons_zero, List.set_cons_succ]
        refine wpAnyH_take (i := 1) (v := .pointer (some ⟨R, 1, none⟩)) rfl (by kernel_rfl) (by kernel_rfl) (by kernel_rfl) (fun _ _ _ h => h) (Or.inl ⟨by rfl, fun _ _ => by go_simp⟩) hHeld ?_
        simp only [List.getElem_toArray, List.getElem_cons_zero, List.getElem_cons_succ, Act.put, List.setIfInBounds_toArray, List.set_cons_zero, List.set_cons_succ]
        refine wpAnyH_take (i := 2) (v := .int .i64 qn) rfl (by kernel_rfl) (by kernel_rfl) (by kernel_rfl) (fun _ _ _ h => h) (Or.inl ⟨by rfl, fun w b => by have qc := (b.cell (p := ⟨R, 1, none⟩) hR4).trans r1; go_simp⟩) hHeld ?_
        simp only [List.getElem_toArray, List.getElem_cons_zero, List.getElem_cons_succ, Act.put, List.setIfInBounds_toArray, List.set_cons_zero, List.set_cons_succ]
        refine wpAnyH_take (i := 3) (v := .pointer (some ⟨Y, qn * 6, none⟩)) rfl (by kernel_rfl) (by kernel_rfl) (by kernel_rfl) (fun _ _ _ h => h) (Or.inl ⟨by rfl, fun _ _ => by go_simp; intro hx; omega⟩) hHeld ?_
        simp only [List.getElem_toArray, List.getElem_cons_zero, List.getElem_cons_succ, Act.put, List.setIfInBounds_toArray, List.set_cons_zero, List.set_cons_succ]
        refine wpAnyH_take (i := 4) (v := bVal B.r B.e B.f B.t B.o aq B.es.length cq) rfl (by kernel_rfl) (by kernel_rfl) (by kernel_rfl) (fun _ _ _ h => h) (Or.inl ⟨by rfl, fun w b => by have qc0 := (b.cell (p := ⟨Y, qn * 6, none⟩) hY4).trans x0; have qc1 := (b.cell (p := ⟨Y, qn * 6 + 1, none⟩) hY4).trans x1; have qc2 := (b.cell (p := ⟨Y, qn * 6 + 2, none⟩) hY4).trans x2; have qc3 := (b.cell (p := ⟨Y, qn * 6 + 3, none⟩) hY4).trans x3; have qc4 := (b.cell (p := ⟨Y, qn * 6 + 4, none⟩) hY4).trans x4; have qc5 := (b.cell (p := ⟨Y, qn * 6 + 5, none⟩) hY4).trans x5; go_simp⟩) hHeld ?_
        simp only [List.getElem_toArray, List.getElem_cons_zero, List.getElem_cons_succ, Act.put, List.setIfInBounds_toArray, List.set_cons_zero, List.set_cons_succ]
        refine wpAnyH_take (i := 5) (v := .map (some w.heap.size)) rfl (by kernel_rfl) (by kernel_rfl) (by kernel_rfl) (fun _ _ _ h => h) (Or.inl ⟨by rfl, fun _ _ => by go_simp⟩) hHeld ?_
        simp only [List.getElem_toArray, List.getElem_cons_zero, List.getElem_cons_succ, Act.put, List.setIfInBounds_toArray, List.set_cons_zero, List.set_cons_succ]
        refine wpAnyH_take (i := 6) (v := .pointer (some ⟨R, 0, none⟩)) rfl (by kernel_rfl) (by kernel_rfl) (by kernel_rfl) (fun _ _ _ h => h) (Or.inl ⟨by rfl, fun _ _ => by go_simp⟩) hHeld ?_
        simp only [List.getElem_toArray, List.getElem_cons_zero, List.getElem_cons_succ, Act.put, List.setIfInBounds_toArray, List.set_cons_zero, List.set_cons_succ]
        refine wpAnyH_take (i := 7) (v := .int .i64 r.k) rfl (by kernel_rfl) (by kernel_rfl) (by kernel_rfl) (fun _ _ _ h => h) (Or.inl ⟨by rfl, fun w b => by have qc := (b.cell (p := ⟨R, 0, none⟩) hR4).trans r0; go_simp⟩) hHeld ?_
        simp only [List.getElem_toArray, List.getElem_cons_zero, List.getElem_cons_succ, Act.put, List.setIfInBounds_toArray, List.set_cons_zero, List.set_cons_succ]
        refine wpAnyH_take (i := 8) (v := dv) rfl (by kernel_rfl) (by kernel_rfl) (by kernel_rfl) (fun _ _ _ h => h) (Or.inl ⟨by rfl, fun w b => by have qc := unveil HLK _ b; go_simp⟩) hHeld ?_
        simp only [List.getElem_toArray, List.getElem_cons_zero, List.getElem_cons_succ, Act.put, List.setIfInBounds_toArray, List.set_cons_zero, List.set_cons_succ]
        have bW0 := below_drew W4
        obtain ⟨W0, hW0⟩ : ∃ W0, W0 = W4.drew := ⟨_, rfl⟩
        rw [← hW0] at bW0 hHeld ⊢
        clear hW0
        refine wpAnyH_ready (rs := [9]) (by kernel_rfl) (by simp) ?_
        refine AllReadyH.cons rfl (fun K hK => ?_) AllReadyH.nil
        simp only [List.getElem_toArray, List.getElem_cons_zero, List.getElem_cons_succ]
        go_simp
        obtain ⟨WA, hWA, zA, bA⟩ : ∃ W, W = W0.alloc (.cells (bCells 0 0 0 0 0 none 0 0) 24) ∧ bBlock W W0.heap.size 0 0 0 0 0 none 0 0 ∧ Below W0.heap.size W0 W := ⟨_, rfl, bBlock.new _ _ _ _ _ _ _ _ _, below1 _ _⟩
        rw [← hWA]
        clear hWA
        obtain ⟨XA, hX⟩ : ∃ X, X = W0.heap.size := ⟨_, rfl⟩
        have upA : W4.heap.size ≤ XA := by rw [hX]; exact bW0.size
        rw [← hX] at zA ⊢
        have bWA := Below.next bW0 bA
        clear hX
        refine hK.out _ _ bWA (fun hHeld => ?_)
        clear hK K bA
        refine wpAnyH_ready (rs := [10]) (by kernel_rfl) (by simp) ?_
        refine AllReadyH.cons rfl (fun K hK => ?_) AllReadyH.nil
        simp only [List.getElem_toArray, List.getElem_cons_zero, List.getElem_cons_succ]
        obtain ⟨z0, z1, z2, z3, z4, z5⟩ := zA.cells
        have zf := zA.free
        go_simp
        obtain ⟨WE, hWE, dE, bE, tE⟩ := b_stored zA bWA upA B.r B.e B.f B.t B.o aq B.es.length cq
        rw [← hWE]
        refine hK.out _ _ bE (fun hHeld => ?_)
        clear hK K hWE z0 z1 z2 z3 z4 z5 zf
        refine wpAnyH_take (i := 11) (v := dv) rfl (by kernel_rfl) (by kernel_rfl) (by kernel_rfl) (fun _ _ _ h => h) (Or.inl ⟨by rfl, fun _ _ => by go_simp⟩) hHeld ?_
        simp only [List.getElem_toArray, List.getElem_cons_zero, List.getElem_cons_succ, Act.put, List.setIfInBounds_toArray, List.set_cons_zero, List.set_cons_succ]
        refine wpAnyH_done (by kernel_rfl) ?_ _
        go_wp2_with fail
        go_meet
        exact ⟨XA, rfl, rfl, dE, bE⟩
      case rest =>
        obtain ⟨X, rfl, rfl, bx, b5⟩ := hcut
        obtain ⟨W5, hW5⟩ : ∃ W5, W5 = wc := ⟨_, rfl⟩
        subst hW5
        have HT5 := veil ((unveil HT4).next b5)
        have HR5 : Hid (rcBlock W5 R r) := veil ((b5.block _ (block_lt (unveil HR4))).trans (unveil HR4))
        have HX5 := veil bx
        obtain ⟨g, capv, hdv, heg, HN⟩ := unveil HDO
        have HN5 := veil (HN W5 b5)
        subst hdv
        clear b5 HN HDO HLK HT4 HR4 x0 x1 x2 x3 x4 x5 r0 r1 r2 r3 r4 r5 r6 r7 r8 r9 hR4 hRn hYn hY4
        obtain ⟨x0, x1, x2, x3, x4, x5⟩ := bx.cells
        obtain ⟨r0, r1, r2, r3, r4, r5, r6, r7, r8, r9⟩ := (unveil HR5).cells
        clear bx
        obtain ⟨od, hod⟩ : ∃ od, od = deedT B r := ⟨_, rfl⟩
        rw [← hod] at HN5
        have HOD := veil hod
        clear hod
        have HOO := HO
        have HST : Hid (o = match stepT B r with | none => (none, 3) | some D => toldS (bts (upd f qn D)) (rs.drop (k + 1))) := veil (by
          rw [unveil HE]
          conv => lhs; unfold toldS
          rw [if_neg (fun h => h (unveil HF)), bts_at f r qn hq4 (unveil HQN), ← (unveil HBB).1]
          cases hst : stepT B r with
          | none => rfl
          | some D => simp only; rw [bts_put f r D qn hq4 (unveil HQN)])
        clear HE HO
        have own5 : W5.ownsRow (Y + 1) 28 6 (.slice aq B.es.length cq) B.es.length ((evFlat B.es).map (Value.int .i64)) := by
          have := (unveil HT5).fb.own qn hq4
          rw [evSl, ← (unveil HBB).1, ← (unveil HBB).2.1, ← (unveil HBB).2.2] at this
          exact this
        have HG : Hid (∀ W6, W5.grownBy W6 (Value.slice aq B.es.length cq).ownBlock → Below W1.heap.size W1 W6 ∧ rcBlock W6 R r ∧ bBlock W6 X B.r B.e B.f B.t B.o aq B.es.length cq ∧ fBlock W6 Y f A K ∧ ∀ p, p < 4 → p ≠ qn → W6.ownsRow (Y + 1) 28 6 (evSl f A K p) (f p).es.length ((evFlat (f p).es).map (Value.int .i64))) := veil fun W6 g6 => by
          have g6' : W5.grownBy W6 (evSl f A K qn).ownBlock := by rw [evSl, ← (unveil HBB).1, ← (unveil HBB).2.1, ← (unveil HBB).2.2]; exact g6
          obtain ⟨h1, h2⟩ := (unveil HT5).fb.deed qn hq4 g6'
          exact ⟨(unveil HT5).bel.grown g6 (unveil HT5).bel.size (fun q hq => by have := (own5.lt q hq).1; have := (unveil HT5).up; omega), (g6.block R (block_lt (unveil HR5)) (fun e => own_off own5 (unveil HR5) (by decide) R e.symm rfl)).trans (unveil HR5), (g6.block X (unveil HX5).lt (fun e => own_off own5 (unveil HX5) (by decide) X e.symm rfl)).trans (unveil HX5), h1, h2⟩
        clear own5
        go_step
        go_step
        cases od with
        | none =>
          have HE2 : Hid (o = (none, 3)) := veil (by rw [unveil HST]; unfold stepT; rw [← unveil HOD])
          go_upto_region 11 with (go_at_fn g; refine (unveil HN5).mono ?_; rintro x W6 ⟨rfl, g6⟩; clear x0 x1 x2 x3 x4 x5 r0 r1 r2 r3 r4 r5 r6 r7 r8 r9)
          obtain ⟨W7, hW7, b7⟩ : ∃ W7, W7 = W6.alloc (.cells (bCells 0 0 0 0 0 none 0 0) 24) ∧ Below W6.heap.size W6 W7 := ⟨_, rfl, below1 _ _⟩
          rw [← hW7]
          have HB7 := veil (Below.next (unveil HD1) (Below.next (unveil HG W6 g6).1 b7))
          clear hW7 b7 g6 HG HN5 heg
          go_wp2
          go_ret2
          exact ⟨ToldOut.none (unveil HE2), unveil HB7⟩
        | some D =>
          have hst5 : B.Stand := by rw [(unveil HBB).1]; exact (unveil HT5).fb.stand qn hq4
          have HDW : Hid (D.Stand ∧ (∀ u ∈ evFlat D.es, (Lit.int .i64 u).wf = true) ∧ D.es.length ≤ B.es.length + 1) := veil (by
            have h1 := deedT_some hst5 (unveil HF) (unveil HOD).symm
            have h2 := deedT_wf hst5 (unveil HOD).symm (by rw [(unveil HBB).1]; exact (unveil HT5).fb.wf qn hq4) (unveil HVW)
            exact ⟨h1.1, h2.1, h2.2⟩)
          clear hst5
          go_upto_region 11 with (go_at_fn g; refine (unveil HN5).mono ?_; rintro x W6 ⟨⟨a6, c6, rfl, own6, lie6, few6⟩, g6⟩; clear x0 x1 x2 x3 x4 x5 r0 r1 r2 r3 r4 r5 r6 r7 r8 r9)
          obtain ⟨W7, hW7, kb7, b7⟩ : ∃ W7, W7 = W6.alloc (.cells (bCells D.r D.e D.f D.t D.o a6 D.es.length c6) 24) ∧ bBlock W7 W6.heap.size D.r D.e D.f D.t D.o a6 D.es.length c6 ∧ Below W6.heap.size W6 W7 := ⟨_, rfl, bBlock.new _ _ _ _ _ _ _ _ _, below1 _ _⟩
          rw [← hW7]
          obtain ⟨Z, hZ⟩ : ∃ Z, Z = W6.heap.size := ⟨_, rfl⟩
          rw [← hZ] at kb7 ⊢
          obtain ⟨G1, G2, G3, G4, G5⟩ := unveil HG W6 g6
          have H7 : Hid (∀ W, Below W7.heap.size W7 W → Below W1.heap.size W1 W ∧ rcBlock W R r ∧ bBlock W X B.r B.e B.f B.t B.o aq B.es.length cq ∧ bBlock W Z D.r D.e D.f D.t D.o a6 D.es.length c6 ∧ fBlock W Y f A K ∧ (∀ p, p < 4 → p ≠ qn → W.ownsRow (Y + 1) 28 6 (evSl f A K p) (f p).es.length ((evFlat (f p).es).map (Value.int .i64))) ∧ W.ownsRow (Y + 1) 28 6 (.slice a6 D.es.length c6) D.es.length ((evFlat D.es).map (Value.int .i64))) := veil fun W b => by
            have bb := Below.next b7 b
            exact ⟨Below.next G1 bb, (bb.block _ (block_lt G2)).trans G2, G3.next bb, kb7.next b, (bb.block _ G4.lt).trans G4, fun p hp hne => own_still (G5 p hp hne) (fun g _ hg => bb.block g hg), own_still own6 (fun g _ hg => bb.block g hg)⟩
          have HL6 := veil lie6
          have HF6 : Hid (D.es.length < B.es.length → Td W1 W7 Y rs k f A K) := veil fun h => (unveil HT5).next (Below.next (few6 h) b7)
          obtain ⟨x0, x1, x2, x3, x4, x5⟩ := (G3.next b7).cells
          obtain ⟨z0, z1, z2, z3, z4, z5⟩ := kb7.cells
          have HEND : Hid (stepT B r = some D → ∀ W8, Below W7.heap.size W7 W8 → ∀ W9, Turned Y W8 W9 → fBlock W9 Y (upd f qn D) (upd A qn a6) (upd K qn c6) → Td W1 W9 Y rs (k + 1) (upd f qn D) (upd A qn a6) (upd K qn c6)) := veil fun hs W8 b8 W9 t9 fb9 => by
            obtain ⟨h1, h2, h3, h4, h5, h6, h7⟩ := unveil H7 W8 b8
            refine ⟨t9.under h1 (unveil HT5).up, (unveil HT5).fb.put qn hq4 h6 h7 (by rw [evSl, ← (unveil HBB).1, ← (unveil HBB).2.1, ← (unveil HBB).2.2]; exact unveil HL6) (unveil HDW).1 (unveil HDW).2.1 t9 fb9, ?_, fun q hq => ?_, (unveil HT5).up⟩
            · rw [← unveil HOO, unveil HST, hs]
            · by_cases e : q = qn
              · subst e
                rw [upd_same]
                have := (unveil HDW).2.2
                have h8 := (unveil HT5).few q hq
                rw [← (unveil HBB).1] at h8
                omega
              · rw [upd_other _ _ e]
                have := (unveil HT5).few q hq
                omega
          have HHG := veil heg
          clear hW7 b7 hZ g6 own6 lie6 few6 G1 G2 G3 G4 G5 kb7 HN5 HG heg
          by_cases hl : D.es.length < B.es.length
          case neg =>
            have HSS : Hid (stepT B r = some D) := veil (by unfold stepT; rw [← unveil HOD]; simp only; rw [if_neg (fun h => hl h.1)])
            have hli : ¬ (D.es.length : Int) < (B.es.length : Int) := by omega
            clear hl
            go_upto_region 13 with fail
            clear x0 x1 x2 x3 x4 x5 z0 z1 z2 z3 z4 z5 hli
            obtain ⟨k1, k2, k3, k4, k5, _⟩ := unveil H7 W7 (Below.refl _ _)
            obtain ⟨r0, r1, r2, r3, r4, r5, r6, r7, r8, r9⟩ := k2.cells
            rw [unveil HQN] at r1
            obtain ⟨z0, z1, z2, z3, z4, z5⟩ := k4.cells
            obtain ⟨f0, f1, f2, f3, f4, f5⟩ := k5.at qn hq4
            have ff := k5.free
            have hqi : ¬ 4 ≤ (qn : Int) := by omega
            have HK5 := veil k5
            clear k1 k2 k3 k4 k5
            go_upto_region 14 with fail
            obtain ⟨W9, hW9, HT9⟩ : ∃ W9, W9 = (((((W7.setCell ⟨Y, qn * 6, none⟩ (.int .i64 D.r)).setCell ⟨Y, qn * 6 + 1, none⟩ (.int .i64 D.e)).setCell ⟨Y, qn * 6 + 2, none⟩ (.int .i64 D.f)).setCell ⟨Y, qn * 6 + 3, none⟩ (.int .i64 D.t)).setCell ⟨Y, qn * 6 + 4, none⟩ (.int .i64 D.o)).setCell ⟨Y, qn * 6 + 5, none⟩ (.slice a6 D.es.length c6) ∧ Hid (Td W1 W9 Y rs (k + 1) (upd f qn D) (upd A qn a6) (upd K qn c6)) :=
              ⟨_, rfl, veil (unveil HEND (unveil HSS) W7 (Below.refl _ _) _ (six_turn _ _ _ _ _ _ _ _ _) ((unveil HK5).put qn hq4 D a6 c6))⟩
            rw [← hW9]
            clear hW9 r0 r1 r2 r3 r4 r5 r6 r7 r8 r9 z0 z1 z2 z3 z4 z5 f0 f1 f2 f3 f4 f5 ff HK5
            go_wp2
            go_roundw
            case rel => exact ⟨k + 1, _, _, _, by omega, by go_num, HT9⟩
            case measure => simp [intOf]; omega
          case pos =>
            have hli : (D.es.length : Int) < (B.es.length : Int) := by omega
            have hbin : BIn W7 B aq cq := by
              have := (unveil HF6 hl).fb.bin qn hq4
              rw [← (unveil HBB).1, ← (unveil HBB).2.1, ← (unveil HBB).2.2] at this
              exact this
            by_cases ok : B.Ok
            case neg =>
              have HC := bcheck_no B aq cq W7 hbin ok
              have HE2 : Hid (o = (none, 3)) := veil (by rw [unveil HST]; unfold stepT; rw [← unveil HOD]; simp only; rw [if_pos ⟨hl, ok⟩])
              clear hl ok hbin
              go_wp2_with (go_at_call 28; refine HC.mono ?_; rintro e W8 ⟨rfl, d8⟩; clear HC x0 x1 x2 x3 x4 x5 z0 z1 z2 z3 z4 z5; have HB8 := veil (Below.next (unveil HD1) (unveil H7 W8 d8).1); clear d8)
              go_ret2
              exact ⟨ToldOut.none (unveil HE2), unveil HB8⟩
            case pos =>
              have HC := bcheck_yes B aq cq W7 hbin ok
              have HSS : Hid (stepT B r = some D) := veil (by unfold stepT; rw [← unveil HOD]; simp only; rw [if_neg (fun h => h.2 ok)])
              clear hl ok hbin
              go_upto_region 13 with (go_at_call 28; refine HC.mono ?_; rintro e W8 ⟨rfl, d8⟩; clear HC x0 x1 x2 x3 x4 x5 z0 z1 z2 z3 z4 z5; have HB8 := veil d8; clear d8)
              clear hli
              obtain ⟨k1, k2, k3, k4, k5, _⟩ := unveil H7 W8 (unveil HB8)
              obtain ⟨r0, r1, r2, r3, r4, r5, r6, r7, r8, r9⟩ := k2.cells
              rw [unveil HQN] at r1
              obtain ⟨z0, z1, z2, z3, z4, z5⟩ := k4.cells
              obtain ⟨f0, f1, f2, f3, f4, f5⟩ := k5.at qn hq4
              have ff := k5.free
              have hqi : ¬ 4 ≤ (qn : Int) := by omega
              have HK5 := veil k5
              clear k1 k2 k3 k4 k5
              go_upto_region 14 with fail
              obtain ⟨W9, hW9, HT9⟩ : ∃ W9, W9 = (((((W8.setCell ⟨Y, qn * 6, none⟩ (.int .i64 D.r)).setCell ⟨Y, qn * 6 + 1, none⟩ (.int .i64 D.e)).setCell ⟨Y, qn * 6 + 2, none⟩ (.int .i64 D.f)).setCell ⟨Y, qn * 6 + 3, none⟩ (.int .i64 D.t)).setCell ⟨Y, qn * 6 + 4, none⟩ (.int .i64 D.o)).setCell ⟨Y, qn * 6 + 5, none⟩ (.slice a6 D.es.length c6) ∧ Hid (Td W1 W9 Y rs (k + 1) (upd f qn D) (upd A qn a6) (upd K qn c6)) :=
                ⟨_, rfl, veil (unveil HEND (unveil HSS) W8 (unveil HB8) _ (six_turn _ _ _ _ _ _ _ _ _) ((unveil HK5).put qn hq4 D a6 c6))⟩
              rw [← hW9]
              clear hW9 r0 r1 r2 r3 r4 r5 r6 r7 r8 r9 z0 z1 z2 z3 z4 z5 f0 f1 f2 f3 f4 f5 ff HK5
              go_wp2
              go_roundw
              case rel => exact ⟨k + 1, _, _, _, by omega, by go_num, HT9⟩
              case measure => simp [intOf]; omega
end Go.Proofs.YtcdopnkabbfooaaGreat

namespace Go.Proofs.YtcdopnkabbfooaaGreat
open Go.RowKit

theorem recT : Tryz.prog.underlying 37 = some (.slice (Tryz.prog.elem 37)) := by kernel_rfl
theorem recSize (w : World) : (sizeOf (Tryz.prog.elem 37)).run Tryz.prog w = .ok 10 w := by
  have : Tryz.prog.elem 37 = 30 := by kernel_rfl
  rw [this]
  simp [sizeOf, go_sem]
  rfl
theorem run_cut_recs (b off n c h : Nat) (h2 : h ≤ c) (w : World) : (Instr.sliceAt 37 (.slice (some ⟨b, off, none⟩) n c) none (some (.int .i64 h)) none).run Tryz.prog w = .ok (.slice (some ⟨b, off, none⟩) h c) w := by
  rw [run_sliceAt_slice w _ _ _ _ _ recT, run_slice_h w _ _ _ _ recT _ _ (by omega) (by omega), recSize]
  simp [sliced, Addr.add_mid]
theorem told_err : ∀ (l : List Rec) (S : List Bt), (toldS S l).1 = none → ¬ (toldS S l).2 = 0
  | [], S, h => by
    unfold toldS at h ⊢
    split at h
    · cases h
    · rename_i g
      rw [if_neg g]
      decide
  | r :: l, S, h => by
    unfold toldS at h ⊢
    split at h
    · rename_i g
      rw [if_pos g]
      exact g
    · rename_i g
      rw [if_neg g]
      split at h
      · decide
      · rename_i D e
        exact told_err l (put S r D) h
theorem recFlat_take : ∀ (rs : List Rec) (k : Nat), (recFlat rs).take (10 * k) = recFlat (rs.take k)
  | [], k => by simp [recFlat]
  | v :: rs, 0 => by simp [recFlat]
  | v :: rs, k + 1 => by
    have hl : (recTen v).length = 10 := rfl
    show (recTen v ++ recFlat rs).take (10 * (k + 1)) = recTen v ++ recFlat (rs.take k)
    rw [show 10 * (k + 1) = (recTen v).length + 10 * k by omega, List.take_length_add_append, recFlat_take rs k]
theorem row_take {w : World} {a : Option Addr} {rs : List Rec} (hr : RowK .i64 w a (10 * rs.length) (recFlat rs)) (k : Nat) (hk : k ≤ rs.length) : RowK .i64 w a (10 * (rs.take k).length) (recFlat (rs.take k)) := by
  have hl : (rs.take k).length = k := by simp; omega
  rw [hl, ← recFlat_take]
  refine ⟨by have := hr.len_eq; simp; omega, fun u hu => hr.wf u (List.mem_of_mem_take hu), fun i hi => ?_⟩
  obtain ⟨b, off, e, hb, hc⟩ := hr.cell i (by omega)
  refine ⟨b, off, e, hb, hc.trans ?_⟩
  simp only [List.getD_eq_getElem?_getD]
  rw [List.getElem?_take_of_lt hi]
/-- what the search's function answers. -/
theorem all1_any (rs : List Rec) (b off c R h : Nat) (bv : Bool) (w : World) (hR : w.heap[R]? = some (.cells #[.slice (some ⟨b, off, none⟩) rs.length c] 37 (0, 0))) (hr : RowK .i64 w (some ⟨b, off, none⟩) (10 * rs.length) (recFlat rs)) (hc : rs.length ≤ c) (hh : h < rs.length) (hlen : (rs.length + 1) * 48 ≤ 140737488355328)
    (hb : bv = true ↔ (toldS (bts zeroF) (rs.take (h + 1))).1 = none) :
    Calls Tryz.prog 38 #[.int .i64 h, .pointer (some ⟨R, 0, none⟩)] w fun x w' => x = .returned (.bool bv) ∧ Below w.heap.size w w' := by
  have hT := btold_any (rs.take (h + 1)) (some ⟨b, off, none⟩) c w (row_take hr (h + 1) (by omega)) (by simp; omega)
  have hl : (rs.take (h + 1)).length = h + 1 := by simp; omega
  rw [hl] at hT
  have hcut := fun w => run_cut_recs b off rs.length c (h + 1) (by omega) w
  have k0 : w.cell? ⟨R, 0, none⟩ = some (.slice (some ⟨b, off, none⟩) rs.length c) := by simp [World.cell?, hR]
  have hE := told_err (rs.take (h + 1)) (bts zeroF)
  generalize toldS (bts zeroF) (rs.take (h + 1)) = o at hT hE hb
  obtain ⟨h1, hh1⟩ : ∃ h1 : Nat, h1 = h + 1 := ⟨_, rfl⟩
  rw [← hh1] at hT hcut
  have hh2 : (h : Int) + 1 = (h1 : Int) := by omega
  have HH := veil (And.intro hE hb)
  clear hE hb hl hr hR hh1
  have hT' : Calls Tryz.prog 36 #[.slice (some ⟨b, off, none⟩) h1 c] w fun x w' => ∃ v er, x = .returned (.tuple #[v, .int .i64 er]) ∧ Hid (er = 0 ↔ ¬ o.1 = none) ∧ Below w.heap.size w w' := hT.mono fun x w' ⟨h1, h2⟩ => by
    cases ho : o.1 with
    | none => exact ⟨_, _, h1.1 ho, veil ⟨fun h => absurd h ((unveil HH).1 ho), fun h => absurd rfl h⟩, h2⟩
    | some S => obtain ⟨Y, f, A, K, e, e2, _⟩ := h1.2 S ho; exact ⟨_, _, e, veil ⟨(fun _ h => by cases h), fun _ => rfl⟩, h2⟩
  clear hT
  go_enter Tryz.func38, Tryz.ntmps38
  go_wp2_with (go_at_call 36; refine hT'.mono ?_; rintro e W2 ⟨v2, er, rfl, HEr, d2⟩; clear hT')
  go_ret
  refine ⟨?_, d2⟩
  have h3 : (er != 0) = bv := by
    have h4 := unveil HEr
    have h5 := (unveil HH).2
    cases bv with
    | true =>
      have : ¬ er = 0 := fun e => h4.1 e (h5.1 rfl)
      simpa using this
    | false =>
      have : er = 0 := h4.2 (fun e => by have := h5.2 e; cases this)
      simp [this]
  rw [← h3]
  rfl
/-- what All answers. -/
def AllOut (w w' : World) (o : Option (List Bt) × Nat × Int) (x : Ending) : Prop :=
  (o.1 = none → x = .returned (.tuple #[.slice none 0 0, .int .i64 o.2.1, .int .i64 o.2.2])) ∧
  ∀ S, o.1 = some S → ∃ Y f A K, x = .returned (.tuple #[.slice (some ⟨Y, 0, none⟩) 4 4, .int .i64 0, .int .i64 0]) ∧ o.2.1 = 0 ∧ o.2.2 = 0 ∧ S = bts f ∧ Fbt w' Y f A K ∧ w.heap.size ≤ Y
theorem ret_All {W : World} {v : Value} {j e : Int} {tmps : Array Value} (t2 : tmps[2]? = some v) (t3 : tmps[3]? = some (.int .i64 j)) (t4 : tmps[4]? = some (.int .i64 e)) : (results Tryz.f15 tmps).run Tryz.prog W = .ok (.tuple #[v, .int .i64 j, .int .i64 e]) W := by
  simp [results, Tryz.results15, t2, t3, t4]
theorem zeroF_ok : ∀ B ∈ bts zeroF, B.Ok := (bts_all zeroF Bt.Ok).2 fun _ _ => Bt.zero_ok
set_option maxRecDepth 20000 in
set_option maxHeartbeats 8000000 in
theorem all_any (rs : List Rec) (a : Option Addr) (c : Nat) (w : World) (hr : RowK .i64 w a (10 * rs.length) (recFlat rs)) (hc : rs.length ≤ c) (hlen : (rs.length + 1) * 48 ≤ 140737488355328) :
    Calls Tryz.prog 15 #[.slice a rs.length c] w fun x w' => AllOut w w' (rebS (bts zeroF) 0 rs) x ∧ Below w.heap.size w w' := by
  have HR : Hid (∀ W, Below w.heap.size w W → RowK .i64 W a (10 * rs.length) (recFlat rs)) := veil fun W b => hr.below b
  clear hr
  obtain ⟨W, hW, bx, B0⟩ : ∃ W, W = w.alloc (.cells #[.slice a rs.length c] 37) ∧ W.heap[w.heap.size]? = some (.cells #[.slice a rs.length c] 37 (0, 0)) ∧ Below w.heap.size w W := ⟨_, rfl, heap_alloc_new _ _, below1 _ _⟩
  have HT := btold_any rs a c W (unveil HR W B0) hlen
  have hb0 : W.cell? ⟨w.heap.size, 0, none⟩ = some (.slice a rs.length c) := by simp [World.cell?, bx]
  obtain ⟨o, ho⟩ : ∃ o, o = rebS (bts zeroF) 0 rs := ⟨_, rfl⟩
  rw [← ho]
  have HB := veil (And.intro bx B0)
  cases h1 : o.1 with
  | some S =>
    have ht := reb_told rs (bts zeroF) S 0 o.2.1 o.2.2 rfl zeroF_ok (by rw [← ho, ← h1])
    rw [ht.1] at HT
    have HT' : Calls Tryz.prog 36 #[.slice a rs.length c] W fun x w' => ∃ Y f A K, x = .returned (.tuple #[.slice (some ⟨Y, 0, none⟩) 4 4, .int .i64 0]) ∧ Hid (S = bts f ∧ Fbt w' Y f A K ∧ W.heap.size ≤ Y) ∧ Below W.heap.size W w' := HT.mono fun x w' ⟨g1, g2⟩ => by
      obtain ⟨Y, f, A, K, e, _, e3, e4, e5⟩ := g1.2 S rfl
      exact ⟨Y, f, A, K, e, veil ⟨e3, e4, e5⟩, g2⟩
    have HH : Hid (o.1 = some S ∧ o.2.1 = 0 ∧ o.2.2 = 0) := veil ⟨h1, ht.2⟩
    clear HT ho h1 ht bx B0
    go_enter Tryz.func15, Tryz.ntmps15
    go_upto_region 1 with fail
    rw [← hW]
    clear hW
    go_wp2_with (go_at_call 36; refine HT'.mono ?_; rintro e W2 ⟨Y, f, A, K, rfl, HY, d2⟩; clear HT' hb0)
    refine bodyPost_ret (ret_All rfl rfl rfl) rfl ⟨⟨(fun h => by rw [(unveil HH).1] at h; cases h), fun S' h => ?_⟩, Below.next (unveil HB).2 d2⟩
    rw [(unveil HH).1] at h
    cases h
    exact ⟨Y, f, A, K, rfl, (unveil HH).2.1, (unveil HH).2.2, (unveil HY).1, (unveil HY).2.1, Nat.le_trans (unveil HB).2.size (unveil HY).2.2⟩
  | none =>
    obtain ⟨n, hn, hj, he, hle, hgt⟩ := reb_fault rs (bts zeroF) 0 o.2.1 o.2.2 rfl zeroF_ok (by rw [← ho, ← h1])
    have hrr := unveil HR W B0
    obtain ⟨b, off, rfl⟩ := hrr.form (by omega)
    have htl : rs.take rs.length = rs := List.take_length
    have hall := hgt rs.length hn
    rw [htl] at hall
    have herr : Hid (¬ (toldS (bts zeroF) rs).2 = 0) := veil (told_err rs (bts zeroF) hall.1)
    have HT' : Calls Tryz.prog 36 #[.slice (some ⟨b, off, none⟩) rs.length c] W fun x w' => ∃ er, x = .returned (.tuple #[.slice none 0 0, .int .i64 er]) ∧ ¬ er = 0 ∧ Below W.heap.size W w' := HT.mono fun x w' ⟨g1, g2⟩ => ⟨_, g1.1 hall.1, unveil herr, g2⟩
    have HS : Hid (∀ W', Below W.heap.size W W' → Calls Tryz.prog 37 #[.int .i64 rs.length, .func (.func 38) #[] #[.pointer (some ⟨w.heap.size, 0, none⟩)]] W' fun x w' => x = .returned (.int .i64 n) ∧ Below W'.heap.size W' w') := veil fun W' b' =>
      search_any 38 w.heap.size rs.length n W' (by omega) (by omega) (enters_of Tryz.func38 (by kernel_rfl) rfl) (fun h W'' hh b'' => all1_any rs b off c w.heap.size h (decide (n ≤ h)) W'' (((Below.next b' b'').block _ (block_lt (unveil HB).1)).trans (unveil HB).1) (unveil HR W'' (Below.next (unveil HB).2 (Below.next b' b''))) hc hh hlen (by
        rw [decide_eq_true_eq]
        constructor
        · intro h1; exact (hgt (h + 1) (by omega)).1
        · intro h1
          rcases Nat.lt_or_ge h n with h2 | h2
          · obtain ⟨S', hS⟩ := hle (h + 1) (by omega)
            rw [hS] at h1
            cases h1
          · exact h2))
    have HE : Hid (∀ W', Below W.heap.size W W' → Calls Tryz.prog 36 #[.slice (some ⟨b, off, none⟩) ((n + 1 : Nat)) c] W' fun x w' => x = .returned (.tuple #[.slice none 0 0, .int .i64 o.2.2]) ∧ Below W'.heap.size W' w') := veil fun W' b' => by
      have h1 := btold_any (rs.take (n + 1)) (some ⟨b, off, none⟩) c W' (row_take (unveil HR W' (Below.next (unveil HB).2 b')) (n + 1) (by omega)) (by simp; omega)
      rw [show (rs.take (n + 1)).length = n + 1 by simp; omega] at h1
      refine h1.mono fun x w' ⟨g1, g2⟩ => ⟨?_, g2⟩
      have h2 := hgt (n + 1) (by omega)
      rw [g1.1 h2.1, h2.2 rfl]
    have hcut := fun w => run_cut_recs b off rs.length c (n + 1) (by omega) w
    have HO1 : Hid (o.1 = none ∧ o.2.1 = n) := veil ⟨h1, by omega⟩
    obtain ⟨er2, her2⟩ : ∃ er2, er2 = o.2.2 := ⟨_, rfl⟩
    rw [← her2] at HE
    have HER := veil her2
    obtain ⟨n1, hn1⟩ : ∃ n1 : Nat, n1 = n + 1 := ⟨_, rfl⟩
    rw [← hn1] at HE hcut
    have hni : (n : Int) + 1 = (n1 : Int) := by omega
    have hnb : (n : Int) ≤ 1000000000000000 := by omega
    clear HT ho h1 bx B0 hrr htl hall herr hle hgt hj he her2 hn1 HR
    go_enter Tryz.func15, Tryz.ntmps15
    go_upto_region 1 with fail
    rw [← hW]
    clear hW
    go_upto_region 2 with (go_at_call 36; refine HT'.mono ?_; rintro e W2 ⟨er, rfl, her, d2⟩; clear HT' hb0)
    have her' : (er == 0) = false := by simpa using her
    have hb2 : W2.cell? ⟨w.heap.size, 0, none⟩ = some (.slice (some ⟨b, off, none⟩) rs.length c) := by simp [World.cell?, (d2.block _ (block_lt (unveil HB).1)).trans (unveil HB).1]
    have HS2 := unveil HS W2 d2
    have HD2 := veil d2
    clear her HS d2
    go_upto_region 5 with (go_at_call 37; refine HS2.mono ?_; rintro e W3 ⟨rfl, d3⟩; clear HS2 hb2)
    have hb3 : W3.cell? ⟨w.heap.size, 0, none⟩ = some (.slice (some ⟨b, off, none⟩) rs.length c) := by simp [World.cell?, ((Below.next (unveil HD2) d3).block _ (block_lt (unveil HB).1)).trans (unveil HB).1]
    have HE3 := unveil HE W3 (Below.next (unveil HD2) d3)
    have HD3 := veil d3
    clear HE d3
    go_wp2_with (go_at_call 36; refine HE3.mono ?_; rintro e W4 ⟨rfl, d4⟩; clear HE3 hb3)
    refine bodyPost_ret (ret_All rfl rfl rfl) rfl ⟨⟨fun _ => ?_, fun S h => by rw [(unveil HO1).1] at h; cases h⟩, Below.next (unveil HB).2 (Below.next (Below.next (unveil HD2) (unveil HD3)) d4)⟩
    rw [(unveil HO1).2, ← unveil HER]
    rfl
end Go.Proofs.YtcdopnkabbfooaaGreat

namespace Go.Proofs.YtcdopnkabbfooaaGreat
open Go.RowKit

set_option maxHeartbeats 1000000 in
theorem sameEventsL_yes (a a' : Option Addr) (n cap cap' : Nat) (A : List Int) (w : World) (h : RowK .i64 w a (6 * n) A) (h' : RowK .i64 w a' (6 * n) A) (hm : n ≤ 3000000000000) :
    Calls Tryz.prog 35 #[.slice a n cap, .slice a' n cap'] w fun e w' => e = .returned (.bool true) ∧ ∃ m, w' = w.drewN m := by
  go_enter Tryz.func35, Tryz.ntmps35
  have ee : ((n : Int) == (n : Int)) = true := by simp
  go_wp2
  go_loopw [5] (fun t wr => ∃ k m : Nat, k ≤ n ∧ t = .int .i64 k ∧ wr = w.drewN m) (fun t _ => n - (intOf t).toNat)
  case atStart => exact ⟨0, 0, Nat.zero_le _, rfl, rfl⟩
  case round =>
    obtain ⟨k, m, hk, rfl, rfl⟩ := hrel
    by_cases hlt : k < n
    · obtain ⟨b, off, rfl⟩ := h.form (by omega)
      obtain ⟨b', off', rfl⟩ := h'.form (by omega)
      obtain ⟨m0, m1, m2, m3, m4, m5⟩ := h.six k hlt
      obtain ⟨n0, n1, n2, n3, n4, n5⟩ := h'.six k hlt
      generalize A.getD (6 * k) 0 = x0 at m0 n0
      generalize A.getD (6 * k + 1) 0 = x1 at m1 n1
      generalize A.getD (6 * k + 2) 0 = x2 at m2 n2
      generalize A.getD (6 * k + 3) 0 = x3 at m3 n3
      generalize A.getD (6 * k + 4) 0 = x4 at m4 n4
      generalize A.getD (6 * k + 5) 0 = x5 at m5 n5
      clear h h'
      have hki : (k : Int) < (n : Int) := by omega
      go_wp2_with fail
      go_quiet (fail)
      clear m0 m1 m2 m3 m4 m5 n0 n1 n2 n3 n4 n5
      go_wp2
      go_roundw
      case rel => exact ⟨k + 1, m + nq, by omega, by go_num, by first | exact (World.drewN_add _ _ _).symm | exact World.drewN_add _ _ _ | exact World.drewN_drewN _ _ _ | rfl | simp⟩
      case measure => simp [intOf]; omega
    · have hk' : k = n := by omega
      subst hk'
      go_wp2
      go_ret
      exact ⟨rfl, m, rfl⟩
theorem sameEventsL_below (a a' : Option Addr) (n cap cap' : Nat) (A : List Int) (w : World) (h : RowK .i64 w a (6 * n) A) (h' : RowK .i64 w a' (6 * n) A) (hm : n ≤ 3000000000000) :
    Calls Tryz.prog 35 #[.slice a n cap, .slice a' n cap'] w fun e w' => e = .returned (.bool true) ∧ Below w.heap.size w w' := by
  refine (sameEventsL_yes a a' n cap cap' A w h h' hm).mono ?_
  rintro e w' ⟨rfl, m, rfl⟩
  exact ⟨rfl, belowN _ _⟩
set_option maxRecDepth 20000 in
set_option maxHeartbeats 4000000 in
theorem sameBerthL_yes (r e f t o : Int) (a a' : Option Addr) (n cap cap' : Nat) (A : List Int) (w : World) (h : RowK .i64 w a (6 * n) A) (h' : RowK .i64 w a' (6 * n) A) (hm : n ≤ 3000000000000) :
    Calls Tryz.prog 13 #[bVal r e f t o a n cap, bVal r e f t o a' n cap'] w fun x w' => x = .returned (.bool true) ∧ Below w.heap.size w w' := by
  have hS : ∀ W, Below w.heap.size w W → Calls Tryz.prog 35 #[.slice a n cap, .slice a' n cap'] W fun e w' => e = .returned (.bool true) ∧ Below W.heap.size W w' := fun W b => sameEventsL_below a a' n cap cap' A W (h.below b) (h'.below b) hm
  have HS := veil hS
  clear h h' hS
  go_enter Tryz.func13, Tryz.ntmps13
  go_upto_region 1 with fail
  obtain ⟨W1, hW1, k1, k2, b1⟩ : ∃ W, W = (w.alloc (.cells (bCells r e f t o a n cap) 24)).alloc (.cells (bCells r e f t o a' n cap') 24) ∧ bBlock W w.heap.size r e f t o a n cap ∧ bBlock W (w.heap.size + 1) r e f t o a' n cap' ∧ Below w.heap.size w W := by
    refine ⟨_, rfl, (bBlock.new w _ _ _ _ _ _ _ _).next (below1 _ _), ?_, below2 _ _ _⟩
    have h0 := bBlock.new (w.alloc (.cells (bCells r e f t o a n cap) 24)) r e f t o a' n cap'
    rw [show (w.alloc (.cells (bCells r e f t o a n cap) 24)).heap.size = w.heap.size + 1 by simp] at h0
    exact h0
  rw [← hW1]
  have hC := unveil HS W1 b1
  obtain ⟨x0, x1, x2, x3, x4, x5⟩ := k1.cells
  obtain ⟨y0, y1, y2, y3, y4, y5⟩ := k2.cells
  have HB1 := veil b1
  clear hW1 k1 k2 b1 HS
  go_wp2_with (go_at_call 35; refine hC.mono ?_; rintro x W2 ⟨rfl, b2⟩; clear hC)
  go_ret
  exact ⟨by simp, Below.next (unveil HB1) b2⟩
end Go.Proofs.YtcdopnkabbfooaaGreat

namespace Go.Proofs.YtcdopnkabbfooaaGreat
open Go.RowKit

set_option maxRecDepth 20000 in
theorem lawRecords_any (a : Option Addr) (len cap : Nat) (D : List Int) (w : World) (h : RowK .i64 w a (10 * len) D) (hnil : a = none → cap = 0) (hs : len * 80 ≤ 140737488351232) :
    Calls Tryz.prog 14 #[.slice a len cap] w fun e w' => ∃ v, e = .returned v ∧ w'.ownsRow w.heap.size 30 10 v len (D.map (Value.int .i64)) ∧ Below w.heap.size w w' := by
  obtain ⟨i2, hi2, hz20, hz21, hz22⟩ := info_of Tryz.infoRecT
  have HG : Hid (∀ w4, w.grownBy w4 (Value.slice none 0 0).ownBlock → Below w.heap.size w w4) := veil fun w4 g => (Below.refl _ _).grown g (Nat.le_refl _) (by simp [Value.ownBlock])
  go_enter Tryz.func14, Tryz.ntmps14
  go_wp2_with (at_builtin; refine wpList_append_rows rfl _ _ 37 rfl w.heap.size 30 i2 _ 10 80 Tryz.underlying37 hi2 hz20 hz21 hz22 rfl (by decide) (.slice none 0 0) 0 [] rfl (World.ownsRow_nil _ _ _ _) a len cap D rfl h hnil (by unfold maxLen; omega) (by omega) (Nat.le_refl _) ?_; intro v' w4 o4 g4; simp only [Nat.zero_add, List.nil_append] at o4; have HX := veil (And.intro o4 (unveil HG w4 g4)); obtain ⟨a', c', rfl⟩ := own_form o4; clear o4 g4)
  go_ret
  exact ⟨_, rfl, (unveil HX).1, (unveil HX).2⟩
set_option maxRecDepth 20000 in
set_option maxHeartbeats 4000000 in
theorem sameRecs_yes (a a' : Option Addr) (cap cap' : Nat) (rs : List Rec) (w : World) (h : RowK .i64 w a (10 * rs.length) (recFlat rs)) (h' : RowK .i64 w a' (10 * rs.length) (recFlat rs)) (hm : rs.length ≤ 3000000000000) :
    Calls Tryz.prog 18 #[.slice a rs.length cap, .slice a' rs.length cap'] w fun e w' => e = .returned (.bool true) ∧ Below w.heap.size w w' := by
  have HR : Hid (RowK .i64 w a (10 * rs.length) (recFlat rs)) := veil h
  have HR' : Hid (RowK .i64 w a' (10 * rs.length) (recFlat rs)) := veil h'
  clear h h'
  obtain ⟨n, hn⟩ : ∃ n, n = rs.length := ⟨_, rfl⟩
  rw [← hn] at hm ⊢
  have HN := veil hn
  clear hn
  go_enter Tryz.func18, Tryz.ntmps18
  have ee : ((n : Int) == (n : Int)) = true := by simp
  go_wp2
  go_loopw [5] (fun t wr => ∃ k m : Nat, k ≤ n ∧ t = .int .i64 k ∧ wr = w.drewN m) (fun t _ => n - (intOf t).toNat)
  case atStart => exact ⟨0, 0, Nat.zero_le _, rfl, rfl⟩
  case round =>
    obtain ⟨k, m, hk, rfl, rfl⟩ := hrel
    by_cases hlt : k < n
    · have hlt' : k < rs.length := by rw [← unveil HN]; exact hlt
      obtain ⟨b, off, rfl⟩ := (unveil HR).form (by omega)
      obtain ⟨b', off', rfl⟩ := (unveil HR').form (by omega)
      obtain ⟨x0, x1, x2, x3, x4, x5, x6, x7, x8, x9⟩ := row_rec (unveil HR) k hlt'
      obtain ⟨y0, y1, y2, y3, y4, y5, y6, y7, y8, y9⟩ := row_rec (unveil HR') k hlt'
      generalize rs[k] = r at *
      generalize r.k = p0 at x0 y0
      generalize r.q = p1 at x1 y1
      generalize r.e = p2 at x2 y2
      generalize r.p = p3 at x3 y3
      generalize r.v.k = p4 at x4 y4
      generalize r.v.p = p5 at x5 y5
      generalize r.v.i = p6 at x6 y6
      generalize r.v.b = p7 at x7 y7
      generalize r.v.he = p8 at x8 y8
      generalize r.v.hn = p9 at x9 y9
      clear r HR HR' HN hlt'
      have hki : (k : Int) < (n : Int) := by omega
      go_wp2_with fail
      go_quiet (fail)
      clear x0 x1 x2 x3 x4 x5 x6 x7 x8 x9 y0 y1 y2 y3 y4 y5 y6 y7 y8 y9
      go_wp2
      go_roundw
      case rel => exact ⟨k + 1, m + nq, by omega, by go_num, by first | exact (World.drewN_add _ _ _).symm | exact World.drewN_add _ _ _ | exact World.drewN_drewN _ _ _ | rfl | simp⟩
      case measure => simp [intOf]; omega
    · have hk' : k = n := by omega
      subst hk'
      go_wp2
      go_ret
      exact ⟨rfl, belowN _ _⟩
/-- four berths in a row in memory, with their events. -/
structure Bts (w : World) (Y : Nat) (f : Nat → Bt) (A : Nat → Option Addr) (K : Nat → Nat) : Prop where
  lt : Y < w.heap.size
  six : ∀ q, q < 4 → w.cell? ⟨Y, q * 6, none⟩ = some (.int .i64 (f q).r) ∧ w.cell? ⟨Y, q * 6 + 1, none⟩ = some (.int .i64 (f q).e) ∧ w.cell? ⟨Y, q * 6 + 2, none⟩ = some (.int .i64 (f q).f) ∧ w.cell? ⟨Y, q * 6 + 3, none⟩ = some (.int .i64 (f q).t) ∧ w.cell? ⟨Y, q * 6 + 4, none⟩ = some (.int .i64 (f q).o) ∧ w.cell? ⟨Y, q * 6 + 5, none⟩ = some (.slice (A q) (f q).es.length (K q))
  bin : ∀ q, q < 4 → BIn w (f q) (A q) (K q)
theorem Bts.next {w w' : World} {Y : Nat} {f : Nat → Bt} {A : Nat → Option Addr} {K : Nat → Nat} (h : Bts w Y f A K) (b : Below w.heap.size w w') : Bts w' Y f A K :=
  ⟨Nat.lt_of_lt_of_le h.lt b.size, fun q hq => by
    obtain ⟨c0, c1, c2, c3, c4, c5⟩ := h.six q hq
    exact ⟨(b.cell h.lt).trans c0, (b.cell h.lt).trans c1, (b.cell h.lt).trans c2, (b.cell h.lt).trans c3, (b.cell h.lt).trans c4, (b.cell h.lt).trans c5⟩, fun q hq => (h.bin q hq).next b⟩
theorem Fbt.bts {w : World} {Y : Nat} {f : Nat → Bt} {A : Nat → Option Addr} {K : Nat → Nat} (h : Fbt w Y f A K) : Bts w Y f A K := ⟨h.b.lt, h.b.at, h.bin⟩
theorem sameBerths_none (w : World) : Calls Tryz.prog 17 #[.slice none 0 0, .slice none 0 0] w fun e w' => e = .returned (.bool true) ∧ Below w.heap.size w w' := by
  go_enter Tryz.func17, Tryz.ntmps17
  go_wp2
  go_loopw [5] (fun t wr => t = .int .i64 0 ∧ wr = w) (fun _ _ => 0)
  case atStart => exact ⟨rfl, rfl⟩
  case round =>
    obtain ⟨rfl, rfl⟩ := hrel
    go_wp2
    go_ret
    exact ⟨rfl, Below.refl _ _⟩
set_option maxRecDepth 20000 in
set_option maxHeartbeats 4000000 in
theorem sameBerths_yes (Y Y' c c' : Nat) (f : Nat → Bt) (A A' : Nat → Option Addr) (K K' : Nat → Nat) (w : World) (h : Bts w Y f A K) (h' : Bts w Y' f A' K') (hm : ∀ q, q < 4 → (f q).es.length ≤ 3000000000000) :
    Calls Tryz.prog 17 #[.slice (some ⟨Y, 0, none⟩) 4 c, .slice (some ⟨Y', 0, none⟩) 4 c'] w fun e w' => e = .returned (.bool true) ∧ Below w.heap.size w w' := by
  have HB : Hid (∀ u, Below w.heap.size w u → Bts u Y f A K ∧ Bts u Y' f A' K') := veil fun u b => ⟨h.next b, h'.next b⟩
  have HM := veil hm
  clear h h' hm
  go_enter Tryz.func17, Tryz.ntmps17
  go_wp2
  go_loopw [5] (fun t wr => ∃ k : Nat, k ≤ 4 ∧ t = .int .i64 k ∧ Below w.heap.size w wr) (fun t _ => 4 - (intOf t).toNat)
  case atStart => exact ⟨0, Nat.zero_le _, rfl, Below.refl _ _⟩
  case round =>
    obtain ⟨k, hk, rfl, bel⟩ := hrel
    by_cases hlt : k < 4
    case neg =>
      obtain rfl : k = 4 := by omega
      clear HB HM
      go_wp2
      go_ret
      exact ⟨rfl, bel⟩
    case pos =>
      have HS : Hid (∀ u, Below wr.heap.size wr u → Calls Tryz.prog 13 #[bVal (f k).r (f k).e (f k).f (f k).t (f k).o (A k) (f k).es.length (K k), bVal (f k).r (f k).e (f k).f (f k).t (f k).o (A' k) (f k).es.length (K' k)] u fun x w' => x = .returned (.bool true) ∧ Below u.heap.size u w') := veil fun u b => by
        obtain ⟨h1, h2⟩ := unveil HB u (Below.next bel b)
        exact sameBerthL_yes _ _ _ _ _ _ _ _ _ _ (evFlat (f k).es) u (h1.bin k hlt).row (h2.bin k hlt).row (unveil HM k hlt)
      have HC : Hid (∀ u, Below wr.heap.size wr u → (u.cell? ⟨Y, k * 6, none⟩ = some (.int .i64 (f k).r) ∧ u.cell? ⟨Y, k * 6 + 1, none⟩ = some (.int .i64 (f k).e) ∧ u.cell? ⟨Y, k * 6 + 2, none⟩ = some (.int .i64 (f k).f) ∧ u.cell? ⟨Y, k * 6 + 3, none⟩ = some (.int .i64 (f k).t) ∧ u.cell? ⟨Y, k * 6 + 4, none⟩ = some (.int .i64 (f k).o) ∧ u.cell? ⟨Y, k * 6 + 5, none⟩ = some (.slice (A k) (f k).es.length (K k))) ∧ (u.cell? ⟨Y', k * 6, none⟩ = some (.int .i64 (f k).r) ∧ u.cell? ⟨Y', k * 6 + 1, none⟩ = some (.int .i64 (f k).e) ∧ u.cell? ⟨Y', k * 6 + 2, none⟩ = some (.int .i64 (f k).f) ∧ u.cell? ⟨Y', k * 6 + 3, none⟩ = some (.int .i64 (f k).t) ∧ u.cell? ⟨Y', k * 6 + 4, none⟩ = some (.int .i64 (f k).o) ∧ u.cell? ⟨Y', k * 6 + 5, none⟩ = some (.slice (A' k) (f k).es.length (K' k)))) := veil fun u b => by
        obtain ⟨h1, h2⟩ := unveil HB u (Below.next bel b)
        exact ⟨h1.six k hlt, h2.six k hlt⟩
      clear HB HM
      generalize f k = B at *
      generalize A k = a1 at *
      generalize A' k = a2 at *
      generalize K k = k1 at *
      generalize K' k = k2 at *
      have hki : (k : Int) < 4 := by omega
      go_wp2_with fail
      go_cut [26] (fun r wx => r = .bool false ∧ Below wr.heap.size wr wx)
      case first =>
        refine wp_region_held_drew (S := Below wr.heap.size wr) (by kernel_rfl) (below_drew wr) (fun hHeld => ?_)
        refine wpAnyH_take (i := 0) (v := .slice (some ⟨Y, 0, none⟩) 4 c) rfl (by kernel_rfl) (by kernel_rfl) (by kernel_rfl) (fun _ _ _ h => h) (Or.inl ⟨by rfl, fun _ _ => by go_simp⟩) hHeld ?_
        simp only [List.getElem_toArray, List.getElem_cons_zero, Act.put, List.setIfInBounds_toArray, List.set_cons_zero, List.set_cons_succ]
        refine wpAnyH_take (i := 1) (v := .int .i64 k) rfl (by kernel_rfl) (by kernel_rfl) (by kernel_rfl) (fun _ _ _ h => h) (Or.inl ⟨by rfl, fun _ _ => by go_simp⟩) hHeld ?_
        simp only [List.getElem_toArray, List.getElem_cons_zero, List.getElem_cons_succ, Act.put, List.setIfInBounds_toArray, List.set_cons_zero, List.set_cons_succ]
        refine wpAnyH_take (i := 2) (v := .pointer (some ⟨Y, k * 6, none⟩)) rfl (by kernel_rfl) (by kernel_rfl) (by kernel_rfl) (fun _ _ _ h => h) (Or.inl ⟨by rfl, fun _ _ => by go_simp⟩) hHeld ?_
        simp only [List.getElem_toArray, List.getElem_cons_zero, List.getElem_cons_succ, Act.put, List.setIfInBounds_toArray, List.set_cons_zero, List.set_cons_succ]
        refine wpAnyH_take (i := 3) (v := bVal B.r B.e B.f B.t B.o a1 B.es.length k1) rfl (by kernel_rfl) (by kernel_rfl) (by kernel_rfl) (fun _ _ _ h => h) (Or.inl ⟨by rfl, fun u b => by obtain ⟨z0, z1, z2, z3, z4, z5⟩ := (unveil HC u b).1; go_simp⟩) hHeld ?_
        simp only [List.getElem_toArray, List.getElem_cons_zero, List.getElem_cons_succ, Act.put, List.setIfInBounds_toArray, List.set_cons_zero, List.set_cons_succ]
        refine wpAnyH_take (i := 4) (v := .slice (some ⟨Y', 0, none⟩) 4 c') rfl (by kernel_rfl) (by kernel_rfl) (by kernel_rfl) (fun _ _ _ h => h) (Or.inl ⟨by rfl, fun _ _ => by go_simp⟩) hHeld ?_
        simp only [List.getElem_toArray, List.getElem_cons_zero, List.getElem_cons_succ, Act.put, List.setIfInBounds_toArray, List.set_cons_zero, List.set_cons_succ]
        refine wpAnyH_take (i := 5) (v := .int .i64 k) rfl (by kernel_rfl) (by kernel_rfl) (by kernel_rfl) (fun _ _ _ h => h) (Or.inl ⟨by rfl, fun _ _ => by go_simp⟩) hHeld ?_
        simp only [List.getElem_toArray, List.getElem_cons_zero, List.getElem_cons_succ, Act.put, List.setIfInBounds_toArray, List.set_cons_zero, List.set_cons_succ]
        refine wpAnyH_take (i := 6) (v := .pointer (some ⟨Y', k * 6, none⟩)) rfl (by kernel_rfl) (by kernel_rfl) (by kernel_rfl) (fun _ _ _ h => h) (Or.inl ⟨by rfl, fun _ _ => by go_simp⟩) hHeld ?_
        simp only [List.getElem_toArray, List.getElem_cons_zero, List.getElem_cons_succ, Act.put, List.setIfInBounds_toArray, List.set_cons_zero, List.set_cons_succ]
        refine wpAnyH_take (i := 7) (v := bVal B.r B.e B.f B.t B.o a2 B.es.length k2) rfl (by kernel_rfl) (by kernel_rfl) (by kernel_rfl) (fun _ _ _ h => h) (Or.inl ⟨by rfl, fun u b => by obtain ⟨z0, z1, z2, z3, z4, z5⟩ := (unveil HC u b).2; go_simp⟩) hHeld ?_
        simp only [List.getElem_toArray, List.getElem_cons_zero, List.getElem_cons_succ, Act.put, List.setIfInBounds_toArray, List.set_cons_zero, List.set_cons_succ]
        have bW0 := below_drew wr
        obtain ⟨W0, hW0⟩ : ∃ W0, W0 = wr.drew := ⟨_, rfl⟩
        rw [← hW0] at bW0  hHeld ⊢
        clear hW0
        refine wpAnyH_ready (rs := [8]) (by kernel_rfl) (by simp) ?_
        refine AllReadyH.cons rfl (fun K hK => ?_) AllReadyH.nil
        simp only [List.getElem_toArray, List.getElem_cons_zero, List.getElem_cons_succ]
        go_simp
        refine (unveil HS W0 bW0).mono ?_
        rintro x W1 ⟨rfl, bn⟩
        have bW1 := Below.next bW0 bn
        clear bn
        refine hK.out _ _ bW1 (fun hHeld => ?_)
        clear hK K
        refine wpAnyH_take (i := 9) (v := .bool false) rfl (by kernel_rfl) (by kernel_rfl) (by kernel_rfl) (fun _ _ _ h => h) (Or.inl ⟨by rfl, fun _ _ => by go_simp⟩) hHeld ?_
        simp only [List.getElem_toArray, List.getElem_cons_zero, List.getElem_cons_succ, Act.put, List.setIfInBounds_toArray, List.set_cons_zero, List.set_cons_succ]
        refine wpAnyH_done (by kernel_rfl) ?_ _
        go_wp2_with fail
        go_meet
        exact ⟨rfl, bW1⟩
      case rest =>
        obtain ⟨rfl, b5⟩ := hcut
        clear HS HC
        go_wp2
        go_roundw <;> first | exact ⟨k + 1, by omega, by go_num, Below.next bel b5⟩ | (simp [intOf]; omega)
end Go.Proofs.YtcdopnkabbfooaaGreat
