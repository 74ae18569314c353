/- For every slice of deeds l and every slice of bytes junk, berthshiftkeep.RepairAgain(l, junk) returns true: a tape that was repaired needs no repair; the arguments read behind the call as before it; no condition on them. -/
import Derived.Test.YthbjnjbcmcollabRows
import Derived.Test.YthbjnjbcmcollabKtD
import Derived.Test.YthbjnjbcmcollabKtG
import Derived.Test.YthbjnjbcmcollabKtF
import Derived.Test.YthbjnjbcmcollabKtO
import Derived.Test.YthbjnjbcmcollabTpR
import Derived.Deep.DeepCutAuto
import Derived.Deep.RegionLaw
namespace Go.Proofs.Ythbjnjbcmcollab
open Go.ChangeShapes Go.WideShapes Go.ChangeAt Go.RowKit

theorem own : ownKnob Try.prog.godebug = none := by kernel_rfl
theorem laidOut : laidOutB Try.prog = true := by kernel_rfl

/-- an append of a row to a row of the call's own, as one step of a region that draws. -/
theorem step_append_own {P : Program} {ops : Array Oper} {o : Oper} {a : Act} {w : World} {K : Act → World → Prop} {Q : Exit → Act → World → Prop} {E : Prop} (hgd : o.guard = none) (s x : Operand) (t : TypeId)
    (ho : o.op = .call { callee := .builtin .append, args := #[s, x], argTypes := #[t, t] })
    (base : Nat) (e : TypeId) (i : TypeInfo) (z : Value) (bytes : Nat) (ht : P.underlying t = some (.slice e)) (hi : P.info? e = some i) (hz : i.zero = some z)
    (hsize : i.size = 1) (hby : i.bytes = bytes) (hzs : z.cells.size = 1) (k : IntKind)
    (v : Value) (n : Nat) (xs : List Int) (hs : a.eval s = v) (hown : w.ownsRow base e 1 v n (xs.map (Value.int k)))
    (ad : Addr) (m c : Nat) (l : List Int) (hx : a.eval x = .slice (some ad) m c) (hl : (l.map (Value.int k)).length = m * 1) (hnews : ∀ j u, (l.map (Value.int k))[j]? = some u → w.cell? (ad.add j) = some u)
    (h63 : n + m ≤ maxLen) (hbytes : (n + m) * bytes ≤ 140737488355328) (hbase : base ≤ w.heap.size)
    (h : ∀ v' w', w'.ownsRow base e 1 v' (n + m) ((xs ++ l).map (Value.int k)) → w.grownBy w' v.ownBlock → K (a.put o.dst v') w') :
    if Region.wanted o (yielded ops a.tmps) = true then Oper.wp P o a w K Q else E := by
  have hw : Region.wanted o (yielded ops a.tmps) = true := by simp [Region.wanted, hgd]
  rw [if_pos hw]
  exact wp_append_own w s x t ho base e i z 1 bytes ht hi hz hsize hby hzs (by decide) v n _ hs hown ad m c (l.map (Value.int k)) hx hl hnews (ints_oneCell _ _) h63 hbytes hbase (fun v' w' h1 h2 _ => h v' w' (by rw [List.map_append]; exact h1) h2)

/-- the same, the row nil or not. -/
theorem step_append_row {P : Program} {ops : Array Oper} {o : Oper} {a : Act} {w : World} {K : Act → World → Prop} {Q : Exit → Act → World → Prop} {E : Prop} (hgd : o.guard = none) (s x : Operand) (t : TypeId)
    (ho : o.op = .call { callee := .builtin .append, args := #[s, x], argTypes := #[t, t] })
    (base : Nat) (e : TypeId) (i : TypeInfo) (z : Value) (bytes : Nat) (ht : P.underlying t = some (.slice e)) (hi : P.info? e = some i) (hz : i.zero = some z)
    (hsize : i.size = 1) (hby : i.bytes = bytes) (hzs : z.cells.size = 1) (k : IntKind)
    (v : Value) (n : Nat) (xs : List Int) (hs : a.eval s = v) (hown : w.ownsRow base e 1 v n (xs.map (Value.int k)))
    (ad : Option Addr) (m c : Nat) (l : List Int) (hx : a.eval x = .slice ad m c) (hr : RowK k w ad m l) (hnil : ad = none → c = 0)
    (h63 : n + m ≤ maxLen) (hbytes : (n + m) * bytes ≤ 140737488355328) (hbase : base ≤ w.heap.size)
    (h : ∀ v' w', w'.ownsRow base e 1 v' (n + m) ((xs ++ l).map (Value.int k)) → w.grownBy w' v.ownBlock → K (a.put o.dst v') w') :
    if Region.wanted o (yielded ops a.tmps) = true then Oper.wp P o a w K Q else E := by
  cases ad with
  | none =>
    have hm : m = 0 := by
      by_cases h0 : 0 < m
      · obtain ⟨_, _, h', _⟩ := hr.cell 0 h0; cases h'
      · omega
    subst hm
    have hl : l = [] := List.length_eq_zero_iff.1 hr.len_eq
    subst hl
    have hw : Region.wanted o (yielded ops a.tmps) = true := by simp [Region.wanted, hgd]
    rw [if_pos hw]
    rw [hnil rfl] at hx
    have hrun := run_append_owned_none (P := P) (w := w) base t o.type e i 1 ht hi v n _ hown
    unfold Oper.wp
    simp [execOp, ho, resolve, invoke, builtin, hs, hx, hrun, Result.andThen]
    exact h v w (by simpa using hown) (World.grownBy.refl _ _)
  | some x0 =>
    refine step_append_own hgd s x t ho base e i z bytes ht hi hz hsize hby hzs k v n xs hs hown x0 m c l hx (by simp [hr.len_eq]) ?_ h63 hbytes hbase h
    intro j u hj
    have hjm : j < l.length := by
      rcases Nat.lt_or_ge j l.length with h' | h'
      · exact h'
      · simp [List.getElem?_eq_none h'] at hj
    obtain ⟨b, off, hb, _, hc⟩ := hr.cell j (by rw [← hr.len_eq]; exact hjm)
    simp only [Option.some.injEq] at hb
    subst hb
    have hadd : (⟨b, off, none⟩ : Addr).add j = ⟨b, off + j, none⟩ := by unfold Addr.add; split <;> simp_all
    rw [hadd, hc]
    simp [List.getElem?_eq_getElem hjm] at hj
    simp [List.getElem?_eq_getElem hjm, hj]

/-- a row of records and a row of bytes lie in two blocks. -/
theorem own_apart {w : World} {base e e' size size' n n' : Nat} {v v' : Value} {xs xs' : List Value} (h : w.ownsRow base e size v n xs) (h' : w.ownsRow base e' size' v' n' xs') (he : e ≠ e') : ∀ g, v.ownBlock = some g → v'.ownBlock ≠ some g := by
  intro g hg hg'
  rcases h.2 with ⟨rfl, _⟩ | ⟨g1, cap, cur, rfl, _, h3, _⟩
  · cases hg
  · rcases h'.2 with ⟨rfl, _⟩ | ⟨g2, cap', cur', rfl, _, h4, _⟩
    · cases hg'
    · simp only [Value.ownBlock, Option.some.injEq] at hg hg'
      subst hg
      rw [hg'] at h4
      rw [h3] at h4
      simp only [Option.some.injEq, Obj.cells.injEq] at h4
      exact he h4.2.1

theorem RecRow.left {w : World} {a : Option Addr} {gs more : List (List Int)} (h : RecRow w a (gs ++ more)) : RecRow w a gs := by
  have hg : ∀ z ∈ gs, z.length = 10 := fun z hz => h.ten z (by simp [hz])
  have hf := flat_len gs hg
  refine ⟨hg, fun i hi => ?_⟩
  obtain ⟨b, off, ha, hlt, hc⟩ := h.cell i (by rw [List.length_append]; omega)
  refine ⟨b, off, ha, hlt, ?_⟩
  rw [hc, List.flatten_append]
  simp [List.getD_eq_getElem?_getD, List.getElem?_append_left (show i < gs.flatten.length by omega)]

theorem RecRow.other {w w' : World} {a : Option Addr} {rs : List (List Int)} (h : RecRow w a rs) (hb : ∀ x, a = some x → w'.heap[x.block]? = w.heap[x.block]?) (hs : w.heap.size ≤ w'.heap.size) : RecRow w' a rs :=
  ⟨h.ten, fun i hi => by
    obtain ⟨b, off, ha, hlt, hc⟩ := h.cell i hi
    refine ⟨b, off, ha, by omega, ?_⟩
    have := hb _ ha
    simp only [World.cell?] at hc ⊢
    rw [this]
    exact hc⟩

/-- the tape with the junk behind it. -/
structure Junked (w wx : World) (R : Nat) (a : Option Addr) (n cap : Nat) (L : List Int) (ar : Option Addr) (rs : List (List Int)) : Prop where
  blk : tapeBlock wx R a n cap 0
  row : RowK .u8 wx a n L
  le : n ≤ cap
  nil : a = none → cap = 0
  cm : cap ≤ 9223372036854775807
  bel : Below w.heap.size w wx
  rec_ : RecRow wx ar rs

theorem tapeBlock.put {w : World} {R : Nat} {a : Option Addr} {len cap : Nat} {s : Int} (h : tapeBlock w R a len cap s) (a' : Option Addr) (len' cap' : Nat) : tapeBlock (w.setCell ⟨R, 0, none⟩ (.slice a' len' cap')) R a' len' cap' s := by
  unfold tapeBlock at h ⊢
  rw [setCell_eq_setRow w R 0 _ _ (0, 0) _ h, setRow_heap w R _ _ _ _ h]
  simp
theorem own_not {w : World} {R base n cap len capt : Nat} {a a' : Option Addr} {s : Int} {xs : List Value} (h : w.ownsRow base 5 1 (.slice a n cap) n xs) (hR : tapeBlock w R a' len capt s) : ∀ x, a = some x → x.block ≠ R := by
  intro x hx he
  rcases h.2 with ⟨h0, _⟩ | ⟨g, cap', cur, h1, _, h3, _⟩
  · rw [hx] at h0; cases h0
  · simp only [Value.slice.injEq] at h1
    rw [hx] at h1
    have hg : x = ⟨g, 0, none⟩ := by simpa using h1.1
    rw [hg] at he
    simp only at he
    unfold tapeBlock at hR
    rw [← he, h3] at hR
    simp only [Option.some.injEq, Obj.cells.injEq] at hR
    exact absurd hR.2.1 (by decide)
theorem junk_done {w w1 w2 w3 : World} {a1 a3 ar : Option Addr} {n cap1 k cap3 : Nat} {L : List Int} {rs : List (List Int)} {xs : List Value} (t2 : tapeBlock w2 w1.heap.size a1 n cap1 0) (grow : w2.grownBy w3 (Value.slice a1 n cap1).ownBlock)
    (own3 : w3.ownsRow w.heap.size 5 1 (.slice a3 k cap3) k xs) (r3 : RowK .u8 w3 a3 k L) (le : k ≤ cap3) (nil : a3 = none → cap3 = 0) (cm : cap3 ≤ 9223372036854775807) (bel : Below w.heap.size w w2) (hRw : w.heap.size ≤ w1.heap.size) (rr : RecRow w2 ar rs)
    (hol : ∀ g, (Value.slice a1 n cap1).ownBlock = some g → w.heap.size ≤ g ∧ g < w1.heap.size) (hrec : ∀ x, ar = some x → x.block < w1.heap.size ∧ (Value.slice a1 n cap1).ownBlock ≠ some x.block) :
    tapeBlock w3 w1.heap.size a1 n cap1 0 ∧ Junked w (w3.setCell ⟨w1.heap.size, 0, none⟩ (.slice a3 k cap3)) w1.heap.size a3 k cap3 L ar rs := by
  have hlt := t2.lt
  have t3 : tapeBlock w3 w1.heap.size a1 n cap1 0 := by
    unfold tapeBlock at t2 ⊢
    rw [grow.block _ hlt (fun he => by have := (hol _ he.symm).2; omega)]
    exact t2
  refine ⟨t3, t3.put a3 k cap3, (SameBut.set w1.heap.size 0 w3 _).row r3 (fun x hx _ => own_not own3 t3 x hx), le, nil, cm, ?_, ?_⟩
  · exact (bel.grown grow bel.size (fun g hg => (hol g hg).1)).setCell hRw _
  · refine rr.other (fun x hx => ?_) ?_
    · obtain ⟨h1, h2⟩ := hrec x hx
      rw [Below.heap_setCell _ _ _ _ (by simp only; omega), grow.block _ (by omega) (fun he => h2 he.symm)]
    · have := grow.size
      have h2 := (SameBut.set w1.heap.size 0 w3 (.slice a3 k cap3)).size
      omega

set_option maxRecDepth 100000 in
set_option maxHeartbeats 20000000 in
theorem walk_RepairAgain (w : World) (a : Option Addr) (len cap : Nat) (D : List Int) (h : RowK .i64 w a (4 * len) D) (hc : len ≤ cap) (hm : cap ≤ maxLen) (_ : a = none → cap = 0) (p : Option Addr) (lj capj : Nat) (J : List Int) (hj : RowK .u8 w p lj J) (hcj : lj ≤ capj) (hnj : p = none → capj = 0) (hzj : capj * 1 ≤ 140737488351232) :
    Calls Try.prog 6 #[.slice a len cap, .slice p lj capj] w fun e w' => e = .returned (.bool true) ∧ Below w.heap.size w w' := by
  obtain ⟨i0, hi, hz0, hz1, hz2⟩ := info_parts Try.info5
  go_enter Try.func6, Try.ntmps6
  go_wp2_with fail
  refine (taped_own a len cap D _ h hc (by unfold maxLen at hm; exact hm)).mono ?_
  rintro e w1 ⟨a1, n, cap1, v1, rfl, r1, c1, hn1, m1, y1, o1, b1, ot⟩
  have hm10 : min (len / 2) 10 ≤ 10 := by omega
  generalize min (len / 2) 10 = m at r1 o1 hm10 ot
  have hg := recsOf_good D m
  have hrl := recsOf_len D m
  have hfl := framesOf_len (recsOf D m)
  have ht : ∀ z ∈ recsOf D m, z.length = 10 := fun z hz => (hg z hz).len
  have HO1 := hide o1
  obtain ⟨ar, capr, rfl, rr, hcr, _, _, _⟩ := RecRow.ofOwns o1 hrl ht
  have hn := r1.len_eq
  rw [hn, hrl] at hfl
  have FS := hide (fun tail => frames_steps (recsOf D m) tail hg)
  generalize hrs : recsOf D m = rs at r1 rr hrl ot FS ht hn
  generalize hT : framesOf rs = T at r1 ot FS hn
  clear hrs hT hg o1 h hc
  go_wp2_with fail
  obtain ⟨W, hW, t0, B0, S0⟩ : ∃ W, W = w1.alloc (.cells #[.slice a1 n cap1, .int .i64 0] 35) ∧ tapeBlock W w1.heap.size a1 n cap1 0 ∧ Below w1.heap.size w1 W ∧ W.heap.size = w1.heap.size + 1 := ⟨_, rfl, tapeBlock.new w1 a1 n cap1 0, below1 _ _, alloc_size _ _⟩
  rw [← hW]
  clear hW
  have q0 : min lj 60 ≤ 60 := by omega
  have hlj : lj ≤ 140737488351232 := by omega
  have HSM : Hid (∀ w', Below w.heap.size w w' → Calls Try.prog 18 #[.slice p lj capj, .int .i64 ((60 : Nat) : Int)] w' fun e w'' =>
      ∃ a' cap', e = .returned (.slice a' (min lj 60) cap') ∧ RowK .u8 w'' a' (min lj 60) (J.take (min lj 60)) ∧ (a' = none → cap' = 0) ∧ Below w'.heap.size w' w'') := hide (fun w' hb => (some_any p lj capj 60 J w' (hj.below hb) hcj hnj hlj (by omega)).mono (by
        rintro e w'' ⟨a', cap', g1, g2, _, g4, _, _, g7, _⟩
        exact ⟨a', cap', g1, g2, g4, g7⟩))
  generalize min lj 60 = q at HSM q0
  generalize J.take q = Jq at HSM
  have BW : Below w.heap.size w W := Below.next b1 B0
  have HBW := hide BW
  have otW := hide (own_still ot (fun g _ hg => B0.block g hg))
  have rrW := hide (rr.below B0)
  have hap := hide (own_apart (own_still (unhide HO1) (fun g _ hg => B0.block g hg)) (unhide otW) (by decide))
  have HOL := hide (fun g hg => ot.lt g hg)
  have HRL := hide (unhide HO1).lt
  have hwT := hide r1.wf
  have hw1 := b1.size
  have k0 := t0.cell0
  have kf := t0.free
  have hzW : w.heap.size ≤ W.heap.size := BW.size
  have HT0 := hide t0
  have HS0 := hide S0
  clear ot rr r1 b1 B0 BW HO1 t0 S0 hj
  have HRC := hide (fun x (hx : ar = some x) => (⟨(unhide HRL x.block (by rw [hx]; rfl)).2, unhide hap x.block (by rw [hx]; rfl)⟩ : x.block < w1.heap.size ∧ (Value.slice a1 n cap1).ownBlock ≠ some x.block))
  go_cut [] (fun wx => ∃ a2 cap2, Junked w wx w1.heap.size a2 (n + q) cap2 (T ++ Jq) ar rs)
  case first =>
    go_region_law (first
      | (refine step_append_row rfl (.tmp 22) (.tmp 24) 33 rfl w.heap.size 5 i0 (.int .u8 0) 1 Try.underlying33 hi hz0 hz1 hz2 rfl .u8 (.slice a1 n cap1) n T rfl (unhide o2) aj q capj2 Jq rfl (unhide rj) nj2 (by unfold maxLen; omega) (by omega) hz2w ?_; intro v3 w3 own3 grow3; obtain ⟨a3, cap3, rfl, r3, c3, m3, n3, x3⟩ := RowK.ofOwns own3 (by intro u hu; rcases List.mem_append.1 hu with hu | hu; exact unhide hwT u hu; exact (unhide rj).wf u hu); obtain ⟨t3, JD⟩ := junk_done (unhide T2) grow3 own3 r3 c3 n3 (by unfold maxLen at m3; exact m3) (Below.next (unhide HBW) (unhide HB2)) hw1 ((unhide rrW).below (unhide HB2)) (unhide HOL) (unhide HRC); have k3 := t3.cell0; have f3 := t3.free; have HJD := hide JD; clear JD own3 grow3 r3 t3)
      | (go_simp; go_wp2_with (go_at_call 18; refine (unhide HSM _ (by first | exact (unhide HBW).drew)).mono ?_; rintro e w2 ⟨aj, capj2, rfl, rj0, nj2, bj⟩; have b2 : Below W.heap.size W w2 := Below.next (⟨rfl, rfl, rfl, Nat.le_refl _, fun _ _ => rfl⟩ : Below W.heap.size W W.drew) bj; have rj := hide rj0; have t2 := (unhide HT0).below b2 (unhide HT0).lt; have k2 := t2.cell0; have f2 := t2.free; have T2 := hide t2; have HB2 := hide b2; have o2 := hide (own_still (unhide otW) (fun g _ hg => b2.block g hg)); have hz2w : w.heap.size ≤ w2.heap.size := Nat.le_trans hzW b2.size; clear rj0 bj t2 b2)))
    all_goals (try go_wp2_with fail)
    all_goals go_meet
    all_goals exact ⟨_, _, unhide HJD⟩
  case rest =>
    obtain ⟨a2, cap2, M⟩ := hcut
    obtain ⟨W4, hW4⟩ : ∃ W4, W4 = wc := ⟨_, rfl⟩
    subst hW4
    clear HSM HBW otW rrW hap k0 kf hzW HT0 HS0 HRC HOL HRL hwT hi hz0 hz1 hz2
    have hTn := hn
    obtain ⟨more, hmo, hK1, _⟩ := (unhide FS Jq).prefix
    have hbo := readOf_bounds (T ++ Jq)
    have hlen : (T ++ Jq).length = n + q := M.row.len_eq
    have hcut := read_cut (T ++ Jq)
    generalize T ++ Jq = L at M hmo hK1 hbo hlen hcut
    obtain ⟨gs, K, hro⟩ : ∃ gs K, readOf L = (gs, K) := ⟨_, _, rfl⟩
    have H1 := hide (repair_yes a2 (n + q) cap2 L 0 W4 M.row M.nil M.le M.cm (by omega) (by omega) (by omega))
    rw [hro] at hmo hK1 hbo hcut H1
    simp only at hmo hK1 hbo hcut H1
    rw [cutOf_neg (show ¬ (K : Int) < 0 by omega)] at H1
    have hLk : (L.take K).take K = L.take K := by rw [List.take_take, Nat.min_self]
    generalize L.take K = LK at hcut H1 hLk
    have k0 := M.blk.cell0
    have k1 := M.blk.cell1
    clear FS
    go_wp2_with fail
    refine (unhide H1).mono ?_
    rintro e w5 ⟨a5, cap5, rfl, r5, c5, n5, m5, y5, b5⟩
    have rr5 := M.rec_.below b5
    have B5 := Below.next M.bel b5
    clear H1 M k0 k1
    go_wp2_with fail
    obtain ⟨W6, hW6, t6, B6, S6⟩ : ∃ W, W = w5.alloc (.cells #[.slice a5 K cap5, .int .i64 0] 35) ∧ tapeBlock W w5.heap.size a5 K cap5 0 ∧ Below w5.heap.size w5 W ∧ W.heap.size = w5.heap.size + 1 := ⟨_, rfl, tapeBlock.new w5 a5 K cap5 0, below1 _ _, alloc_size _ _⟩
    rw [← hW6]
    clear hW6 S6
    have r6 := r5.below B6
    have H2 := hide (repair_yes a5 K cap5 LK 0 W6 r6 n5 c5 m5 (by omega) (by omega) (by omega))
    rw [hcut] at H2
    simp only at H2
    rw [cutOf_neg (show ¬ (K : Int) < 0 by omega), hLk] at H2
    refine (unhide H2).mono ?_
    rintro e w7 ⟨a7, cap7, rfl, r7, c7, n7, m7, y7, b7⟩
    have t7 := t6.below b7 t6.lt
    have q7 := r6.below b7
    have rr7 := (rr5.below B6).below b7
    have B7 := Below.next (Below.next B5 B6) b7
    have k0 := t7.cell0
    have k1 := t7.cell1
    have hR7 := t7.lt
    clear H2 t6 B6 r6 r5 rr5 B5 b7
    go_wp2_with fail
    obtain ⟨W8, hW8, t8, B8, S8⟩ : ∃ W, W = w7.alloc (.cells #[.slice a7 K cap7, .int .i64 0] 35) ∧ tapeBlock W w7.heap.size a7 K cap7 0 ∧ Below w7.heap.size w7 W ∧ W.heap.size = w7.heap.size + 1 := ⟨_, rfl, tapeBlock.new w7 a7 K cap7 0, below1 _ _, alloc_size _ _⟩
    rw [← hW8]
    clear hW8 S8
    have q8 := q7.below B8
    have H3 := hide (read_any a5 K cap5 LK 0 W8 q8 n5 c5 m5 (by omega) (by omega) (by omega))
    rw [hcut] at H3
    simp only at H3
    refine (unhide H3).mono ?_
    rintro e w9 ⟨a9, cap9, rfl, r9, c9, m9, n9, y9, b9⟩
    have u9 := (t7.below B8 t7.lt).below b9 (Nat.lt_of_lt_of_le t7.lt B8.size)
    have v9 := t8.below b9 t8.lt
    have q9 := q8.below b9
    have p9 := (r7.below B8).below b9
    have rr9 := (rr7.below B8).below b9
    have B9 := hide (Below.next (Below.next B7 B8) b9)
    subst hmo
    have rl9 := r9.left
    have hgl : (rs ++ more).length = m + more.length := by rw [List.length_append, hrl]
    rw [hgl] at c9 ⊢
    clear H3 t7 t8 B8 q8 q7 r7 rr7 B7 b9 r9 k0 k1 hR7 hcut hro
    have k0 := u9.cell0
    have eK : ((K : Int) == (K : Int)) = true := by simp
    have hge : (m : Int) ≤ ((m + more.length : Nat) : Int) := by omega
    have hmc : (m : Int) ≤ (cap9 : Int) := by omega
    generalize m + more.length = gl at hge c9 ⊢
    have HRS := hide hrl
    clear hrl
    go_wp2_with fail
    refine (sameRecordsK_yes a9 ar m cap9 m capr rs _ rl9 rr9 (unhide HRS).symm (unhide HRS).symm (by omega)).mono ?_
    rintro e w10 ⟨rfl, qd, hw10⟩
    have b10 : Below w9.heap.size w9 w10 := by rw [hw10]; exact belowN _ _
    clear hw10 k0
    have k0 := (u9.below b10 u9.lt).cell0
    have k2 := (v9.below b10 v9.lt).cell0
    have cs1 : (convert 33 9 (.slice a5 K cap5)).run Try.prog w10 = .ok (.string (strOfNums LK)) w10 := run_string_row (P := Try.prog) 33 5 Try.underlying33 Try.underlying5 (q9.below b10) 9 Try.underlying9
    have cs2 : (convert 33 9 (.slice a7 K cap7)).run Try.prog w10 = .ok (.string (strOfNums LK)) w10 := run_string_row (P := Try.prog) 33 5 Try.underlying33 Try.underlying5 (p9.below b10) 9 Try.underlying9
    have ee : ((strOfNums LK).toList == (strOfNums LK).toList) = true := by simp
    have B10 := hide (Below.next (unhide B9) b10)
    clear u9 v9 q9 p9 rr9 rl9 B9 b10
    by_cases hm0 : m = 0
    · subst hm0
      go_wp2
      go_ret
      exact ⟨rfl, unhide B10⟩
    · have hme : ((m : Int) == 0) = false := by simp; omega
      have hK0 : 0 < K := by omega
      have hK1' : decide (0 < K) = true := by simpa using hK0
      go_wp2
      go_ret
      exact ⟨rfl, unhide B10⟩

set_option linter.unusedVariables false in
set_option maxRecDepth 100000 in
theorem lifted_RepairAgain (os : Os) (started : os.Started) (H : Type) (enc : TypeId × Value → H) :
    ReturnsInHanded {} Try.checked os 6 .any (Rows.repairAgainSpec.pre6 enc Try.prog Try.f6 Rows.repairAgainRow.domain false) (Rows.repairAgainSpec.post enc Try.prog Try.f6 false true false false) := by
  refine returnsInHanded_of_change_sized (C := Try.checked) own started (by kernel_rfl) Try.func6
    (ChangeSpec.witness6 (enc := enc) (C := Try.checked) false ⟨#[], #[.slice none 0 0, .slice none 0 0], []⟩ 8 (by kernel_rfl) (by kernel_rfl) (by kernel_rfl) (by kernel_rfl)) ?_
  intro W base args ds gs before hval0 hW hcnd hsz0 _
  have hval : ∀ (j : Nat) t v, Try.f6.params[j]? = some t → args[j]? = some v → Value.okWide Try.prog W .any base t v := hval0
  have hsz : (DataW.weightsEach Try.prog (Try.f6.params.toList ++ Rows.repairAgainSpec.plain.varTypes Try.prog) (ds ++ gs)).all (· ≤ reachBytes) = true := hsz0
  have hW' := hW
  obtain ⟨p, q, hA0, hV, rfl, hfz, hnd⟩ := hW
  have hA : DataW.TrodAll enc Try.prog W 0 (fun _ => true) true Try.f6.params.toList args.toList ds p := hA0
  rw [Try.params6] at hA hval hsz
  have hK := hA
  have hlt : ∀ x ∈ p, x.block < W.heap.size := fun x hx => hW'.lt x (by simp [hx])
  obtain ⟨v0, vs0, d0, ds0, p0, q0, hargs, rfl, rfl, h0, r0⟩ := trodAll_cons hA
  obtain ⟨v1, vs1, d1, ds1, p1, q1, rfl, rfl, rfl, h1, r1⟩ := trodAll_cons r0
  obtain ⟨rfl, rfl, rfl⟩ := trodAll_nil r1
  obtain rfl : args = #[v0, v1] := by cases args; simp_all
  obtain ⟨rfl, rfl⟩ := trodVars_none hV
  obtain ⟨a0, len0, cap0, l0, rfl, w0, lc0, cm0, na0⟩ := open_Deeds (hval 0 30 v0 rfl rfl) h0
  obtain ⟨a1, len1, cap1, l1, rfl, w1, lc1, cm1, na1, hd1⟩ := open_row Try.underlying33 Try.underlying5 (by kernel_rfl) (hval 1 33 v1 rfl rfl) h1
  have z1 : cap1 * 1 ≤ 140737488351232 := open_sized (j := 1) (t := 33) (e := 5) hsz rfl rfl Try.underlying33 (by kernel_rfl) hd1
  clear hd1
  clear hA0 hval0 hsz0
  refine (walk_RepairAgain W a0 len0 cap0 l0 w0 lc0 cm0 na0 a1 len1 cap1 l1 w1 lc1 na1 z1).mono fun e W' ⟨he, bel⟩ => ?_
  subst he
  exact ⟨_, rfl, _, _, _, [], _, [], hW', trodAll_mk1 (shut_bool Try.underlying4 _), trodAll_stays laidOut (List.forall_mem_cons.2 ⟨⟨by kernel_rfl, of_decide_eq_true (by kernel_rfl)⟩, List.forall_mem_cons.2 ⟨⟨by kernel_rfl, of_decide_eq_true (by kernel_rfl)⟩, by intro t ht; cases ht⟩⟩) hK bel hlt, rfl, bel.frame _, fun h => by cases h⟩

theorem repairAgain_holds : Rows.RepairAgainSaid :=
  OpenClaim.holds_of_wide 6 Try.f6 rfl rfl rfl rfl rfl rfl rfl ⟨rfl, rfl, rfl, rfl, rfl⟩ rfl rfl rfl rfl rfl (by kernel_rfl) Try.func6 (by kernel_rfl)
    (of_decide_eq_true (by kernel_rfl)) (by unfold Func.isWrapper; first | (rw [if_pos (by decide +kernel)]; kernel_rfl) | (rw [if_neg (by decide +kernel)]; exact ⟨rfl, rfl⟩))
    (fun os started H enc _ => lifted_RepairAgain os started H enc)
#print axioms repairAgain_holds
end Go.Proofs.Ythbjnjbcmcollab
