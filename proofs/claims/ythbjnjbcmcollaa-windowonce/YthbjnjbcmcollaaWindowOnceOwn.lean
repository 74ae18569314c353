/- For every slice of numbers l and every number again, berthshiftkeep.WindowOnce(l, again) returns true: no id is new twice, and what was taken is remembered, or refused; the arguments read behind the call as before it; no condition on them. -/
import Derived.Test.YthbjnjbcmcollaaRows
import Derived.Test.YthbjnjbcmcollaaWdF
import Derived.Test.YthbjnjbcmcollaaWdL
import Derived.Test.YthbjnjbcmcollaaKpP
namespace Go.Proofs.Ythbjnjbcmcollaa
open Go.ChangeShapes Go.WideShapes Go.ChangeAt Go.RowKit

theorem own : ownKnob Try.prog.godebug = none := by kernel_rfl
theorem laidOut : laidOutB Try.prog = true := by kernel_rfl

theorem own_alike {w w' : World} {base e size n : Nat} {v : Value} {xs : List Value} (h : w.ownsRow base e size v n xs) (hs : ∀ g, base ≤ g → g < w.heap.size → w'.heap[g]? = w.heap[g]?) : w'.ownsRow base e size v n xs := by
  refine ⟨h.1, ?_⟩
  rcases h.2 with h' | ⟨g, cap, cur, h1, h2, h3, h4⟩
  · exact .inl h'
  · have hlt : g < w.heap.size := by
      rcases Nat.lt_or_ge g w.heap.size with h' | h'
      · exact h'
      · rw [Array.getElem?_eq_none h'] at h3; cases h3
    exact .inr ⟨g, cap, cur, h1, h2, (hs g h2 hlt).trans h3, h4⟩

/-- what holds ahead of each round. -/
structure OnceInv (w wr : World) (k len : Nat) (F : List Int) (t : Int) (s : Nat → Bool) (v : Value) : Prop where
  kl : k ≤ len
  k40 : k ≤ 40
  row : wr.ownsRow (w.heap.size + 1) 3 1 v F.length (F.map (Value.int .i64))
  len_ : F.length ≤ k
  inv : WinInv F t s
  rng : ∀ x ∈ F, 0 ≤ x ∧ x < 60
  blk : winBlock wr w.heap.size t s
  bel : Below w.heap.size w wr

theorem OnceInv.next {w wr wr' : World} {k len : Nat} {F : List Int} {t : Int} {s : Nat → Bool} {v : Value} (I : OnceInv w wr k len F t s v) (b : Below wr.heap.size wr wr') : OnceInv w wr' k len F t s v :=
  ⟨I.kl, I.k40, own_alike I.row (fun g _ hg => b.block g hg), I.len_, I.inv, I.rng, I.blk.next b, Below.next I.bel b⟩
theorem OnceInv.step {w wr : World} {k len : Nat} {F : List Int} {t : Int} {s : Nat → Bool} {v : Value} (I : OnceInv w wr k len F t s v) (h1 : k < len) (h2 : k < 40) : OnceInv w wr (k + 1) len F t s v :=
  ⟨h1, h2, I.row, Nat.le_succ_of_le I.len_, I.inv, I.rng, I.blk, I.bel⟩
theorem OnceInv.store {w wr : World} {k len : Nat} {F : List Int} {t : Int} {s : Nat → Bool} {v : Value} (I : OnceInv w wr k len F t s v) {T : Int} {S : Nat → Bool} (hT : WinInv F T S) : OnceInv w (winStore wr w.heap.size T S) k len F T S v :=
  ⟨I.kl, I.k40, own_alike I.row (fun g hg _ => winStore_other _ _ _ _ _ (by omega)), I.len_, hT, I.rng, I.blk.store T S, winStore_below I.bel _ (Nat.le_refl _) _ _⟩

/-- what an append to the ids that were new leaves as it was. -/
theorem once_grown {w w1 wr w4 : World} {v : Value} {o : Obj} {T t : Int} {S s : Nat → Bool} (hgrow : (wr.alloc o).grownBy w4 v.ownBlock) (hog : ∀ g, v.ownBlock = some g → w.heap.size + 1 ≤ g ∧ g < w1.heap.size) (hsz : w.heap.size + 1 ≤ wr.heap.size)
    (hsz1 : w1.heap.size < wr.heap.size) (wc : winBlock wr w1.heap.size T S) (wd : winBlock wr w.heap.size t s) : Below (w.heap.size + 1) wr w4 ∧ winBlock w4 w1.heap.size T S ∧ winBlock w4 w.heap.size t s := by
  have b4 : Below (w.heap.size + 1) wr w4 := ((Below.refl _ wr).alloc hsz _).grown hgrow (Nat.le_trans hsz (by simp)) (fun g hg => (hog g hg).1)
  refine ⟨b4, ?_, wd.below b4 (by omega)⟩
  unfold winBlock
  rw [hgrow.block w1.heap.size (Nat.lt_of_lt_of_le hsz1 (by simp)) (fun hh => by have := (hog _ hh.symm).2; omega), Below.heap_alloc wr _ w1.heap.size hsz1]
  exact wc

theorem none_box (w : World) : ∃ W, W = w.alloc (.cells #[.int .i64 0, .bool false, .bool false, .bool false, .bool false, .bool false, .bool false, .bool false, .bool false] 24) ∧ winBlock W w.heap.size 0 noneS ∧ Below w.heap.size w W ∧ W.heap.size = w.heap.size + 1 := one_box w 0 noneS

set_option maxRecDepth 100000 in
set_option maxHeartbeats 8000000 in
theorem walk_WindowOnce (w : World) (a : Option Addr) (len cap : Nat) (l : List Int) (h : RowK .i64 w a len l) (hc : len ≤ cap) (_ : a = none → cap = 0) (_ : cap * 8 ≤ 140737488351232) (again : Int) (wa : (Lit.int .i64 again).wf = true) :
    Calls Try.prog 6 #[.slice a len cap, .int .i64 again] w fun e w' => e = .returned (.bool true) ∧ Below w.heap.size w w' := by
  obtain ⟨i0, hi, hz0, hz1', hz2⟩ := info_parts Try.infoI
  have hll := h.len_eq
  go_enter Try.func6, Try.ntmps6
  go_wp2_with fail
  obtain ⟨W, hW, wb0, B0, S0⟩ := none_box w
  rw [← hW]
  clear hW
  go_loopw [6, 7] (fun v i wr => ∃ (k : Nat) (F : List Int) (t : Int) (s : Nat → Bool), i = .int .i64 k ∧ OnceInv w wr k len F t s v)
    (fun _ i _ => len - (intOf i).toNat)
  case atStart => exact ⟨0, [], 0, noneS, rfl, ⟨by omega, by omega, World.ownsRow_nil _ _ _ _, by simp, WinInv.none, by simp, wb0, B0⟩⟩
  case round =>
    obtain ⟨k, F, t, s, rfl, I⟩ := hrel
    have ok := I.inv.ok
    have hl := ok.low
    have hh := ok.high
    have k40 := I.k40
    have kl := I.kl
    by_cases hlt : k < len
    · by_cases hlt2 : k < 40
      · obtain ⟨b, off, rfl⟩ := h.form (by omega)
        have hx := (h.below I.bel).at k hlt
        have wx := h.wf (l.getD k 0) (by rw [List.getD_eq_getElem?_getD, List.getElem?_eq_getElem (by omega)]; simp)
        generalize l.getD k 0 = x at hx wx
        have pr := pickedOf_range x 60 (by decide)
        have P1 := fun w => picked_any x 60 w wx (by decide) (by decide)
        generalize pickedOf x 60 = id at pr P1
        obtain ⟨id0, id1⟩ := pr
        clear wb0 B0 S0
        go_wp2_with fail
        refine (P1 _).mono ?_
        rintro e w0 ⟨rfl, rfl⟩
        have HI := veil I
        obtain ⟨c0, c1, c2, c3, c4, c5, c6, c7, c8⟩ := I.blk.cells
        clear I P1 hx
        go_wp2_with fail
        by_cases hlow : id < t - 8
        · refine (take_low t id s _ ok id0 (by omega) hlow).mono ?_
          rintro e w1 ⟨rfl, b1⟩
          have wb1 := (unveil HI).blk.next b1
          have hR := wb1.lt
          have hR2 : ¬ w.heap.size = w1.heap.size := by omega
          clear c0 c1 c2 c3 c4 c5 c6 c7 c8
          have c0 := wb1.cell0
          clear wb1
          go_wp2
          go_roundw
          case rel => exact ⟨k + 1, F, t, s, by go_num, (((unveil HI).next b1).next (below1 _ _)).step hlt hlt2⟩
          case measure => simp [intOf]; omega
        · obtain ⟨T, S, bn, hI2, hT1, hT2, hT3, hold, hnew, hT⟩ := take_step (unveil HI).inv id0 (by omega) (by omega)
          refine (hT _).mono ?_
          rintro e w1 ⟨rfl, b1⟩
          have wb1 := (unveil HI).blk.next b1
          have hR := wb1.lt
          have hR2 : ¬ w.heap.size = w1.heap.size := by omega
          clear c0 c1 c2 c3 c4 c5 c6 c7 c8 hT
          have c0 := wb1.cell0
          clear wb1
          have n1 : ¬ T < t := by omega
          have n2 : ¬ T ≤ id := by omega
          have HI1 := veil ((unveil HI).next b1)
          clear HI b1
          go_wp2_with fail
          obtain ⟨W2, hW2, wc0, B2, S2⟩ := one_box w1 T S
          rw [← hW2]
          clear hW2 c0
          have HG := veil (unveil HI1).row.lt
          have HI2 := veil ((unveil HI1).next B2)
          clear HI1 B2
          cases bn
          · have HE := veil (hold rfl)
            clear hold hnew
            obtain ⟨a6, cap6, rfl, r6, _, _, _, _⟩ := RowK.ofOwns (unveil HI2).row (fun u hu => wf_i64 (by have := (unveil HI2).rng u hu; omega) (by have := (unveil HI2).rng u hu; omega))
            have hml := (unveil HI2).len_
            obtain ⟨m, hm⟩ : ∃ m, m = F.length := ⟨_, rfl⟩
            rw [← hm] at r6 hml ⊢
            have HM := veil hm
            clear hm
            go_loopw [12] (fun i wr => ∃ j : Nat, j ≤ m ∧ i = .int .i64 j ∧ wr = W2) (fun i _ => m - (intOf i).toNat)
            case atStart => exact ⟨0, by omega, rfl, rfl⟩
            case round =>
              obtain ⟨j, hj, rfl, rfl⟩ := hrel
              by_cases hjm : j < m
              · obtain ⟨b6, off6, rfl⟩ := r6.form (by omega)
                have hy := r6.at j hjm
                have hyF : F.getD j 0 ∈ F := by
                  have := unveil HM
                  rw [List.getD_eq_getElem?_getD, List.getElem?_eq_getElem (by omega)]; simp
                clear hyF
                generalize F.getD j 0 = y at *
                clear r6
                by_cases hyi : y = id
                · have hye : (y == id) = true := by simpa using hyi
                  clear hyi
                  go_wp2
                  go_roundw
                  case rel => exact ⟨j + 1, by omega, by go_num, by first | rfl | trivial⟩
                  case measure => simp [intOf]; omega
                · have hye : (y == id) = false := by simpa using hyi
                  clear hyi
                  go_wp2
                  go_roundw
                  case rel => exact ⟨j + 1, by omega, by go_num, by first | rfl | trivial⟩
                  case measure => simp [intOf]; omega
              · obtain rfl : j = m := by omega
                obtain ⟨c0, c1, c2, c3, c4, c5, c6, c7, c8⟩ := wc0.cells
                obtain ⟨d0, d1, d2, d3, d4, d5, d6, d7, d8⟩ := (unveil HI2).blk.cells
                have df := (unveil HI2).blk.free
                clear r6
                go_wp2
                go_roundw
                case rel => exact ⟨k + 1, F, T, S, by go_num, by rw [unveil HM]; exact ((unveil HI2).store (by obtain ⟨q1, q2, _⟩ := unveil HE; rw [q1, q2]; exact (unveil HI2).inv)).step hlt hlt2⟩
                case measure => simp [intOf]; omega
          · have hnA := hnew rfl
            clear hold hnew
            obtain ⟨a6, cap6, rfl, r6, _, _, _, _⟩ := RowK.ofOwns (unveil HI2).row (fun u hu => wf_i64 (by have := (unveil HI2).rng u hu; omega) (by have := (unveil HI2).rng u hu; omega))
            have hml := (unveil HI2).len_
            obtain ⟨m, hm⟩ : ∃ m, m = F.length := ⟨_, rfl⟩
            rw [← hm] at r6 hml ⊢
            have HM := veil hm
            clear hm
            go_loopw [12] (fun i wr => ∃ j : Nat, j ≤ m ∧ i = .int .i64 j ∧ wr = W2) (fun i _ => m - (intOf i).toNat)
            case atStart => exact ⟨0, by omega, rfl, rfl⟩
            case round =>
              obtain ⟨j, hj, rfl, rfl⟩ := hrel
              by_cases hjm : j < m
              · obtain ⟨b6, off6, rfl⟩ := r6.form (by omega)
                have hy := r6.at j hjm
                have hyF : F.getD j 0 ∈ F := by
                  have := unveil HM
                  rw [List.getD_eq_getElem?_getD, List.getElem?_eq_getElem (by omega)]; simp
                have hne : (F.getD j 0 == id) = false := by
                  simp only [beq_eq_false_iff_ne]
                  intro he
                  rw [he] at hyF
                  exact hnA hyF
                clear hyF
                generalize F.getD j 0 = y at *
                clear r6
                go_wp2
                go_roundw
                case rel => exact ⟨j + 1, by omega, by go_num, by first | rfl | trivial⟩
                case measure => simp [intOf]; omega
              · obtain rfl : j = m := by omega
                have e := unveil HM
                have hown : wr.ownsRow (w.heap.size + 1) 3 1 (.slice a6 j cap6) j (F.map (Value.int .i64)) := by
                  have := (unveil HI2).row
                  rw [← e] at this
                  exact this
                have hog : ∀ g, (Value.slice a6 j cap6).ownBlock = some g → w.heap.size + 1 ≤ g ∧ g < w1.heap.size := by
                  have hh := unveil HG
                  rw [← e] at hh
                  exact hh
                have HOG := veil hog
                have hsz : w.heap.size + 1 ≤ wr.heap.size := by omega
                have hsz1 : w1.heap.size < wr.heap.size := by omega
                clear r6 e hog S2
                go_wp2_with (at_builtin; refine wpList_append_own _ rfl _ _ 33 rfl (w.heap.size + 1) 3 i0 (.int .i64 0) 1 8 Try.underlying33 hi hz0 hz1' hz2 rfl (by decide) _ _ _ rfl (hown.alloc _) ⟨wr.heap.size, 0, none⟩ 1 1 [.int .i64 id] rfl rfl (cell_one_new _ _ _) (ints_oneCell .i64 [id]) (by unfold maxLen; omega) (by omega) (Nat.le_trans hsz (by simp)) ?_; intro v4 w4 hown4 hgrow4 _; obtain ⟨b4, wc4, wd4⟩ := once_grown hgrow4 (unveil HOG) hsz hsz1 wc0 (unveil HI2).blk; have HO4 := veil hown4; clear hown hgrow4 hown4; obtain ⟨c0, c1, c2, c3, c4, c5, c6, c7, c8⟩ := wc4.cells; obtain ⟨d0, d1, d2, d3, d4, d5, d6, d7, d8⟩ := wd4.cells; have df := wd4.free)
                go_roundw
                case rel =>
                  refine ⟨k + 1, F ++ [id], T, S, by go_num, ⟨by omega, by omega, ?_, ?_, hI2, ?_, wd4.store T S, winStore_below ((unveil HI2).bel.trans (b4.mono (by omega))) _ (Nat.le_refl _) _ _⟩⟩
                  · refine own_alike ?_ (fun g hg _ => winStore_other _ _ _ _ _ (by omega))
                    have := unveil HO4
                    rw [List.map_append, List.length_append, ← unveil HM]
                    exact this
                  · rw [List.length_append, ← unveil HM]; simp; omega
                  · intro x hx
                    rcases List.mem_append.1 hx with hx | hx
                    · exact (unveil HI2).rng x hx
                    · rw [List.mem_singleton] at hx; omega
                case measure => simp [intOf]; omega
      · obtain rfl : k = 40 := by omega
        have HI := veil I
        obtain ⟨c0, c1, c2, c3, c4, c5, c6, c7, c8⟩ := I.blk.cells
        obtain ⟨a6, cap6, rfl, r6, _, _, _, _⟩ := RowK.ofOwns I.row (fun u hu => wf_i64 (by have := I.rng u hu; omega) (by have := I.rng u hu; omega))
        have hml := I.len_
        clear I wb0 B0 S0
        obtain ⟨m, hm⟩ : ∃ m, m = F.length := ⟨_, rfl⟩
        rw [← hm] at r6 hml ⊢
        have HM := veil hm
        clear hm
        by_cases hm0 : m = 0
        · have ht0 : t = 0 := (unveil HI).inv.zero (List.length_eq_zero_iff.1 (by have := unveil HM; omega))
          subst hm0
          subst ht0
          go_wp2
          go_ret
          exact ⟨rfl, (unveil HI).bel⟩
        · have hmp : (0 : Int) < (m : Int) := by omega
          have pr := pickedOf_range again (m : Int) hmp
          have P2 := fun w => picked_any again (m : Int) w wa hmp (by omega)
          generalize pickedOf again (m : Int) = q at pr P2
          obtain ⟨q, rfl⟩ : ∃ q' : Nat, q = (q' : Int) := ⟨q.toNat, by omega⟩
          have hqm : q < m := by omega
          obtain ⟨b6, off6, rfl⟩ := r6.form (by omega)
          have hy := r6.at q hqm
          have hyF : F.getD q 0 ∈ F := by
            have := unveil HM
            rw [List.getD_eq_getElem?_getD, List.getElem?_eq_getElem (by omega)]; simp
          have hyr := (unveil HI).rng _ hyF
          generalize F.getD q 0 = id at hy hyF hyr
          have hm1 : ((m : Int) == 0) = false := by simp; omega
          obtain ⟨v, T, S, hv, hT⟩ : ∃ (v : Int) (T : Int) (S : Nat → Bool), (v = 0 ∨ v = 9) ∧ ∀ w, Calls Try.prog 13 #[winVal t s, .int .i64 id] w fun e w' => e = .returned (.tuple #[winVal T S, .bool false, .int .i64 v]) ∧ Below w.heap.size w w' := by
            by_cases hlow : id < t - 8
            · exact ⟨9, 0, noneS, .inr rfl, fun w => take_low t id s w ok hyr.1 (by omega) hlow⟩
            · exact ⟨0, t, s, .inl rfl, fun w => take_old t id s w ok hyr.1 (by omega) (((unveil HI).inv.mem id (by omega)).2 hyF)⟩
          clear r6 hyF hyr
          go_wp2_with fail
          refine (P2 _).mono ?_
          rintro e w1 ⟨rfl, rfl⟩
          clear P2
          go_wp2_with fail
          refine (hT _).mono ?_
          rintro e w2 ⟨rfl, b2⟩
          have B2 := Below.next (Below.next (unveil HI).bel b2) (below1 w2 (.cells (winCells T S) 24))
          have HB := veil B2
          clear hT c0 c1 c2 c3 c4 c5 c6 c7 c8 hy B2
          rcases hv with rfl | rfl
          · go_wp2
            go_ret
            exact ⟨rfl, unveil HB⟩
          · go_wp2
            go_ret
            exact ⟨rfl, unveil HB⟩
    · obtain rfl : k = len := by omega
      have HI := veil I
      obtain ⟨c0, c1, c2, c3, c4, c5, c6, c7, c8⟩ := I.blk.cells
      obtain ⟨a6, cap6, rfl, r6, _, _, _, _⟩ := RowK.ofOwns I.row (fun u hu => wf_i64 (by have := I.rng u hu; omega) (by have := I.rng u hu; omega))
      have hml := I.len_
      clear I wb0 B0 S0
      obtain ⟨m, hm⟩ : ∃ m, m = F.length := ⟨_, rfl⟩
      rw [← hm] at r6 hml ⊢
      have HM := veil hm
      clear hm
      by_cases hm0 : m = 0
      · have ht0 : t = 0 := (unveil HI).inv.zero (List.length_eq_zero_iff.1 (by have := unveil HM; omega))
        subst hm0
        subst ht0
        go_wp2
        go_ret
        exact ⟨rfl, (unveil HI).bel⟩
      · have hmp : (0 : Int) < (m : Int) := by omega
        have pr := pickedOf_range again (m : Int) hmp
        have P2 := fun w => picked_any again (m : Int) w wa hmp (by omega)
        generalize pickedOf again (m : Int) = q at pr P2
        obtain ⟨q, rfl⟩ : ∃ q' : Nat, q = (q' : Int) := ⟨q.toNat, by omega⟩
        have hqm : q < m := by omega
        obtain ⟨b6, off6, rfl⟩ := r6.form (by omega)
        have hy := r6.at q hqm
        have hyF : F.getD q 0 ∈ F := by
          have := unveil HM
          rw [List.getD_eq_getElem?_getD, List.getElem?_eq_getElem (by omega)]; simp
        have hyr := (unveil HI).rng _ hyF
        generalize F.getD q 0 = id at hy hyF hyr
        have hm1 : ((m : Int) == 0) = false := by simp; omega
        obtain ⟨v, T, S, hv, hT⟩ : ∃ (v : Int) (T : Int) (S : Nat → Bool), (v = 0 ∨ v = 9) ∧ ∀ w, Calls Try.prog 13 #[winVal t s, .int .i64 id] w fun e w' => e = .returned (.tuple #[winVal T S, .bool false, .int .i64 v]) ∧ Below w.heap.size w w' := by
          by_cases hlow : id < t - 8
          · exact ⟨9, 0, noneS, .inr rfl, fun w => take_low t id s w ok hyr.1 (by omega) hlow⟩
          · exact ⟨0, t, s, .inl rfl, fun w => take_old t id s w ok hyr.1 (by omega) (((unveil HI).inv.mem id (by omega)).2 hyF)⟩
        clear r6 hyF hyr
        go_wp2_with fail
        refine (P2 _).mono ?_
        rintro e w1 ⟨rfl, rfl⟩
        clear P2
        go_wp2_with fail
        refine (hT _).mono ?_
        rintro e w2 ⟨rfl, b2⟩
        have B2 := Below.next (Below.next (unveil HI).bel b2) (below1 w2 (.cells (winCells T S) 24))
        have HB := veil B2
        clear hT c0 c1 c2 c3 c4 c5 c6 c7 c8 hy B2
        rcases hv with rfl | rfl
        · go_wp2
          go_ret
          exact ⟨rfl, unveil HB⟩
        · go_wp2
          go_ret
          exact ⟨rfl, unveil HB⟩

set_option linter.unusedVariables false in
set_option maxRecDepth 100000 in
theorem lifted_WindowOnce (os : Os) (started : os.Started) (H : Type) (enc : TypeId × Value → H) :
    ReturnsInHanded {} Try.checked os 6 .any (Rows.windowOnceSpec.pre6 enc Try.prog Try.f6 Rows.windowOnceRow.domain false) (Rows.windowOnceSpec.post enc Try.prog Try.f6 false true false false) := by
  refine returnsInHanded_of_change_sized (C := Try.checked) own started (by kernel_rfl) Try.func6
    (ChangeSpec.witness6 (enc := enc) (C := Try.checked) false ⟨#[], #[.slice none 0 0, .int .i64 0], []⟩ 8 (by kernel_rfl) (by kernel_rfl) (by kernel_rfl) (by kernel_rfl)) ?_
  intro W base args ds gs before hval0 hW hcnd hsz0 _
  have hval : ∀ (j : Nat) t v, Try.f6.params[j]? = some t → args[j]? = some v → Value.okWide Try.prog W .any base t v := hval0
  have hsz : (DataW.weightsEach Try.prog (Try.f6.params.toList ++ Rows.windowOnceSpec.plain.varTypes Try.prog) (ds ++ gs)).all (· ≤ reachBytes) = true := hsz0
  have hW' := hW
  obtain ⟨p, q, hA0, hV, rfl, hfz, hnd⟩ := hW
  have hA : DataW.TrodAll enc Try.prog W 0 (fun _ => true) true Try.f6.params.toList args.toList ds p := hA0
  rw [Try.params6] at hA hval hsz
  have hK := hA
  have hlt : ∀ x ∈ p, x.block < W.heap.size := fun x hx => hW'.lt x (by simp [hx])
  obtain ⟨v0, vs0, d0, ds0, p0, q0, hargs, rfl, rfl, h0, r0⟩ := trodAll_cons hA
  obtain ⟨v1, vs1, d1, ds1, p1, q1, rfl, rfl, rfl, h1, r1⟩ := trodAll_cons r0
  obtain ⟨rfl, rfl, rfl⟩ := trodAll_nil r1
  obtain rfl : args = #[v0, v1] := by cases args; simp_all
  obtain ⟨rfl, rfl⟩ := trodVars_none hV
  obtain ⟨a0, len0, cap0, l0, rfl, w0, lc0, cm0, na0, hd0⟩ := open_row Try.underlying33 Try.underlying3 (by kernel_rfl) (hval 0 33 v0 rfl rfl) h0
  have z0 : cap0 * 8 ≤ 140737488351232 := open_sized (j := 0) (t := 33) (e := 3) hsz rfl rfl Try.underlying33 (by kernel_rfl) hd0
  clear hd0
  obtain ⟨a1, rfl, rfl, rfl, w1⟩ := open_int Try.underlying3 (hval 1 3 v1 rfl rfl) h1
  clear hA0 hval0 hsz0
  refine (walk_WindowOnce W a0 len0 cap0 l0 w0 lc0 na0 z0 a1 w1).mono fun e W' ⟨he, bel⟩ => ?_
  subst he
  exact ⟨_, rfl, _, _, _, [], _, [], hW', trodAll_mk1 (shut_bool Try.underlying4 _), trodAll_stays laidOut (List.forall_mem_cons.2 ⟨⟨by kernel_rfl, of_decide_eq_true (by kernel_rfl)⟩, List.forall_mem_cons.2 ⟨⟨by kernel_rfl, of_decide_eq_true (by kernel_rfl)⟩, by intro t ht; cases ht⟩⟩) hK bel hlt, rfl, bel.frame _, fun h => by cases h⟩

theorem windowOnce_holds : Rows.WindowOnceSaid :=
  OpenClaim.holds_of_wide 6 Try.f6 rfl rfl rfl rfl rfl rfl rfl ⟨rfl, rfl, rfl, rfl, rfl⟩ rfl rfl rfl rfl rfl (by kernel_rfl) Try.func6 (by kernel_rfl)
    (of_decide_eq_true (by kernel_rfl)) (by unfold Func.isWrapper; first | (rw [if_pos (by decide +kernel)]; kernel_rfl) | (rw [if_neg (by decide +kernel)]; exact ⟨rfl, rfl⟩))
    (fun os started H enc _ => lifted_WindowOnce os started H enc)
#print axioms windowOnce_holds
end Go.Proofs.Ythbjnjbcmcollaa
