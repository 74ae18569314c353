/- Walk of the document's lineAct. -/
import Derived.Test.YtekbdkppnjnaaaaDoorLoP
import Derived.Maps.AppendAt
namespace Go.Proofs.YtekbdkppnjnaaaaDoor
open Go.RowKit

theorem Tryd.infoStr : (Tryd.prog.info? 9).map (fun i => (i.zero, i.size, i.bytes)) = some (some (.string ⟨#[]⟩), 1, 16) := by kernel_rfl
/-- a row of texts that the call itself made. -/
abbrev sRow (w : World) (base : Nat) (v : Value) (ws : List (List UInt8)) : Prop := w.ownsRow base 9 1 v ws.length (ws.map fun x => Value.string (str x))
theorem sRow.at {w : World} {base : Nat} {a : Option Addr} {n c : Nat} {ws : List (List UInt8)} (h : sRow w base (.slice a n c) ws) (h0 : 0 < ws.length) : ∃ G, a = some ⟨G, 0, none⟩ ∧ n = ws.length ∧ base ≤ G ∧ G < w.heap.size ∧ (∀ k (hk : k < ws.length), w.cell? ⟨G, k, none⟩ = some (.string (str ws[k]))) ∧ n ≤ c := by
  rcases h.2 with ⟨e, e'⟩ | ⟨g, cap, cur, e, hb, hh, h1, h2, h3, h4⟩
  · omega
  · simp only [Value.slice.injEq] at e
    obtain ⟨rfl, rfl, rfl⟩ := e
    refine ⟨g, rfl, rfl, hb, block_lt hh, fun k hk => ?_, h1⟩
    have hk2 : k < cur.size := by omega
    have : (cur.toList.take (ws.length * 1))[k]? = some (.string (str ws[k])) := by rw [h4]; simp [hk]
    rw [List.getElem?_take, if_pos (by omega)] at this
    simp only [World.cell?, hh]
    simpa using this
theorem flatB_len : ∀ (ws : List (List UInt8)) (x : List UInt8), x ∈ ws → x.length < (flatB ws).length
  | [], x, h => by cases h
  | y :: ws, x, h => by
    rw [flatB_cons]
    simp only [List.length_append, List.length_cons]
    rcases List.mem_cons.1 h with rfl | h
    · omega
    · have := flatB_len ws x h
      omega
theorem Words.len {s : List UInt8} {ws : List (List UInt8)} (h : Words s ws) (x : List UInt8) (hx : x ∈ ws) : x.length ≤ s.length := by
  have h1 := flatB_len ws x hx
  rw [← h.eq] at h1
  simp at h1
  omega
theorem iRow.free {w : World} {base : Nat} {G n c : Nat} {l : List Int} (h : iRow w base (.slice (some ⟨G, 0, none⟩) n c) l) (o : Nat) : w.frozen? ⟨G, o, none⟩ = false := by
  rcases h.2 with ⟨e, _⟩ | ⟨g, cap, cur, e, hb, hh, _⟩
  · cases e
  · simp only [Value.slice.injEq, Option.some.injEq, Addr.mk.injEq] at e
    obtain ⟨⟨rfl, _⟩, _⟩ := e
    simp [World.frozen?, hh]
theorem map_put {os : List Nat} (hn : os.Nodup) (h : Nat → Int) (m : Nat) (hm : m < os.length) (v : Int) : (os.map h).set m v = os.map (put1 h os[m] v) := by
  refine List.ext_getElem (by simp) fun j h1 h2 => ?_
  have hj : j < os.length := by simpa using h2
  rw [List.getElem_set, List.getElem_map]
  by_cases e : m = j
  · subst e
    rw [if_pos rfl, List.getElem_map, put1_same]
  · rw [if_neg e, List.getElem_map, put1_other _ _ (fun e' => e ((List.getElem_inj hn).1 e').symm)]
theorem iRow.put {w : World} {base G c : Nat} {os : List Nat} {h : Nat → Int} (hn : os.Nodup) (hr : iRow w base (.slice (some ⟨G, 0, none⟩) (os.map h).length c) (os.map h)) (m : Nat) (hm : m < os.length) (v : Int) : iRow (w.setCell ⟨G, m, none⟩ (.int .i64 v)) base (.slice (some ⟨G, 0, none⟩) (os.map (put1 h os[m] v)).length c) (os.map (put1 h os[m] v)) := by
  have := (World.ownsRow.stored hr m (.int .i64 v)).1
  unfold iRow
  rw [← map_put hn h m hm v, List.map_set, List.length_set]
  exact this
set_option maxRecDepth 20000 in
theorem bFlat_small : ∀ u ∈ bFlat, 0 ≤ u ∧ u ≤ 10 := by decide
theorem bFlat_wf : ∀ u ∈ bFlat, (Lit.int .i64 u).wf = true := fun u hu => Go.WalkArith.wf_i64 ⟨by have := bFlat_small u hu; omega, by have := bFlat_small u hu; omega⟩
/-- the words so far. -/
structure Wl (w wr : World) (a1 : Option Addr) (c1 : Nat) (ws : List (List UInt8)) : Prop where
  r : aBlock wr w.heap.size (fun _ => 0)
  s : sRow wr (w.heap.size + 1) (.slice a1 ws.length c1) ws
  b : Below w.heap.size w wr
theorem Wl.next {w wr wx : World} {a1 : Option Addr} {c1 : Nat} {ws : List (List UInt8)} (h : Wl w wr a1 c1 ws) (b : Below wr.heap.size wr wx) : Wl w wx a1 c1 ws := ⟨h.r.next b, own_still h.s (fun g _ hg => b.block g hg), Below.next h.b b⟩
theorem Wl.grown {w W3 w5 : World} {a1 : Option Addr} {c1 : Nat} {ws : List (List UInt8)} (h : Wl w W3 a1 c1 ws) (g : W3.grownBy w5 (Value.slice a1 ws.length c1).ownBlock) : Below w.heap.size w w5 ∧ aBlock w5 w.heap.size (fun _ => 0) := by
  refine ⟨h.b.grown g h.b.size (fun j e => by have := (h.s.lt j e).1; omega), ?_⟩
  unfold aBlock
  rw [g.block w.heap.size h.r.lt (fun e => by have := (h.s.lt _ e.symm).1; omega)]
  exact h.r
def LineOut (s : List UInt8) (e : Ending) : Prop := ∃ f, e = .returned (aVal f) ∧ LineR s f
theorem ret_lineAct {w : World} {R : Nat} {f : Nat → Int} {tmps : Array Value} (d : aBlock w R f) (t2 : tmps[2]? = some (.pointer (some ⟨R, 0, none⟩))) :
    (results Tryd.f36 tmps).run Tryd.prog w = .ok (aVal f) w := by
  simp [results, Tryd.results36, t2, asAddr, load_act d]
set_option maxRecDepth 20000 in
set_option maxHeartbeats 8000000 in
theorem lineAct_any (s : List UInt8) (hs : s.length ≤ 4000000) (w : World) : Calls Tryd.prog 36 #[.string (str s)] w fun e w' => LineOut s e ∧ Below w.heap.size w w' := by
  obtain ⟨i2, hi2, hz20, hz21, hz22⟩ := info_of Tryd.infoStr
  have hsz : (str s).size = s.length := str_size s
  have hat : ∀ i (h : i < s.length), (str s)[i]'(by rw [str_size]; exact h) = s[i] := fun i h => str_at s i h
  obtain ⟨W1, hW1, A1, B1⟩ : ∃ W1, W1 = w.alloc (.cells #[.int .i64 0, .int .i64 0, .int .i64 0, .int .i64 0, .int .i64 0, .int .i64 0, .int .i64 0, .int .i64 0, .int .i64 0, .int .i64 0, .int .i64 0] 27) ∧ aBlock W1 w.heap.size (fun _ => 0) ∧ Below w.heap.size w W1 := ⟨_, rfl, aBlock.new w (fun _ => 0), below1 _ _⟩
  have HA := veil A1
  clear A1
  have HX : Hid (∀ a b, (str s).extract a b = str ((s.drop a).take (b - a))) := veil (str_extract s)
  go_enter Tryd.func36, Tryd.ntmps36
  go_upto_region 3 with fail
  rw [← hW1]
  have hS1 : W1.heap.size = w.heap.size + 1 := by rw [hW1]; simp
  clear hW1
  go_wp2
  go_loopw [3, 4, 5] (fun wv fv iv wr => ∃ (ws : List (List UInt8)) (fr i : Nat) (a1 : Option Addr) (c1 : Nat), i ≤ s.length + 1 ∧ fr ≤ i ∧ ws.length ≤ i ∧ iv = .int .i64 i ∧ fv = .int .i64 fr ∧ wv = .slice a1 ws.length c1 ∧ Hid (Wat s ws fr i) ∧ Hid (i = s.length + 1 → fr = i) ∧ Hid (Wl w wr a1 c1 ws)) (fun _ _ iv _ => s.length + 1 - (intOf iv).toNat)
  case atStart => exact ⟨[], 0, 0, none, 0, by omega, by omega, by simp, rfl, rfl, rfl, veil (Wat.first s), veil (fun e => by omega), veil ⟨unveil HA, World.ownsRow_nil _ _ _ _, B1⟩⟩
  case round =>
    clear HA
    obtain ⟨ws, fr, i, a1, c1, hi, hfr, hwl, rfl, rfl, rfl, HW, HF, HT⟩ := hrel
    by_cases hlt : i ≤ s.length
    case neg =>
      obtain rfl : i = s.length + 1 := by omega
      have hWs := (unveil HW).last (unveil HF rfl)
      have hne := hWs.ne
      have HWs := veil hWs
      have H1 := bares_any wr
      clear HW HF HX hat hWs
      go_upto_region 10 with (go_at_call 50; refine H1.mono ?_; rintro e V1 ⟨v, rfl, o1, b1⟩; clear H1)
      have T1 := (unveil HT).next b1
      have h0w : 0 < ws.length := List.length_pos_iff.2 hne
      obtain ⟨G, rfl, _, hGb, hG, hcl, hnc⟩ := sRow.at T1.s h0w
      obtain ⟨a2, c2, rfl, r1, hc2, _⟩ := RowK.ofMany o1 bFlat_wf
      obtain ⟨b, off, rfl⟩ := r1.form (by omega)
      obtain ⟨n, hn⟩ : ∃ n, n = ws.length := ⟨_, rfl⟩
      have hnw : n ≤ 4000001 := by omega
      have h0n : 0 < n := by omega
      have HH : Hid (∀ u, Below V1.heap.size V1 u → RowK .i64 u (some ⟨b, off, none⟩) (11 * 12) bFlat ∧ (∀ k (hk : k < ws.length), u.cell? ⟨G, k, none⟩ = some (.string (str ws[k]))) ∧ aBlock u w.heap.size (fun _ => 0) ∧ Below w.heap.size w u) := veil fun u bu => ⟨r1.below bu, fun k hk => (bu.cell (p := ⟨G, k, none⟩) hG).trans (hcl k hk), T1.r.next bu, Below.next T1.b bu⟩
      have hnc' : n ≤ c1 := by omega
      have HN0 := veil hn
      rw [← hn]
      clear T1 HT o1 r1 hcl b1 hGb hnc hn hwl
      go_wp2
      go_loopw [7] (fun t wr => ∃ k : Nat, k ≤ 12 ∧ t = .int .i64 k ∧ Hid (∀ j, j < k → ¬ some (wordL (bOrd j)) = ws[0]?) ∧ Below V1.heap.size V1 wr) (fun t _ => 12 - (intOf t).toNat)
      case atStart => exact ⟨0, by omega, rfl, veil (fun j hj => by omega), Below.refl _ _⟩
      case round =>
        obtain ⟨k, hk, rfl, HNo, bk⟩ := hrel
        by_cases hk12 : k < 12
        case neg =>
          obtain rfl : k = 12 := by omega
          have HZ : Hid (LineR s (fun _ => 0)) := veil (.inr ⟨rfl, lineR_word (unveil HWs) (unveil HNo)⟩)
          obtain ⟨_, _, R2, B2⟩ := unveil HH wr bk
          obtain ⟨z0, z1, z2, z3, z4, z5, z6, z7, z8, z9, z10⟩ := R2.cells
          have zf := R2.free
          clear HH HWs HNo
          go_wp2
          obtain ⟨W9, hW9, d9, b9, _⟩ := a_stored R2 B2 (Nat.le_refl _) 0 0 0 0 0 0 0 0 0 0 0
          rw [← hW9]
          exact bodyPost_ret (ret_lineAct d9 rfl) rfl ⟨⟨fun _ => 0, congrArg Ending.returned (aVal_ext (below11 rfl rfl rfl rfl rfl rfl rfl rfl rfl rfl rfl)), unveil HZ⟩, b9⟩
        case pos =>
          have hI12 := bOrd_lt k hk12
          have HX1 : Hid (∀ u, Below wr.heap.size wr u → u.cell? ⟨b, off + k * 11, none⟩ = some (.int .i64 (bareK (bOrd k) 0)) ∧ u.cell? ⟨b, off + k * 11 + 1, none⟩ = some (.int .i64 (bareK (bOrd k) 1)) ∧ u.cell? ⟨b, off + k * 11 + 2, none⟩ = some (.int .i64 (bareK (bOrd k) 2)) ∧ u.cell? ⟨b, off + k * 11 + 3, none⟩ = some (.int .i64 (bareK (bOrd k) 3)) ∧ u.cell? ⟨b, off + k * 11 + 4, none⟩ = some (.int .i64 (bareK (bOrd k) 4)) ∧ u.cell? ⟨b, off + k * 11 + 5, none⟩ = some (.int .i64 (bareK (bOrd k) 5)) ∧ u.cell? ⟨b, off + k * 11 + 6, none⟩ = some (.int .i64 (bareK (bOrd k) 6)) ∧ u.cell? ⟨b, off + k * 11 + 7, none⟩ = some (.int .i64 (bareK (bOrd k) 7)) ∧ u.cell? ⟨b, off + k * 11 + 8, none⟩ = some (.int .i64 (bareK (bOrd k) 8)) ∧ u.cell? ⟨b, off + k * 11 + 9, none⟩ = some (.int .i64 (bareK (bOrd k) 9)) ∧ u.cell? ⟨b, off + k * 11 + 10, none⟩ = some (.int .i64 (bareK (bOrd k) 10))) := veil fun u bu => by
            have hr := (unveil HH u (Below.next bk bu)).1
            have := row_act hr k hk12
            simp only [bFlat_at k hk12 _ (show 0 < 11 by omega), bFlat_at k hk12 _ (show 1 < 11 by omega), bFlat_at k hk12 _ (show 2 < 11 by omega), bFlat_at k hk12 _ (show 3 < 11 by omega), bFlat_at k hk12 _ (show 4 < 11 by omega), bFlat_at k hk12 _ (show 5 < 11 by omega), bFlat_at k hk12 _ (show 6 < 11 by omega), bFlat_at k hk12 _ (show 7 < 11 by omega), bFlat_at k hk12 _ (show 8 < 11 by omega), bFlat_at k hk12 _ (show 9 < 11 by omega), bFlat_at k hk12 _ (show 10 < 11 by omega)] at this
            exact this
          have HX2 : Hid (∀ u, Below wr.heap.size wr u → u.cell? ⟨G, 0, none⟩ = some (.string (str (ws[0]'h0w)))) := veil fun u bu => (unveil HH u (Below.next bk bu)).2.1 0 h0w
          have hkn := bare_kno (bOrd k) hI12
          have hw0 : ws[0]? = some (ws[0]'h0w) := List.getElem?_eq_getElem h0w
          have HQ : Hid (wordL (bOrd k) = ws[0]'h0w → some (wordL (bOrd k)) = ws[0]?) := veil fun e => by rw [hw0, e]
          have HQ2 : Hid (¬ wordL (bOrd k) = ws[0]'h0w → ∀ j, j < k + 1 → ¬ some (wordL (bOrd j)) = ws[0]?) := veil fun e j hj => by
            by_cases ej : j = k
            · rw [ej, hw0]
              exact fun e' => e (Option.some.inj e')
            · exact unveil HNo j (by omega)
          have HK : Hid (kword (bOrd k) = str (wordL (bOrd k))) := veil (str_word _).symm
          clear hw0 HNo
          obtain ⟨I, hIk⟩ : ∃ I, I = bOrd k := ⟨_, rfl⟩
          rw [← hIk] at HX1 hkn HQ HQ2 HK hI12
          clear hIk
          obtain ⟨w0, hw0⟩ : ∃ w0, w0 = ws[0]'h0w := ⟨_, rfl⟩
          rw [← hw0] at HX2 HQ HQ2
          clear hw0
          have h0i : (0 : Int) < (n : Int) := by omega
          by_cases hw : wordL I = w0
          case neg =>
            have hst : ¬ kword I = str w0 := fun e => hw (by
              rw [unveil HK] at e
              exact str_eq e)
            have hst := str_ne hst
            have HNo := veil (unveil HQ2 hw)
            obtain ⟨S0, hS0⟩ : ∃ S0, S0 = str w0 := ⟨_, rfl⟩
            rw [← hS0] at HX2 hst
            clear hS0 HQ HQ2 hw HK
            go_upto_region 13 with fail
            go_cut [52] (fun p wx => p = .bool true ∧ Below wr.heap.size wr wx)
            case first =>
              refine wp_region_held_drew (S := Below wr.heap.size wr) (by kernel_rfl) (below_drew wr) (fun hHeld => ?_)
              refine wpAnyH_take (i := 0) (v := .slice (some ⟨b, off, none⟩) 12 c2) rfl (by kernel_rfl) (by kernel_rfl) (by kernel_rfl) (fun _ _ _ h => h) (Or.inl ⟨by rfl, fun _ _ => by go_simp⟩) hHeld ?_
              simp only [List.getElem_toArray, List.getElem_cons_zero, Act.put, List.setIfInBounds_toArray, List.set_cons_zero, List.set_cons_succ]
              refine wpAnyH_take (i := 1) (v := .int .i64 k) rfl (by kernel_rfl) (by kernel_rfl) (by kernel_rfl) (fun _ _ _ h => h) (Or.inl ⟨by rfl, fun _ _ => by go_simp⟩) hHeld ?_
              simp only [List.getElem_toArray, List.getElem_cons_zero, List.getElem_cons_succ, Act.put, List.setIfInBounds_toArray, List.set_cons_zero, List.set_cons_succ]
              refine wpAnyH_take (i := 2) (v := .pointer (some ⟨b, off + k * 11, none⟩)) rfl (by kernel_rfl) (by kernel_rfl) (by kernel_rfl) (fun _ _ _ h => h) (Or.inl ⟨by rfl, fun _ _ => by go_simp⟩) hHeld ?_
              simp only [List.getElem_toArray, List.getElem_cons_zero, List.getElem_cons_succ, Act.put, List.setIfInBounds_toArray, List.set_cons_zero, List.set_cons_succ]
              refine wpAnyH_take (i := 3) (v := aVal (bareK I)) rfl (by kernel_rfl) (by kernel_rfl) (by kernel_rfl) (fun _ _ _ h => h) (Or.inl ⟨by rfl, fun u bu => by obtain ⟨x0, x1, x2, x3, x4, x5, x6, x7, x8, x9, x10⟩ := unveil HX1 u bu; go_simp⟩) hHeld ?_
              simp only [List.getElem_toArray, List.getElem_cons_zero, List.getElem_cons_succ, Act.put, List.setIfInBounds_toArray, List.set_cons_zero, List.set_cons_succ]
              refine wpAnyH_take (i := 5) (v := .slice (some ⟨G, 0, none⟩) n c1) rfl (by kernel_rfl) (by kernel_rfl) (by kernel_rfl) (fun _ _ _ h => h) (Or.inl ⟨by rfl, fun _ _ => by go_simp⟩) hHeld ?_
              simp only [List.getElem_toArray, List.getElem_cons_zero, List.getElem_cons_succ, Act.put, List.setIfInBounds_toArray, List.set_cons_zero, List.set_cons_succ]
              refine wpAnyH_take (i := 6) (v := .pointer (some ⟨G, 0, none⟩)) rfl (by kernel_rfl) (by kernel_rfl) (by kernel_rfl) (fun _ _ _ h => h) (Or.inl ⟨by rfl, fun _ _ => by go_simp⟩) hHeld ?_
              simp only [List.getElem_toArray, List.getElem_cons_zero, List.getElem_cons_succ, Act.put, List.setIfInBounds_toArray, List.set_cons_zero, List.set_cons_succ]
              refine wpAnyH_take (i := 7) (v := .string S0) rfl (by kernel_rfl) (by kernel_rfl) (by kernel_rfl) (fun _ _ _ h => h) (Or.inl ⟨by rfl, fun u bu => by have y0 := unveil HX2 u bu; go_simp⟩) hHeld ?_
              simp only [List.getElem_toArray, List.getElem_cons_zero, List.getElem_cons_succ, Act.put, List.setIfInBounds_toArray, List.set_cons_zero, List.set_cons_succ]
              have bW0 := below_drew wr
              obtain ⟨W0, hW0⟩ : ∃ W0, W0 = wr.drew := ⟨_, rfl⟩
              rw [← hW0] at bW0  hHeld ⊢
              clear hW0
              refine wpAnyH_ready (rs := [4]) (by kernel_rfl) (by simp) ?_
              refine AllReadyH.cons rfl (fun K hK => ?_) AllReadyH.nil
              simp only [List.getElem_toArray, List.getElem_cons_zero, List.getElem_cons_succ]
              go_simp
              refine (actWord_any (bareK I) W0).mono ?_
              rintro e W1 ⟨rfl, bn⟩
              rw [hkn]
              have bW1 := Below.next bW0 bn
              clear bn
              refine hK.out _ _ bW1 (fun hHeld => ?_)
              clear hK K
              refine wpAnyH_take (i := 8) (v := .bool true) rfl (by kernel_rfl) (by kernel_rfl) (by kernel_rfl) (fun _ _ _ h => h) (Or.inl ⟨by rfl, fun _ _ => by go_simp⟩) hHeld ?_
              simp only [List.getElem_toArray, List.getElem_cons_zero, List.getElem_cons_succ, Act.put, List.setIfInBounds_toArray, List.set_cons_zero, List.set_cons_succ]
              refine wpAnyH_done (by kernel_rfl) ?_ _
              go_wp2_with fail
              go_meet
              exact ⟨rfl, bW1⟩
            case rest =>
              obtain ⟨rfl, bc⟩ := hcut
              clear HX1 HX2
              go_wp2
              go_roundw
              case rel => exact ⟨k + 1, by omega, by go_num, HNo, Below.next bk bc⟩
              case measure => simp [intOf]; omega
          case pos =>
            have HQ3 := veil (unveil HQ hw)
            have hst : kword I = str w0 := (unveil HK).trans (by rw [hw])
            obtain ⟨S0, hS0⟩ : ∃ S0, S0 = str w0 := ⟨_, rfl⟩
            rw [← hS0] at HX2 hst
            clear hS0 HQ HQ2 hw HK
            go_upto_region 13 with fail
            go_cut [52] (fun p wx => p = .bool false ∧ Below wr.heap.size wr wx)
            case first =>
              refine wp_region_held_drew (S := Below wr.heap.size wr) (by kernel_rfl) (below_drew wr) (fun hHeld => ?_)
              refine wpAnyH_take (i := 0) (v := .slice (some ⟨b, off, none⟩) 12 c2) rfl (by kernel_rfl) (by kernel_rfl) (by kernel_rfl) (fun _ _ _ h => h) (Or.inl ⟨by rfl, fun _ _ => by go_simp⟩) hHeld ?_
              simp only [List.getElem_toArray, List.getElem_cons_zero, Act.put, List.setIfInBounds_toArray, List.set_cons_zero, List.set_cons_succ]
              refine wpAnyH_take (i := 1) (v := .int .i64 k) rfl (by kernel_rfl) (by kernel_rfl) (by kernel_rfl) (fun _ _ _ h => h) (Or.inl ⟨by rfl, fun _ _ => by go_simp⟩) hHeld ?_
              simp only [List.getElem_toArray, List.getElem_cons_zero, List.getElem_cons_succ, Act.put, List.setIfInBounds_toArray, List.set_cons_zero, List.set_cons_succ]
              refine wpAnyH_take (i := 2) (v := .pointer (some ⟨b, off + k * 11, none⟩)) rfl (by kernel_rfl) (by kernel_rfl) (by kernel_rfl) (fun _ _ _ h => h) (Or.inl ⟨by rfl, fun _ _ => by go_simp⟩) hHeld ?_
              simp only [List.getElem_toArray, List.getElem_cons_zero, List.getElem_cons_succ, Act.put, List.setIfInBounds_toArray, List.set_cons_zero, List.set_cons_succ]
              refine wpAnyH_take (i := 3) (v := aVal (bareK I)) rfl (by kernel_rfl) (by kernel_rfl) (by kernel_rfl) (fun _ _ _ h => h) (Or.inl ⟨by rfl, fun u bu => by obtain ⟨x0, x1, x2, x3, x4, x5, x6, x7, x8, x9, x10⟩ := unveil HX1 u bu; go_simp⟩) hHeld ?_
              simp only [List.getElem_toArray, List.getElem_cons_zero, List.getElem_cons_succ, Act.put, List.setIfInBounds_toArray, List.set_cons_zero, List.set_cons_succ]
              refine wpAnyH_take (i := 5) (v := .slice (some ⟨G, 0, none⟩) n c1) rfl (by kernel_rfl) (by kernel_rfl) (by kernel_rfl) (fun _ _ _ h => h) (Or.inl ⟨by rfl, fun _ _ => by go_simp⟩) hHeld ?_
              simp only [List.getElem_toArray, List.getElem_cons_zero, List.getElem_cons_succ, Act.put, List.setIfInBounds_toArray, List.set_cons_zero, List.set_cons_succ]
              refine wpAnyH_take (i := 6) (v := .pointer (some ⟨G, 0, none⟩)) rfl (by kernel_rfl) (by kernel_rfl) (by kernel_rfl) (fun _ _ _ h => h) (Or.inl ⟨by rfl, fun _ _ => by go_simp⟩) hHeld ?_
              simp only [List.getElem_toArray, List.getElem_cons_zero, List.getElem_cons_succ, Act.put, List.setIfInBounds_toArray, List.set_cons_zero, List.set_cons_succ]
              refine wpAnyH_take (i := 7) (v := .string S0) rfl (by kernel_rfl) (by kernel_rfl) (by kernel_rfl) (fun _ _ _ h => h) (Or.inl ⟨by rfl, fun u bu => by have y0 := unveil HX2 u bu; go_simp⟩) hHeld ?_
              simp only [List.getElem_toArray, List.getElem_cons_zero, List.getElem_cons_succ, Act.put, List.setIfInBounds_toArray, List.set_cons_zero, List.set_cons_succ]
              have bW0 := below_drew wr
              obtain ⟨W0, hW0⟩ : ∃ W0, W0 = wr.drew := ⟨_, rfl⟩
              rw [← hW0] at bW0  hHeld ⊢
              clear hW0
              refine wpAnyH_ready (rs := [4]) (by kernel_rfl) (by simp) ?_
              refine AllReadyH.cons rfl (fun K hK => ?_) AllReadyH.nil
              simp only [List.getElem_toArray, List.getElem_cons_zero, List.getElem_cons_succ]
              go_simp
              refine (actWord_any (bareK I) W0).mono ?_
              rintro e W1 ⟨rfl, bn⟩
              rw [hkn, hst]
              have bW1 := Below.next bW0 bn
              clear bn
              refine hK.out _ _ bW1 (fun hHeld => ?_)
              clear hK K
              refine wpAnyH_take (i := 8) (v := .bool false) rfl (by kernel_rfl) (by kernel_rfl) (by kernel_rfl) (fun _ _ _ h => h) (Or.inl ⟨by rfl, fun _ _ => by go_simp⟩) hHeld ?_
              simp only [List.getElem_toArray, List.getElem_cons_zero, List.getElem_cons_succ, Act.put, List.setIfInBounds_toArray, List.set_cons_zero, List.set_cons_succ]
              refine wpAnyH_done (by kernel_rfl) ?_ _
              go_wp2_with fail
              go_meet
              exact ⟨rfl, bW1⟩
            case rest =>
              obtain ⟨rfl, bc⟩ := hcut
              clear HX2
              have B3 := Below.next bk bc
              have HB3 : Hid (∀ u, Below wc.heap.size wc u → (u.cell? ⟨b, off + k * 11, none⟩ = some (.int .i64 (bareK I 0)) ∧ u.cell? ⟨b, off + k * 11 + 1, none⟩ = some (.int .i64 (bareK I 1)) ∧ u.cell? ⟨b, off + k * 11 + 2, none⟩ = some (.int .i64 (bareK I 2)) ∧ u.cell? ⟨b, off + k * 11 + 3, none⟩ = some (.int .i64 (bareK I 3)) ∧ u.cell? ⟨b, off + k * 11 + 4, none⟩ = some (.int .i64 (bareK I 4)) ∧ u.cell? ⟨b, off + k * 11 + 5, none⟩ = some (.int .i64 (bareK I 5)) ∧ u.cell? ⟨b, off + k * 11 + 6, none⟩ = some (.int .i64 (bareK I 6)) ∧ u.cell? ⟨b, off + k * 11 + 7, none⟩ = some (.int .i64 (bareK I 7)) ∧ u.cell? ⟨b, off + k * 11 + 8, none⟩ = some (.int .i64 (bareK I 8)) ∧ u.cell? ⟨b, off + k * 11 + 9, none⟩ = some (.int .i64 (bareK I 9)) ∧ u.cell? ⟨b, off + k * 11 + 10, none⟩ = some (.int .i64 (bareK I 10))) ∧ (∀ k (hk : k < ws.length), u.cell? ⟨G, k, none⟩ = some (.string (str ws[k]))) ∧ aBlock u w.heap.size (fun _ => 0) ∧ Below w.heap.size w u) := veil fun u bu => ⟨unveil HX1 u (Below.next bc bu), (unveil HH u (Below.next B3 bu)).2⟩
              clear HX1 HH bk B3 bc
              obtain ⟨x0, x1, x2, x3, x4, x5, x6, x7, x8, x9, x10⟩ := (unveil HB3 wc (Below.refl _ _)).1
              have H2 := actNumbers_any (bareK I) wc
              rw [hkn] at H2
              go_upto_region 15 with (go_at_call 27; refine H2.mono ?_; rintro e V2 ⟨v1, v2, rfl, o1, o2, b2⟩; clear H2)
              clear x0 x1 x2 x3 x4 x5 x6 x7 x8 x9 x10
              obtain ⟨a3, c3, rfl⟩ := own_form o1
              obtain ⟨a4, c4, rfl⟩ := own_form o2
              obtain ⟨hl5, _, ho11, hnd, _, _⟩ := noffs_facts I hI12
              rw [List.length_map]
              clear o2
              have HO := veil o1
              clear o1
              have HND := veil hnd
              clear hnd
              obtain ⟨L, hL⟩ : ∃ L, L = (noffs I).length := ⟨_, rfl⟩
              have HLL := veil hL
              rw [← hL] at hl5 ⊢
              by_cases hnL : n = L + 1
              case neg =>
                have HZ : Hid (LineR s (fun _ => 0)) := veil (.inr ⟨rfl, lineR_len (unveil HWs) hI12 (unveil HQ3) (by rw [← unveil HN0, ← hL]; exact hnL)⟩)
                obtain ⟨_, _, R2, B2⟩ := unveil HB3 V2 b2
                obtain ⟨z0, z1, z2, z3, z4, z5, z6, z7, z8, z9, z10⟩ := R2.cells
                have zf := R2.free
                have hnI : ((n : Int) == (L : Int) + 1) = false := beq_eq_false_iff_ne.2 (by omega)
                clear HB3 HWs HQ3 HO hL HLL
                go_wp2
                obtain ⟨W9, hW9, d9, b9, _⟩ := a_stored R2 B2 (Nat.le_refl _) 0 0 0 0 0 0 0 0 0 0 0
                rw [← hW9]
                exact bodyPost_ret (ret_lineAct d9 rfl) rfl ⟨⟨fun _ => 0, congrArg Ending.returned (aVal_ext (below11 rfl rfl rfl rfl rfl rfl rfl rfl rfl rfl rfl)), unveil HZ⟩, b9⟩
              case pos =>
                have hnI : ((n : Int) == (L : Int) + 1) = true := by rw [beq_iff_eq]; omega
                have HNL := veil hnL
                have hwsl : ws.length = L + 1 := by rw [← unveil HN0]; exact hnL
                have HWL := veil hwsl
                clear hL hnL hwsl
                have hnb : ((n : Int) != (L : Int) + 1) = false := by simp [bne, hnI]
                go_wp2
                go_loopw [10] (fun t wr => ∃ (m : Nat) (h : Nat → Int), m ≤ L ∧ t = .int .i64 m ∧ Hid (iRow wr wc.heap.size (.slice a3 L c3) ((noffs I).map h)) ∧ Hid (∀ m' (hm : m' < (noffs I).length), m' < m → h (noffs I)[m'] = wholeI (ws.getD (m' + 1) [])) ∧ Below wc.heap.size wc wr) (fun t _ => L - (intOf t).toNat)
                case atStart => exact ⟨0, bareK I, Nat.zero_le _, rfl, veil (by have := unveil HO; rw [List.length_map, ← unveil HLL] at this; exact this), veil (fun m' hm h0 => by omega), b2⟩
                case round =>
                  clear HO b2
                  obtain ⟨m, h, hm, rfl, HR, HV, bm⟩ := hrel
                  by_cases hmL : m < L
                  case pos =>
                    have hmo : m < (noffs I).length := by rw [← unveil HLL]; exact hmL
                    have hmw : m + 1 < ws.length := by rw [unveil HWL]; omega
                    obtain ⟨G3, c3', e3, hG3b, hG3, y3, hc3⟩ := iRow.at (unveil HR) (by rw [List.length_map]; omega)
                    obtain ⟨rfl, e5, rfl⟩ : a3 = some ⟨G3, 0, none⟩ ∧ L = ((noffs I).map h).length ∧ c3 = c3' := by simpa using e3
                    have ym := y3 m (by rw [List.length_map]; exact hmo)
                    have yf := iRow.free (unveil HR) m
                    have hcw := (unveil HB3 wr bm).2.1 (m + 1) hmw
                    have H3 := whole_any (ws[m + 1]) (Nat.le_trans ((unveil HWs).len _ (List.getElem_mem hmw)) hs) wr
                    have HN3 : Hid (∀ u, u = wr.setCell ⟨G3, m, none⟩ (.int .i64 (wholeI ws[m + 1])) → iRow u wc.heap.size (.slice (some ⟨G3, 0, none⟩) L c3) ((noffs I).map (put1 h (noffs I)[m] (wholeI ws[m + 1]))) ∧ Below wc.heap.size wc u) := veil fun u hu => by
                      refine ⟨?_, by rw [hu]; exact (Turned.set G3 m wr _).under bm hG3b⟩
                      have h1 := unveil HR
                      rw [e5] at h1
                      have := iRow.put (unveil HND) h1 m hmo (wholeI ws[m + 1])
                      rw [hu, unveil HLL]
                      rw [List.length_map] at this
                      exact this
                    have HV3 : Hid (∀ m' (hm : m' < (noffs I).length), m' < m + 1 → put1 h (noffs I)[m] (wholeI ws[m + 1]) (noffs I)[m'] = wholeI (ws.getD (m' + 1) [])) := veil fun m' hm' h' => by
                      by_cases e : m' = m
                      · subst e
                        rw [put1_same]
                        simp [hmw]
                      · rw [put1_other _ _ (fun e' => e ((List.getElem_inj (unveil HND)).1 e'))]
                        exact unveil HV m' hm' (by omega)
                    have hmi : (m : Int) < (L : Int) := by omega
                    have hmn : (m : Int) + 1 < (n : Int) := by have := unveil HNL; omega
                    generalize ((noffs I).map h)[m]'(by rw [List.length_map]; exact hmo) = q at ym
                    generalize wholeI ws[m + 1] = zv at *
                    generalize str ws[m + 1] = SM at *
                    generalize (noffs I)[m] = om at *
                    clear e3 y3 hc3 e5 HR HV
                    go_wp2_with (go_at_call 51; refine H3.mono ?_; rintro e w' ⟨rfl, hw'⟩; rw [hw']; clear H3 hw' w')
                    go_roundw
                    case rel => exact ⟨m + 1, put1 h om zv, by omega, by go_num, veil (unveil HN3 _ rfl).1, HV3, (unveil HN3 _ rfl).2⟩
                    case measure => simp [intOf]; omega
                  case neg =>
                    obtain rfl : m = L := by omega
                    obtain ⟨⟨x0, x1, x2, x3, x4, x5, x6, x7, x8, x9, x10⟩, _, _, _⟩ := unveil HB3 wr bm
                    have HRr : iRow wr wc.heap.size (.slice a3 m c3) ((noffs (kno (bareK I 0) (bareK I 5))).map h) := by rw [hkn]; exact unveil HR
                    have H4 := refActOf_any (bareK I) h wc.heap.size (.slice a3 m c3) wr (by rw [hkn]; exact hI12) HRr
                    rw [hkn] at H4
                    have hres := lineR_act (h := h) (unveil HWs) hI12 (unveil HQ3) (by rw [unveil HWL, unveil HLL]) (fun m' hm' => by
                      have := unveil HV m' hm' (by rw [unveil HLL]; exact hm')
                      rw [this]
                      have hq : m' + 1 < ws.length := by rw [unveil HWL, unveil HLL]; omega
                      simp [hq])
                    have HRes := veil hres
                    clear hres HRr HR HV
                    obtain ⟨F, hF⟩ : ∃ F, F = over (noffs I) (bareK I) h := ⟨_, rfl⟩
                    rw [← hF] at H4 HRes
                    clear hF
                    go_upto_region 22 with (go_at_call 29; refine H4.mono ?_; rintro e V5 ⟨rfl, b5⟩; clear H4)
                    clear x0 x1 x2 x3 x4 x5 x6 x7 x8 x9 x10
                    obtain ⟨W6, hW6, A6, b6⟩ : ∃ W6, W6 = V5.alloc (.cells (aCells F) 27) ∧ aBlock W6 V5.heap.size F ∧ Below V5.heap.size V5 W6 := ⟨_, rfl, aBlock.new _ _, below1 _ _⟩
                    rw [← hW6]
                    clear hW6
                    have B6 := Below.next (Below.next bm b5) b6
                    have H5 := actFault_any F W6
                    have HA6 : Hid (∀ u, Below W6.heap.size W6 u → aBlock u V5.heap.size F ∧ aBlock u w.heap.size (fun _ => 0) ∧ Below w.heap.size w u) := veil fun u bu => ⟨A6.next bu, (unveil HB3 u (Below.next B6 bu)).2.2⟩
                    obtain ⟨x0, x1, x2, x3, x4, x5, x6, x7, x8, x9, x10⟩ := A6.cells
                    clear HB3 b5 b6 B6 A6 bm
                    by_cases hrf : refFault F = 0
                    case pos =>
                      have HZ : Hid (LineR s F) := veil (.inl ((unveil HRes).1 hrf))
                      rw [hrf] at H5
                      clear hrf HRes
                      go_upto_region 24 with (go_at_call 11; refine H5.mono ?_; rintro e V7 ⟨rfl, b7⟩; clear H5 x0 x1 x2 x3 x4 x5 x6 x7 x8 x9 x10)
                      obtain ⟨A7, R7, B7⟩ := unveil HA6 V7 b7
                      obtain ⟨x0, x1, x2, x3, x4, x5, x6, x7, x8, x9, x10⟩ := A7.cells
                      obtain ⟨z0, z1, z2, z3, z4, z5, z6, z7, z8, z9, z10⟩ := R7.cells
                      have zf := R7.free
                      clear HA6
                      go_wp2
                      obtain ⟨W9, hW9, d9, b9, _⟩ := a_stored R7 B7 (Nat.le_refl _) (F 0) (F 1) (F 2) (F 3) (F 4) (F 5) (F 6) (F 7) (F 8) (F 9) (F 10)
                      rw [← hW9]
                      exact bodyPost_ret (ret_lineAct d9 rfl) rfl ⟨⟨F, congrArg Ending.returned (aVal_ext (below11 rfl rfl rfl rfl rfl rfl rfl rfl rfl rfl rfl)), unveil HZ⟩, b9⟩
                    case neg =>
                      have HZ : Hid (LineR s (fun _ => 0)) := veil (.inr ⟨rfl, (unveil HRes).2 hrf⟩)
                      have hrf' : (refFault F == 0) = false := beq_eq_false_iff_ne.2 hrf
                      generalize refFault F = rf at *
                      clear hrf HRes
                      go_upto_region 23 with (go_at_call 11; refine H5.mono ?_; rintro e V7 ⟨rfl, b7⟩; clear H5 x0 x1 x2 x3 x4 x5 x6 x7 x8 x9 x10)
                      obtain ⟨A7, R7, B7⟩ := unveil HA6 V7 b7
                      obtain ⟨z0, z1, z2, z3, z4, z5, z6, z7, z8, z9, z10⟩ := R7.cells
                      have zf := R7.free
                      clear HA6
                      go_wp2
                      obtain ⟨W9, hW9, d9, b9, _⟩ := a_stored R7 B7 (Nat.le_refl _) 0 0 0 0 0 0 0 0 0 0 0
                      rw [← hW9]
                      exact bodyPost_ret (ret_lineAct d9 rfl) rfl ⟨⟨fun _ => 0, congrArg Ending.returned (aVal_ext (below11 rfl rfl rfl rfl rfl rfl rfl rfl rfl rfl rfl)), unveil HZ⟩, b9⟩
    case pos =>
      have hii : (i : Int) ≤ (s.length : Int) := by omega
      by_cases hb : (s ++ [32])[i]? = some 32
      case neg =>
        have hil : i < s.length := by
          rcases Nat.lt_or_ge i s.length with h | h
          · exact h
          · obtain rfl : i = s.length := by omega
            simp at hb
        have hc : ¬ s[i] = 32 := fun e => hb (by rw [List.getElem?_append_left hil, List.getElem?_eq_getElem hil, e])
        have HN := veil ((unveil HW).on hil hc)
        have hci : ¬ ((s[i].toNat : Int) = 32) := fun e => by
          have h1 : s[i].toNat = 32 := by omega
          exact hc (UInt8.toNat_inj.1 (h1.trans rfl))
        have hie : ((i : Int) == (s.length : Int)) = false := beq_eq_false_iff_ne.2 (by omega)
        have hki : (i : Int) < (s.length : Int) := by omega
        have hh := hat i hil
        clear hat HX HW hb hc HF
        go_wp2
        go_roundw
        case rel => exact ⟨ws, fr, i + 1, a1, c1, by omega, by omega, by omega, by go_num, rfl, rfl, HN, veil (fun e => by omega), HT⟩
        case measure => simp [intOf]; omega
      case pos =>
        have HN := veil ((unveil HW).word hlt hb)
        have hx := unveil HX fr i
        obtain ⟨X, hX⟩ : ∃ X, X = (s.drop fr).take (i - fr) := ⟨_, rfl⟩
        rw [← hX] at hx HN
        clear hX
        have T3 := (unveil HT).next (below1 wr (.cells #[.string (str X)] 9))
        have HO : Hid ((wr.alloc (.cells #[.string (str X)] 9)).ownsRow (w.heap.size + 1) 9 1 (.slice a1 ws.length c1) ws.length (ws.map fun x => Value.string (str x))) := veil T3.s
        have HG : Hid (∀ w5, (wr.alloc (.cells #[.string (str X)] 9)).grownBy w5 (Value.slice a1 ws.length c1).ownBlock → Below w.heap.size w w5 ∧ aBlock w5 w.heap.size (fun _ => 0)) := veil fun w5 g => T3.grown g
        have hsw : w.heap.size + 1 ≤ wr.heap.size := (unveil HT).r.lt
        have hfi : (fr : Int) ≤ (i : Int) := by omega
        have hlen : (ws ++ [X]).length = ws.length + 1 := by simp
        clear T3 HT HW HF HX
        have HE : Hid (∀ (u : World) (a2 : Option Addr) (c2 : Nat), Below w.heap.size w u ∧ aBlock u w.heap.size (fun _ => 0) → u.ownsRow (w.heap.size + 1) 9 1 (.slice a2 (ws.length + 1) c2) (ws.length + 1) ((ws.map fun x => Value.string (str x)) ++ [.string (str X)]) → Wl w u a2 c2 (ws ++ [X])) := veil fun u a2 c2 hb ho => ⟨hb.2, by
          unfold sRow
          rw [hlen, List.map_append]
          exact ho, hb.1⟩
        by_cases hie : i = s.length
        case pos =>
          have hie' : ((i : Int) == (s.length : Int)) = true := by simp [hie]
          clear hat hb hie
          go_wp2_with (at_builtin; refine wpList_append_own _ rfl _ _ 46 rfl (w.heap.size + 1) 9 i2 _ 1 16 Tryd.underlying46 hi2 hz20 hz21 hz22 rfl (by decide) (.slice a1 ws.length c1) ws.length (ws.map fun x => Value.string (str x)) rfl (unveil HO) ⟨wr.heap.size, 0, none⟩ 1 1 [.string (str X)] rfl rfl (cell_one_new _ _ _) (by simp [Value.oneCell']) (by unfold maxLen; omega) (by omega) (by simp; omega) ?_; intro v' w5 o5 g5; have HB := veil (unveil HG w5 g5); obtain ⟨a2, c2, rfl⟩ := own_form o5; have HO5 := veil o5; clear o5 g5 HO HG)
          go_roundw
          case rel => exact ⟨ws ++ [X], i + 1, i + 1, a2, c2, by omega, by omega, by omega, by go_num, by go_num, by rw [hlen], HN, veil (fun _ => rfl), veil (unveil HE _ _ _ (unveil HB) (unveil HO5))⟩
          case measure => simp [intOf]; omega
        case neg =>
          have hil : i < s.length := by omega
          have hie' : ((i : Int) == (s.length : Int)) = false := beq_eq_false_iff_ne.2 (by omega)
          have hki : (i : Int) < (s.length : Int) := by omega
          have hh := hat i hil
          have hc : (s[i].toNat : Int) = 32 := by
            rw [List.getElem?_append_left hil, List.getElem?_eq_getElem hil] at hb
            rw [Option.some.inj hb]
            rfl
          clear hat hb
          go_wp2_with (at_builtin; refine wpList_append_own _ rfl _ _ 46 rfl (w.heap.size + 1) 9 i2 _ 1 16 Tryd.underlying46 hi2 hz20 hz21 hz22 rfl (by decide) (.slice a1 ws.length c1) ws.length (ws.map fun x => Value.string (str x)) rfl (unveil HO) ⟨wr.heap.size, 0, none⟩ 1 1 [.string (str X)] rfl rfl (cell_one_new _ _ _) (by simp [Value.oneCell']) (by unfold maxLen; omega) (by omega) (by simp; omega) ?_; intro v' w5 o5 g5; have HB := veil (unveil HG w5 g5); obtain ⟨a2, c2, rfl⟩ := own_form o5; have HO5 := veil o5; clear o5 g5 HO HG)
          go_roundw
          case rel => exact ⟨ws ++ [X], i + 1, i + 1, a2, c2, by omega, by omega, by omega, by go_num, by go_num, by rw [hlen], HN, veil (fun _ => rfl), veil (unveil HE _ _ _ (unveil HB) (unveil HO5))⟩
          case measure => simp [intOf]; omega
end Go.Proofs.YtekbdkppnjnaaaaDoor
