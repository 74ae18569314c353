/- Whatever a client sends again, in whatever order, is never below a queue's window, and adds its message once, for whatever errands. -/
import Derived.Test.YtjolamdlclcpcaaRows
import Derived.Test.YtjolamdlclcpcaaClY
import Derived.Deep.Slices
namespace Go.Proofs.Ytjolamdlclcpcaa
open Go.ChangeShapes Go.WideShapes Go.ChangeAt Go.RowKit

theorem cells_intW : Try.prog.cellsOf 3 = 1 := by kernel_rfl
theorem cells_boolW : Try.prog.cellsOf 4 = 1 := by kernel_rfl
theorem cells_seen : Try.prog.cellsOf 49 = 8 := by kernel_rfl
theorem cells_window : Try.prog.cellsOf 51 = 9 := by kernel_rfl

section
variable {H : Type} {enc : TypeId × Value → H} {W : World} {base : Nat} {sp : Nat → Bool} {held : Bool}

theorem bools_seen {fuel : Nat} {cs : List Value} {x : DataW H × List MemPlace} (h : DataW.trod enc Try.prog W base sp held fuel 49 cs = some x) : ∃ s : Nat → Bool, ∀ i, i < 8 → cs[i]? = some (.bool (s i)) := by
  obtain ⟨xs, n, _, _, hl, hlen, hf⟩ := DataW.trod_array Try.underlying49 h
  rw [cells_boolW] at hf
  have hb : ∀ i, i < 8 → ∃ b, cs[i]? = some (.bool b) := by
    intro i hi
    have hx : xs[i]? = some (xs[i]'(by omega)) := List.getElem?_eq_getElem (by omega)
    have := hf i hi
    rw [hx, Nat.mul_one] at this
    obtain ⟨b, hb, _⟩ := DataW.trod_bool Try.underlying4 this
    refine ⟨b, ?_⟩
    have h0 : ((cs.drop i).take 1)[0]? = some (.bool b) := by rw [hb]; rfl
    simpa using h0
  refine ⟨fun i => match cs[i]? with | some (.bool b) => b | _ => false, fun i hi => ?_⟩
  obtain ⟨b, hb⟩ := hb i hi
  simp only [hb]

set_option maxRecDepth 20000 in
theorem window_cells {fuel : Nat} {cs : List Value} {x : DataW H × List MemPlace} (h : DataW.trod enc Try.prog W base sp held fuel 51 cs = some x) (hsz : cs.length = 9) :
    ∃ (t : Int) (s : Nat → Bool), cs = [.int .i64 t, .bool (s 0), .bool (s 1), .bool (s 2), .bool (s 3), .bool (s 4), .bool (s 5), .bool (s 6), .bool (s 7)] ∧ (Lit.int .i64 t).wf = true := by
  obtain ⟨xs, n, _, _, _, hlen, hf⟩ := DataW.trod_struct Try.underlying51 h
  match xs, hlen with
  | [y0, y1], _ =>
    have f0 : DataW.trod enc Try.prog W base sp held n 3 ((cs.drop 0).take (Try.prog.cellsOf 3)) = some y0 := hf 0 _ rfl
    rw [cells_intW] at f0
    have f1 : DataW.trod enc Try.prog W base sp held n 49 ((cs.drop 1).take (Try.prog.cellsOf 49)) = some y1 := hf 1 _ rfl
    rw [cells_seen] at f1
    obtain ⟨t, ht, _, hw⟩ := DataW.trod_int Try.underlying3 f0
    obtain ⟨s, hs⟩ := bools_seen f1
    refine ⟨t, s, ?_, hw⟩
    match cs, hsz with
    | [v0, v1, v2, v3, v4, v5, v6, v7, v8], _ =>
      have e0 : v0 = .int .i64 t := by simpa using ht
      have e1 : v1 = .bool (s 0) := by simpa using hs 0 (by omega)
      have e2 : v2 = .bool (s 1) := by simpa using hs 1 (by omega)
      have e3 : v3 = .bool (s 2) := by simpa using hs 2 (by omega)
      have e4 : v4 = .bool (s 3) := by simpa using hs 3 (by omega)
      have e5 : v5 = .bool (s 4) := by simpa using hs 4 (by omega)
      have e6 : v6 = .bool (s 5) := by simpa using hs 5 (by omega)
      have e7 : v7 = .bool (s 6) := by simpa using hs 6 (by omega)
      have e8 : v8 = .bool (s 7) := by simpa using hs 7 (by omega)
      rw [e0, e1, e2, e3, e4, e5, e6, e7, e8]

set_option maxRecDepth 20000 in
theorem open_Window {r : Reach} {b0 : Nat} {v : Value} {d : DataW H} {p : List MemPlace} (hv : Value.okWide Try.prog W r b0 51 v) (h : DataW.Trod enc Try.prog W base sp held 51 v d p) :
    ∃ (t : Int) (s : Nat → Bool), v = winVal t s ∧ (Lit.int .i64 t).wf = true := by
  obtain ⟨cs, n, rfl, hsz, hf⟩ := open_struct Try.underlying51 hv h
  rw [cells_window] at hsz
  obtain ⟨t, s, hz, hw⟩ := window_cells hf (by simpa using hsz)
  exact ⟨t, s, by rw [← Array.toArray_toList (xs := cs), hz], hw⟩
end
end Go.Proofs.Ytjolamdlclcpcaa

namespace Go.Proofs.Ytjolamdlclcpcaa
open Go.ChangeShapes Go.WideShapes Go.ChangeAt Go.RowKit

theorem cells_queue : Try.prog.cellsOf 54 = 41 := by kernel_rfl
theorem cells_messages : Try.prog.cellsOf 47 = 1 := by kernel_rfl
theorem cells_leases : Try.prog.cellsOf 48 = 1 := by kernel_rfl
theorem cells_windows : Try.prog.cellsOf 52 = 36 := by kernel_rfl
theorem cells_message : Try.prog.cellsOf 93 = 2 := by kernel_rfl
theorem cells_lease : Try.prog.cellsOf 96 = 4 := by kernel_rfl
theorem bytes_message : Try.prog.bytesOf 93 = 16 := by kernel_rfl
theorem bytes_lease : Try.prog.bytesOf 96 = 32 := by kernel_rfl

/-- a queue's rows, as they came in. -/
structure QueueIn (W : World) (ep nx gv : Int) (ra : Option Addr) (rn rc : Nat) (la : Option Addr) (ln lc : Nat) (R L : List Int) (ws : Nat → Value) (wt : Nat → Int) (wz : Nat → Nat → Bool) : Prop where
  rowR : RowK .i64 W ra (2 * rn) R
  rowL : RowK .i64 W la (4 * ln) L
  wins : Wins ws wt wz
  lenR : rn ≤ rc
  lenL : ln ≤ lc
  nilR : ra = none → rc = 0
  nilL : la = none → lc = 0
  wep : (Lit.int .i64 ep).wf = true
  wnx : (Lit.int .i64 nx).wf = true
  wgv : (Lit.int .i64 gv).wf = true

section
variable {H : Type} {enc : TypeId × Value → H} {W : World}

theorem ints_message {base : Nat} {sp : Nat → Bool} {held : Bool} {fuel : Nat} {cs : List Value} {x : DataW H × List MemPlace} (h : DataW.trod enc Try.prog W base sp held fuel 93 cs = some x) : Ints cs ∧ cs.length = 2 := by
  obtain ⟨xs, n, _, _, hl, hlen, hf⟩ := DataW.trod_struct Try.underlying93 h
  rw [cells_message] at hl
  refine ⟨?_, hl⟩
  match xs, hlen with
  | [y0, y1], _ =>
    have f0 : DataW.trod enc Try.prog W base sp held n 3 ((cs.drop 0).take (Try.prog.cellsOf 3)) = some y0 := hf 0 _ rfl
    have f1 : DataW.trod enc Try.prog W base sp held n 3 ((cs.drop 1).take (Try.prog.cellsOf 3)) = some y1 := hf 1 _ rfl
    rw [cells_int] at f0 f1
    exact ints_step (o := 0) (n := 1) (ints_int Try.underlying3 f0) (ints_step (o := 1) (n := 1) (ints_int Try.underlying3 f1) (ints_end (by omega)))
theorem ints_lease {base : Nat} {sp : Nat → Bool} {held : Bool} {fuel : Nat} {cs : List Value} {x : DataW H × List MemPlace} (h : DataW.trod enc Try.prog W base sp held fuel 96 cs = some x) : Ints cs ∧ cs.length = 4 := by
  obtain ⟨xs, n, _, _, hl, hlen, hf⟩ := DataW.trod_struct Try.underlying96 h
  rw [cells_lease] at hl
  refine ⟨?_, hl⟩
  match xs, hlen with
  | [y0, y1], _ =>
    have f0 : DataW.trod enc Try.prog W base sp held n 35 ((cs.drop 0).take (Try.prog.cellsOf 35)) = some y0 := hf 0 _ rfl
    have f1 : DataW.trod enc Try.prog W base sp held n 93 ((cs.drop 2).take (Try.prog.cellsOf 93)) = some y1 := hf 1 _ rfl
    rw [cells_handle] at f0
    rw [cells_message] at f1
    exact ints_step (o := 0) (n := 2) (ints_handle f0) (ints_step (o := 2) (n := 2) (ints_message f1).1 (ints_end (by omega)))

/-- the number that a cell holds. -/
def numOfCell (w : World) (a : Addr) : Int := match w.cell? a with
  | some (.int .i64 z) => z
  | _ => 0

/-- a slice of structs of numbers, by its cell. -/
theorem open_many {t e : TypeId} {size : Nat} (ht : Try.prog.underlying t = some (.slice e)) (hc : Try.prog.cellsOf e = size) (h0 : 0 < size)
    (hints : ∀ {fuel : Nat} {cs : List Value} {x : DataW H × List MemPlace}, DataW.trod enc Try.prog W 0 (fun _ => true) true fuel e cs = some x → Ints cs ∧ cs.length = size)
    {fuel : Nat} {cs : List Value} {d : DataW H} {p : List MemPlace} (hf : DataW.trod enc Try.prog W 0 (fun _ => true) true fuel t cs = some (d, p)) :
    ∃ a len cap D, cs = [.slice a len cap] ∧ RowK .i64 W a (size * len) D ∧ len ≤ cap ∧ cap ≤ maxLen ∧ (a = none → cap = 0) ∧ ((d = .nil ∧ cap = 0) ∨ ∃ es sp, d = .slice es sp ∧ es.length + sp.length = cap) := by
  rcases Go.Deep.open_slice ht hf with ⟨rfl, hx⟩ | ⟨x, l, c, m, n, Dd, Pl, rfl, _, hl, hm, hmm, hx, hall⟩
  · simp only [Prod.mk.injEq] at hx
    exact ⟨none, 0, 0, [], rfl, RowK.nil _ _ _, Nat.le_refl _, by unfold maxLen; omega, fun _ => rfl, .inl ⟨hx.1, rfl⟩⟩
  · simp only [if_true] at hmm
    subst hmm
    simp only [Prod.mk.injEq] at hx
    have hdat : (d = .nil ∧ m = 0) ∨ ∃ es sp, d = .slice es sp ∧ es.length + sp.length = m := .inr ⟨_, _, hx.1, by simp; omega⟩
    have key : ∀ i, i < l → ∀ t, t < size → ∃ z, W.cell? ((x.add (i * size)).add t) = some (.int .i64 z) ∧ (Lit.int .i64 z).wf = true := by
      intro i hi t ht
      obtain ⟨cs', h1, h2⟩ := hall i (by omega)
      rw [hc] at h1
      obtain ⟨⟨zs, rfl, hw⟩, hl4⟩ := hints h2
      have hl4' : zs.length = size := by simpa using hl4
      have h3 := (World.cells?_some h1).2.2 t ht
      rw [h3, List.getElem?_map, List.getElem?_eq_getElem (show t < zs.length by omega)]
      exact ⟨zs[t]'(by omega), rfl, hw _ (List.getElem_mem _)⟩
    obtain ⟨b, off, spot⟩ := x
    by_cases hl0 : l = 0
    · subst hl0
      exact ⟨_, _, _, [], rfl, RowK.nil _ _ _, hl, hm, by simp, hdat⟩
    have hspot : spot = none := by
      obtain ⟨z, hz, _⟩ := key 0 (by omega) 0 (by omega)
      simpa [Addr.add] using World.cell?_spot hz
    subst hspot
    have hadd : ∀ i t, ((⟨b, off, none⟩ : Addr).add i).add t = ⟨b, off + (i + t), none⟩ := by
      intro i t
      have h1 : ∀ (o j : Nat), (⟨b, o, none⟩ : Addr).add j = ⟨b, o + j, none⟩ := fun o j => by unfold Addr.add; split <;> simp_all
      rw [h1, h1, Nat.add_assoc]
    have cell : ∀ j, j < size * l → W.cell? ⟨b, off + j, none⟩ = some (.int .i64 (numOfCell W ⟨b, off + j, none⟩)) ∧ (Lit.int .i64 (numOfCell W ⟨b, off + j, none⟩)).wf = true := by
      intro j hj
      obtain ⟨z, hz, hw⟩ := key (j / size) (Nat.div_lt_of_lt_mul hj) (j % size) (Nat.mod_lt _ h0)
      rw [hadd, Nat.mul_comm (j / size) size, Nat.div_add_mod] at hz
      have hn : numOfCell W ⟨b, off + j, none⟩ = z := by unfold numOfCell; rw [hz]
      rw [hn]
      exact ⟨hz, hw⟩
    refine ⟨_, _, _, (List.range (size * l)).map (fun j => numOfCell W ⟨b, off + j, none⟩), rfl, ⟨by simp, ?_, ?_⟩, hl, hm, by simp, hdat⟩
    · intro u hu
      simp only [List.mem_map, List.mem_range] at hu
      obtain ⟨j, hj, rfl⟩ := hu
      exact (cell j hj).2
    · intro j hj
      have hcj := (cell j hj).1
      refine ⟨b, off, rfl, ?_, ?_⟩
      · unfold World.cell? at hcj
        by_cases hbl : b < W.heap.size
        · exact hbl
        · simp [Array.getElem?_eq_none (show W.heap.size ≤ b by omega)] at hcj
      · rw [hcj]
        simp [List.getD_eq_getElem?_getD, hj]

/-- four windows, by their cells. -/
theorem open_wins {base : Nat} {sp : Nat → Bool} {held : Bool} {fuel : Nat} {cs : List Value} {x : DataW H × List MemPlace} (h : DataW.trod enc Try.prog W base sp held fuel 52 cs = some x) (hsz : cs.length = 36) :
    ∃ ws wt wz, cs = wsList ws ∧ Wins ws wt wz := by
  obtain ⟨xs, n, _, _, hl, hlen, hf⟩ := DataW.trod_array Try.underlying52 h
  rw [cells_window] at hf
  have hp : ∀ p, p < 4 → ∃ (t : Int) (s : Nat → Bool), (cs.drop (p * 9)).take 9 = [.int .i64 t, .bool (s 0), .bool (s 1), .bool (s 2), .bool (s 3), .bool (s 4), .bool (s 5), .bool (s 6), .bool (s 7)] := by
    intro p hp
    have hx : xs[p]? = some (xs[p]'(by omega)) := List.getElem?_eq_getElem (by omega)
    have := hf p hp
    rw [hx] at this
    obtain ⟨t, s, h1, _⟩ := window_cells this (by simp; omega)
    exact ⟨t, s, h1⟩
  obtain ⟨wt, hwt⟩ : ∃ wt : Nat → Int, ∀ p, p < 4 → ∃ s : Nat → Bool, (cs.drop (p * 9)).take 9 = [.int .i64 (wt p), .bool (s 0), .bool (s 1), .bool (s 2), .bool (s 3), .bool (s 4), .bool (s 5), .bool (s 6), .bool (s 7)] := by
    obtain ⟨t0, h0⟩ := hp 0 (by omega)
    obtain ⟨t1, h1⟩ := hp 1 (by omega)
    obtain ⟨t2, h2⟩ := hp 2 (by omega)
    obtain ⟨t3, h3⟩ := hp 3 (by omega)
    exact ⟨fun p => match p with | 0 => t0 | 1 => t1 | 2 => t2 | _ => t3, below4 h0 h1 h2 h3⟩
  obtain ⟨wz, hwz⟩ : ∃ wz : Nat → Nat → Bool, ∀ p, p < 4 → (cs.drop (p * 9)).take 9 = [.int .i64 (wt p), .bool (wz p 0), .bool (wz p 1), .bool (wz p 2), .bool (wz p 3), .bool (wz p 4), .bool (wz p 5), .bool (wz p 6), .bool (wz p 7)] := by
    obtain ⟨s0, h0⟩ := hwt 0 (by omega)
    obtain ⟨s1, h1⟩ := hwt 1 (by omega)
    obtain ⟨s2, h2⟩ := hwt 2 (by omega)
    obtain ⟨s3, h3⟩ := hwt 3 (by omega)
    exact ⟨fun p => match p with | 0 => s0 | 1 => s1 | 2 => s2 | _ => s3, below4 h0 h1 h2 h3⟩
  refine ⟨fun i => cs.getD i undef, wt, wz, ?_, ?_⟩
  · apply List.ext_getElem?
    intro i
    rcases Nat.lt_or_ge i 36 with hi | hi
    · rw [wsList_get _ i hi, List.getD_eq_getElem?_getD, List.getElem?_eq_getElem (by omega)]; rfl
    · rw [List.getElem?_eq_none (by omega), List.getElem?_eq_none (by rw [wsList_len]; exact hi)]
  · intro p hp'
    have hg : ∀ j, j < 9 → cs[9 * p + j]? = ((cs.drop (p * 9)).take 9)[j]? := by
      intro j hj
      rw [List.getElem?_take, if_pos hj, List.getElem?_drop, Nat.mul_comm]
    have h9 := hwz p hp'
    refine ⟨?_, ?_⟩
    · have := hg 0 (by omega)
      rw [h9] at this
      simp only [List.getD_eq_getElem?_getD]
      rw [Nat.add_zero] at this
      rw [this]; rfl
    · intro j hj
      have := hg (1 + j) (by omega)
      rw [h9] at this
      simp only [List.getD_eq_getElem?_getD]
      rw [Nat.add_assoc, this]
      revert j
      refine below8 ?_ ?_ ?_ ?_ ?_ ?_ ?_ ?_ <;> (intros; rfl)

set_option maxRecDepth 20000 in
set_option maxHeartbeats 1000000 in
theorem open_Queue {r : Reach} {b0 : Nat} {v : Value} {d : DataW H} {p : List MemPlace} (hv : Value.okWide Try.prog W r b0 54 v) (h : DataW.Trod enc Try.prog W 0 (fun _ => true) true 54 v d p) :
    ∃ ep nx gv ra rn rc la ln lc R L ws wt wz, v = qVal ep nx gv (.slice ra rn rc) (.slice la ln lc) ws ∧ QueueIn W ep nx gv ra rn rc la ln lc R L ws wt wz ∧
      ∀ (ts : List TypeId) (ds : List (DataW H)) (j : Nat), (DataW.weightsEach Try.prog ts ds).all (· ≤ reachBytes) = true → ts[j]? = some 54 → ds[j]? = some d → rc * 16 ≤ 140737488351232 ∧ lc * 32 ≤ 140737488351232 := by
  obtain ⟨cs, n, rfl, hsz, hf⟩ := open_struct Try.underlying54 hv h
  rw [cells_queue] at hsz
  obtain ⟨xs, m, _, hx, hl, hlen, hfs⟩ := DataW.trod_struct Try.underlying54 hf
  obtain ⟨cs⟩ := cs
  have hsz' : cs.length = 41 := by simpa using hsz
  match xs, hlen with
  | [y0, y1, y2, y3, y4, y5], _ =>
    have f0 : DataW.trod enc Try.prog W 0 (fun _ => true) true m 3 ((cs.drop 0).take (Try.prog.cellsOf 3)) = some y0 := hfs 0 _ rfl
    have f1 : DataW.trod enc Try.prog W 0 (fun _ => true) true m 3 ((cs.drop 1).take (Try.prog.cellsOf 3)) = some y1 := hfs 1 _ rfl
    have f2 : DataW.trod enc Try.prog W 0 (fun _ => true) true m 3 ((cs.drop 2).take (Try.prog.cellsOf 3)) = some y2 := hfs 2 _ rfl
    have f3 : DataW.trod enc Try.prog W 0 (fun _ => true) true m 47 ((cs.drop 3).take (Try.prog.cellsOf 47)) = some y3 := hfs 3 _ rfl
    have f4 : DataW.trod enc Try.prog W 0 (fun _ => true) true m 48 ((cs.drop 4).take (Try.prog.cellsOf 48)) = some y4 := hfs 4 _ rfl
    have f5 : DataW.trod enc Try.prog W 0 (fun _ => true) true m 52 ((cs.drop 5).take (Try.prog.cellsOf 52)) = some y5 := hfs 5 _ rfl
    rw [cells_int] at f0 f1 f2
    rw [cells_messages] at f3
    rw [cells_leases] at f4
    rw [cells_windows] at f5
    obtain ⟨ep, he, _, wep⟩ := DataW.trod_int Try.underlying3 f0
    obtain ⟨nx, hn, _, wnx⟩ := DataW.trod_int Try.underlying3 f1
    obtain ⟨gv, hg, _, wgv⟩ := DataW.trod_int Try.underlying3 f2
    obtain ⟨ra, rn, rc, R, hr, rowR, lenR, _, nilR, datR⟩ := open_many Try.underlying47 cells_message (by decide) ints_message (d := y3.1) (p := y3.2) f3
    obtain ⟨la, ln, lc, L, hll, rowL, lenL, _, nilL, datL⟩ := open_many Try.underlying48 cells_lease (by decide) ints_lease (d := y4.1) (p := y4.2) f4
    obtain ⟨ws, wt, wz, hws, wins⟩ := open_wins f5 (by simp; omega)
    refine ⟨ep, nx, gv, ra, rn, rc, la, ln, lc, R, L, ws, wt, wz, ?_, ⟨rowR, rowL, wins, lenR, lenL, nilR, nilL, wep, wnx, wgv⟩, ?_⟩
    · have e : cs = qList ep nx gv (.slice ra rn rc) (.slice la ln lc) ws := by
        match cs, hsz' with
        | v0 :: v1 :: v2 :: v3 :: v4 :: rest, hr36 =>
          simp at he hn hg hr hll
          have : rest = wsList ws := by
            rw [← hws]
            simp only [List.drop_succ_cons, List.drop_zero]
            exact (List.take_of_length_le (by simp at hr36; omega)).symm
          rw [he, hn, hg, hr, hll, this]
          rfl
      show Value.agg (List.toArray cs) = _
      rw [e]; rfl
    · intro ts ds j hall ht hd
      have hx1 : d = .agg [y0.1, y1.1, y2.1, y3.1, y4.1, y5.1] := by simpa using (Prod.mk.inj hx).1
      subst hx1
      constructor
      · rcases datR with ⟨_, rfl⟩ | ⟨es, sp, he', rfl⟩
        · simp
        · have := List.all_eq_true.1 hall _ (DataW.weights_mem_each ht hd ((es.length + sp.length) * Try.prog.bytesOf 93) (by rw [he']; simp [DataW.weights, DataW.weightsEach, Try.underlying54, Try.underlying47]))
          rw [bytes_message] at this
          exact of_decide_eq_true this
      · rcases datL with ⟨_, rfl⟩ | ⟨es, sp, he', rfl⟩
        · simp
        · have := List.all_eq_true.1 hall _ (DataW.weights_mem_each ht hd ((es.length + sp.length) * Try.prog.bytesOf 96) (by rw [he']; simp [DataW.weights, DataW.weightsEach, Try.underlying54, Try.underlying48]))
          rw [bytes_lease] at this
          exact of_decide_eq_true this
end
end Go.Proofs.Ytjolamdlclcpcaa

namespace Go.Proofs.Ytjolamdlclcpcaa
open Go.ChangeShapes Go.WideShapes Go.ChangeAt Go.RowKit

section
variable {H : Type} {enc : TypeId × Value → H} {W : World}
theorem ints_event6 {base : Nat} {sp : Nat → Bool} {held : Bool} {fuel : Nat} {cs : List Value} {x : DataW H × List MemPlace} (h : DataW.trod enc Try.prog W base sp held fuel 37 cs = some x) : Ints cs ∧ cs.length = 6 := by
  obtain ⟨xs, n, _, _, hl, hlen, hf⟩ := DataW.trod_struct Try.underlying37 h
  rw [cells_event] at hl
  exact ⟨ints_event h, hl⟩
set_option maxRecDepth 20000 in
theorem open_Events {r : Reach} {b0 : Nat} {v : Value} {d : DataW H} {p : List MemPlace} (hv : Value.okWide Try.prog W r b0 22 v) (h : DataW.Trod enc Try.prog W 0 (fun _ => true) true 22 v d p) :
    ∃ a len cap D, v = .slice a len cap ∧ RowK .i64 W a (6 * len) D ∧ len ≤ cap ∧ cap ≤ maxLen ∧ (a = none → cap = 0) ∧ ((d = .nil ∧ cap = 0) ∨ ∃ es sp, d = .slice es sp ∧ es.length + sp.length = cap) := by
  obtain ⟨a, len, cap, rfl⟩ := okWide_slice Try.underlying22 hv
  obtain ⟨fuel, hf⟩ := h
  obtain ⟨a', len', cap', D, hcs, r1⟩ := open_many Try.underlying22 cells_event (by decide) ints_event6 hf
  simp [Value.cells] at hcs
  obtain ⟨rfl, rfl, rfl⟩ := hcs
  exact ⟨_, _, _, D, rfl, r1⟩
end
end Go.Proofs.Ytjolamdlclcpcaa

namespace Go.Proofs.Ytjolamdlclcpcaa
open Go.ChangeShapes Go.WideShapes Go.ChangeAt Go.RowKit

theorem cells_errand : Try.prog.cellsOf 57 = 2 := by kernel_rfl
theorem ints_errand {H : Type} {enc : TypeId × Value → H} {W : World} {base : Nat} {sp : Nat → Bool} {held : Bool} {fuel : Nat} {cs : List Value} {x : DataW H × List MemPlace} (h : DataW.trod enc Try.prog W base sp held fuel 57 cs = some x) : Ints cs ∧ cs.length = 2 := by
  obtain ⟨xs, n, _, _, hl, hlen, hf⟩ := DataW.trod_struct Try.underlying57 h
  rw [cells_errand] at hl
  refine ⟨?_, hl⟩
  match xs, hlen with
  | [y0, y1], _ =>
    have f0 : DataW.trod enc Try.prog W base sp held n 3 ((cs.drop 0).take (Try.prog.cellsOf 3)) = some y0 := hf 0 _ rfl
    have f1 : DataW.trod enc Try.prog W base sp held n 3 ((cs.drop 1).take (Try.prog.cellsOf 3)) = some y1 := hf 1 _ rfl
    rw [cells_int] at f0 f1
    exact ints_step (o := 0) (n := 1) (ints_int Try.underlying3 f0) (ints_step (o := 1) (n := 1) (ints_int Try.underlying3 f1) (ints_end (by omega)))
set_option maxRecDepth 20000 in
theorem open_Errands {H : Type} {enc : TypeId × Value → H} {W : World} {r : Reach} {b0 : Nat} {v : Value} {d : DataW H} {p : List MemPlace} (hv : Value.okWide Try.prog W r b0 46 v) (h : DataW.Trod enc Try.prog W 0 (fun _ => true) true 46 v d p) :
    ∃ a len cap D, v = .slice a len cap ∧ RowK .i64 W a (2 * len) D ∧ len ≤ cap ∧ cap ≤ maxLen ∧ (a = none → cap = 0) ∧ ((d = .nil ∧ cap = 0) ∨ ∃ es sp, d = .slice es sp ∧ es.length + sp.length = cap) := by
  obtain ⟨a, len, cap, rfl⟩ := okWide_slice Try.underlying46 hv
  obtain ⟨fuel, hf⟩ := h
  obtain ⟨a', len', cap', D, hcs, r1⟩ := open_many Try.underlying46 cells_errand (by decide) ints_errand hf
  simp [Value.cells] at hcs
  obtain ⟨rfl, rfl, rfl⟩ := hcs
  exact ⟨_, _, _, D, rfl, r1⟩
end Go.Proofs.Ytjolamdlclcpcaa

namespace Go.Proofs.Ytjolamdlclcpcaa
open Go.ChangeShapes Go.WideShapes Go.ChangeAt Go.RowKit

theorem own : ownKnob Try.prog.godebug = none := by kernel_rfl
theorem laidOut : laidOutB Try.prog = true := by kernel_rfl

set_option linter.unusedVariables false in
set_option maxRecDepth 100000 in
theorem lifted_ClientSafe (os : Os) (started : os.Started) (H : Type) (enc : TypeId × Value → H) :
    ReturnsInHanded {} Try.checked os 9 .any (Rows.clientSafeSpec.pre6 enc Try.prog Try.f9 Rows.clientSafeRow.domain false) (Rows.clientSafeSpec.post enc Try.prog Try.f9 false true false false) := by
  refine returnsInHanded_of_change_sized (C := Try.checked) own started (by kernel_rfl) Try.func9
    (ChangeSpec.witness6 (enc := enc) (C := Try.checked) false ⟨#[], #[.slice none 0 0], []⟩ 8 (by kernel_rfl) (by kernel_rfl) (by kernel_rfl) (by kernel_rfl)) ?_
  intro W base args ds gs before hval0 hW hcnd hsz0 _
  have hval : ∀ (j : Nat) t v, Try.f9.params[j]? = some t → args[j]? = some v → Value.okWide Try.prog W .any base t v := hval0
  have hsz : (DataW.weightsEach Try.prog (Try.f9.params.toList ++ Rows.clientSafeSpec.plain.varTypes Try.prog) (ds ++ gs)).all (· ≤ reachBytes) = true := hsz0
  have hW' := hW
  obtain ⟨p, q, hA0, hV, rfl, hfz, hnd⟩ := hW
  have hA : DataW.TrodAll enc Try.prog W 0 (fun _ => true) true Try.f9.params.toList args.toList ds p := hA0
  rw [Try.params9] at hA hval hsz
  have hK := hA
  have hlt : ∀ x ∈ p, x.block < W.heap.size := fun x hx => hW'.lt x (by simp [hx])
  obtain ⟨v0, vs0, d0, ds0, p0, q0, hargs, rfl, rfl, h0, r0⟩ := trodAll_cons hA
  obtain ⟨rfl, rfl, rfl⟩ := trodAll_nil r0
  obtain rfl : args = #[v0] := by cases args; simp_all
  obtain ⟨rfl, rfl⟩ := trodVars_none hV
  obtain ⟨a0, len0, cap0, l0, rfl, w0, lc0, cm0, na0, hd0⟩ := open_Errands (hval 0 46 v0 rfl rfl) h0
  have z0 : cap0 * 16 ≤ 140737488351232 := open_sized (j := 0) (t := 46) (e := 57) hsz rfl rfl Try.underlying46 (by kernel_rfl) hd0
  clear hd0
  clear hA0 hval0 hsz0
  refine (walk_ClientSafe W a0 len0 cap0 l0 w0 lc0 na0 z0).mono fun e W' ⟨he, bel⟩ => ?_
  subst he
  exact ⟨_, rfl, _, _, _, [], _, [], hW', trodAll_mk1 (shut_bool Try.underlying4 _), trodAll_stays laidOut (List.forall_mem_cons.2 ⟨⟨by kernel_rfl, of_decide_eq_true (by kernel_rfl)⟩, by intro t ht; cases ht⟩) hK bel hlt, rfl, bel.frame _, fun h => by cases h⟩

theorem clientSafe_holds : Rows.ClientSafeSaid :=
  OpenClaim.holds_of_wide 9 Try.f9 rfl rfl rfl rfl rfl rfl rfl ⟨rfl, rfl, rfl, rfl, rfl⟩ rfl rfl rfl rfl rfl (by kernel_rfl) Try.func9 (by kernel_rfl)
    (of_decide_eq_true (by kernel_rfl)) (by unfold Func.isWrapper; first | (rw [if_pos (by decide +kernel)]; kernel_rfl) | (rw [if_neg (by decide +kernel)]; exact ⟨rfl, rfl⟩))
    (fun os started H enc _ => lifted_ClientSafe os started H enc)
#print axioms clientSafe_holds
end Go.Proofs.Ytjolamdlclcpcaa
