/- Texts put together: BkE, BeL, BeM, BkM, HsF, HsG, BkI, BkQ, BeK, BkP. -/
import Derived.Test.YtcdopnkabbfooaaGreatRkBe
import Derived.Test.YtcdopnkabbfooaaGreatRaLow
import Derived.Deep.QuietTactic
import Derived.BigQuiet
import Derived.Deep.CutRange
namespace Go.Proofs.YtcdopnkabbfooaaGreat
open Go.RowKit

/-- a deed in a box. -/
def Db (w : World) (R : Nat) (x0 x1 x2 x3 : Int) : Prop := w.heap[R]? = some (.cells #[.int .i64 x0, .int .i64 x1, .int .i64 x2, .int .i64 x3] 73 (0, 0))
theorem Db.lt {w : World} {R : Nat} {x0 x1 x2 x3 : Int} (h : Db w R x0 x1 x2 x3) : R < w.heap.size := block_lt h
theorem Db.next {w w' : World} {R : Nat} {x0 x1 x2 x3 : Int} (h : Db w R x0 x1 x2 x3) (b : Below w.heap.size w w') : Db w' R x0 x1 x2 x3 := (b.block R h.lt).trans h
theorem Db.turned {w w' : World} {R R' : Nat} {x0 x1 x2 x3 : Int} (h : Db w R x0 x1 x2 x3) (t : Turned R' w w') (hR : R ≠ R') : Db w' R x0 x1 x2 x3 := (t.block R hR).trans h
theorem Db.cells {w : World} {R : Nat} {x0 x1 x2 x3 : Int} (h : Db w R x0 x1 x2 x3) : w.cell? ⟨R, 0, none⟩ = some (.int .i64 x0) ∧ w.cell? ⟨R, 1, none⟩ = some (.int .i64 x1) ∧ w.cell? ⟨R, 2, none⟩ = some (.int .i64 x2) ∧ w.cell? ⟨R, 3, none⟩ = some (.int .i64 x3) := by
  unfold Db at h; simp [World.cell?, h]
/-- an event in a box. -/
def Eb (w : World) (R : Nat) (v : Ev) : Prop := w.heap[R]? = some (.cells #[.int .i64 v.k, .int .i64 v.p, .int .i64 v.i, .int .i64 v.b, .int .i64 v.he, .int .i64 v.hn] 28 (0, 0))
theorem Eb.lt {w : World} {R : Nat} {v : Ev} (h : Eb w R v) : R < w.heap.size := block_lt h
theorem Eb.next {w w' : World} {R : Nat} {v : Ev} (h : Eb w R v) (b : Below w.heap.size w w') : Eb w' R v := (b.block R h.lt).trans h
theorem Eb.cells {w : World} {R : Nat} {v : Ev} (h : Eb w R v) : w.cell? ⟨R, 0, none⟩ = some (.int .i64 v.k) ∧ w.cell? ⟨R, 1, none⟩ = some (.int .i64 v.p) ∧ w.cell? ⟨R, 2, none⟩ = some (.int .i64 v.i) ∧ w.cell? ⟨R, 3, none⟩ = some (.int .i64 v.b) ∧ w.cell? ⟨R, 4, none⟩ = some (.int .i64 v.he) ∧ w.cell? ⟨R, 5, none⟩ = some (.int .i64 v.hn) := by
  unfold Eb at h; simp [World.cell?, h]
theorem Eb.free {w : World} {R : Nat} {v : Ev} (h : Eb w R v) (o : Nat) : w.frozen? ⟨R, o, none⟩ = false := by
  unfold Eb at h; simp [World.frozen?, h]
theorem Eb.new (w : World) (v : Ev) : ∃ W, W = w.alloc (.cells #[.int .i64 v.k, .int .i64 v.p, .int .i64 v.i, .int .i64 v.b, .int .i64 v.he, .int .i64 v.hn] 28) ∧ Eb W w.heap.size v ∧ Below w.heap.size w W := ⟨_, rfl, heap_alloc_new _ _, below1 _ _⟩
/-- an event stored into a box. -/
theorem Eb.put {w : World} {R : Nat} {v : Ev} (h : Eb w R v) (u : Ev) : ∃ W, W = (((((w.setCell ⟨R, 0, none⟩ (.int .i64 u.k)).setCell ⟨R, 1, none⟩ (.int .i64 u.p)).setCell ⟨R, 2, none⟩ (.int .i64 u.i)).setCell ⟨R, 3, none⟩ (.int .i64 u.b)).setCell ⟨R, 4, none⟩ (.int .i64 u.he)).setCell ⟨R, 5, none⟩ (.int .i64 u.hn) ∧ Eb W R u ∧ Turned R w W := by
  refine ⟨_, rfl, ?_, (((((Turned.set R 0 w _).trans (Turned.set R 1 _ _)).trans (Turned.set R 2 _ _)).trans (Turned.set R 3 _ _)).trans (Turned.set R 4 _ _)).trans (Turned.set R 5 _ _)⟩
  unfold Eb at h ⊢
  rw [heap_setB (heap_setB (heap_setB (heap_setB (heap_setB (heap_setB h)))))]
  simp
theorem ev_wf {v : Ev} (hv : v.Ok) : ∀ u ∈ evCells v, (Lit.int .i64 u).wf = true := fun u hu => evFlat_wf (es := [v]) (fun x hx => by rw [List.mem_singleton.1 hx]; exact hv) u (by simpa [evFlat] using hu)
/-- Serve at a sealed berth, and at none. -/
theorem serve_still (B : Bt) (a : Option Addr) (c : Nat) (v : Ev) (cd : Int) (w : World) (hb : BIn w B a c) (ok : B.Ok) (hr : (B.r = 3 ∧ cd = 12) ∨ (B.r = 0 ∧ cd = 7)) (hv : v.Ok) (hk : ¬ v.k = 4) :
    Calls Tryz.prog 41 #[bVal B.r B.e B.f B.t B.o a B.es.length c, evIn v] w fun x w' => ∃ a' c', x = .returned (.tuple #[bVal B.r B.e B.f B.t B.o a' B.es.length c', ansVal cd 0 0 0, .bool false, .int .i64 0]) ∧ BIn w' B a' c' ∧ (∀ x, a' = some x → w.heap.size ≤ x.block) ∧ Below w.heap.size w w' := by
  refine (serve_any B a c v w hb (ev_wf hv)).mono ?_
  rintro x w' ⟨y, an, ch, er, B', rfl, sr, ⟨⟨a', c', rfl, i, u⟩⟩, b⟩
  cases sr with
  | state h => exact absurd ok h
  | fault _ f hf h0 => exact absurd (hf.symm.trans hv) h0
  | brk _ _ h => exact absurd h hk
  | shut _ _ _ h =>
    obtain rfl : cd = 12 := by omega
    exact ⟨a', c', rfl, i, u, b⟩
  | none _ _ _ h =>
    obtain rfl : cd = 7 := by omega
    exact ⟨a', c', rfl, i, u, b⟩
  | same _ _ _ h => omega
  | full _ _ _ h => omega
  | done _ _ _ h => omega
/-- a berth and an answer, in new boxes. -/
theorem Kb.new2 {w w1 w2 : World} {B : Bt} {a : Option Addr} {c : Nat} (cc he no bd : Int) (i : BIn w2 B a c) (b0 : Below w.heap.size w w1) (b : Below w1.heap.size w1 w2) :
    ∃ W, W = (w2.alloc (.cells (bCells B.r B.e B.f B.t B.o a B.es.length c) 24)).alloc (.cells #[.int .i64 cc, .int .i64 he, .int .i64 no, .int .i64 bd] 75) ∧ Kb w W w2.heap.size B a c ∧ ansBlock W (w2.heap.size + 1) cc he no bd ∧ Below w2.heap.size w2 W := by
  obtain ⟨W1, hW1, K1, d1⟩ := Kb.new i b0 b
  have hs : W1.heap.size = w2.heap.size + 1 := by rw [hW1]; simp
  have hA := ansBlock.new W1 cc he no bd
  rw [hs] at hA
  rw [← hW1]
  exact ⟨_, rfl, K1.next (below1 _ _), hA, Below.next d1 (below1 _ _)⟩
theorem event_at (x0 x1 x2 x3 : Int) (hw : ∀ z ∈ [x0, x1, x2, x3], (Lit.int .i64 z).wf = true) (w : World) : Calls Tryz.prog 40 #[.agg #[.int .i64 x0, .int .i64 x1, .int .i64 x2, .int .i64 x3]] w fun e w' => e = .returned (evIn (deedEv x0 x1 x2 x3)) ∧ Below w.heap.size w w' :=
  event_ev x0 x1 x2 x3 w (hw _ (by simp)) (hw _ (by simp)) (hw _ (by simp)) (hw _ (by simp))
end Go.Proofs.YtcdopnkabbfooaaGreat

namespace Go.Proofs.YtcdopnkabbfooaaGreat
open Go.RowKit

theorem Ev.ext6 {u v : Ev} (h : ∀ j, j < 6 → (evCells u).getD j 0 = (evCells v).getD j 0) : u = v := by
  have h0 := h 0 (by omega)
  have h1 := h 1 (by omega)
  have h2 := h 2 (by omega)
  have h3 := h 3 (by omega)
  have h4 := h 4 (by omega)
  have h5 := h 5 (by omega)
  cases u
  cases v
  simp [evCells] at h0 h1 h2 h3 h4 h5
  simp [h0, h1, h2, h3, h4, h5]
theorem sameAt_get {A B : List Ev} {k : Nat} (ha : k < A.length) (hb : k < B.length) (h : SameAt (evFlat A) (evFlat B) k) : A[k] = B[k] :=
  Ev.ext6 fun j hj => by rw [← evFlat_at A k ha j hj, ← evFlat_at B k hb j hj]; exact h j hj
/-- two lists go together just where they begin alike as far as both go. -/
theorem fits_common {H C : List Ev} {n : Nat} (h : IsCommon (evFlat H) (evFlat C) H.length C.length n) : C.take H.length = H.take C.length ↔ min H.length C.length ≤ n := by
  constructor
  · intro e
    refine h.least (k := min H.length C.length) ?_ (Nat.min_le_left _ _) (Nat.min_le_right _ _)
    have e2 : H.take (min H.length C.length) = C.take (min H.length C.length) := by
      rcases Nat.le_total H.length C.length with hle | hle
      · rw [Nat.min_eq_left hle, List.take_length]
        rw [List.take_of_length_le (l := H) (i := C.length) hle] at e
        exact e.symm
      · rw [Nat.min_eq_right hle, List.take_length]
        rw [List.take_of_length_le (l := C) (i := H.length) hle] at e
        exact e.symm
    exact sameAt_take e2 (Nat.min_le_left _ _) (Nat.min_le_right _ _)
  · intro hn
    apply List.ext_getElem (by simp [List.length_take, Nat.min_comm])
    intro i h1 h2
    have hi : i < H.length ∧ i < C.length := by simp only [List.length_take] at h1 h2; omega
    rw [List.getElem_take, List.getElem_take]
    exact (sameAt_get hi.1 hi.2 (h.same i (by omega))).symm
theorem ret_news {W : World} {x : Value} {k : Bool} {tmps : Array Value} (t6 : tmps[6]? = some x) (t7 : tmps[7]? = some (.bool k)) :
    (results Tryz.f73 tmps).run Tryz.prog W = .ok (.tuple #[x, .bool k]) W := by
  simp [results, Tryz.results73, t6, t7]
/-- what news answers. -/
structure NewsR (H C : List Ev) (last : Bool) (w' : World) (a' : Option Addr) (n' c' : Nat) (k : Bool) : Prop where
  yes : k = true → C.length ≤ 2000 ∧ Fits H C last ∧ n' = (C.drop H.length).length ∧ RowK .i64 w' a' (6 * n') (evFlat (C.drop H.length)) ∧ (a' = none → c' = 0)
  no : k = false → ¬ (C.length ≤ 2000 ∧ Fits H C last)
/-- all that news answers. -/
def NewsOut (H C : List Ev) (last : Bool) (w : World) (x : Ending) (w' : World) : Prop := ∃ a' n' c' k, x = .returned (.tuple #[.slice a' n' c', .bool k]) ∧ NewsR H C last w' a' n' c' k ∧ Below w.heap.size w w'
set_option maxRecDepth 20000 in
set_option maxHeartbeats 4000000 in
theorem news_any (H C : List Ev) (last : Bool) (a1 a2 : Option Addr) (n1 c1 n2 c2 : Nat) (w : World) (h1 : RowK .i64 w a1 (6 * n1) (evFlat H)) (e1 : n1 = H.length) (h2 : RowK .i64 w a2 (6 * n2) (evFlat C)) (e2 : n2 = C.length) (hn1 : n1 ≤ 2000) (hc2 : n2 ≤ c2) (nil2 : a2 = none → c2 = 0) :
    Calls Tryz.prog 73 #[.slice a1 n1 c1, .slice a2 n2 c2, .bool last] w (NewsOut H C last w) := by
  by_cases hbig : n2 ≤ 2000
  case neg =>
    have hb' : (2000 : Int) < (n2 : Int) := by omega
    go_enter Tryz.func73, Tryz.ntmps73
    go_wp2
    exact bodyPost_ret (ret_news rfl rfl) rfl ⟨none, 0, 0, false, rfl, ⟨fun h => (by cases h), fun _ h => by omega⟩, Below.refl _ _⟩
  case pos =>
  have HC := common_any a1 a2 n1 c1 n2 c2 (evFlat H) (evFlat C) w h1 h2 (by omega) (by omega)
  have H2 : Hid (∀ W, Below w.heap.size w W → RowK .i64 W a2 (6 * n2) (evFlat C)) := veil fun W b => h2.below b
  have HE := veil (And.intro e1 e2)
  clear h1 h2 e1 e2
  obtain ⟨M, hM⟩ : ∃ M, M = min n1 n2 := ⟨_, rfl⟩
  have hmin : min (n1 : Int) (n2 : Int) = (M : Int) := by omega
  have hMM : M ≤ n1 ∧ M ≤ n2 := by omega
  have HM := veil hM
  clear hM
  go_enter Tryz.func73, Tryz.ntmps73
  go_upto_region 4 with (go_at_call 81; refine HC.mono ?_; rintro x W1 ⟨k, rfl, hcm, b1⟩; have HCM := veil hcm; clear HC hcm)
  have hfit : C.take H.length = H.take C.length ↔ M ≤ k := by
    have hcm := unveil HCM
    obtain ⟨g1, g2⟩ := unveil HE
    rw [g1, g2] at hcm
    have := fits_common hcm
    rw [unveil HM, g1, g2]; exact this
  have hkm : k ≤ M := by
    have hcm := unveil HCM
    have := hcm.lea
    have := hcm.leb
    have := unveil HM
    omega
  have HF := veil hfit
  clear hfit HCM
  by_cases hk : k < M
  case pos =>
    have hk' : (k : Int) < (M : Int) := by omega
    go_wp2
    exact bodyPost_ret (ret_news rfl rfl) rfl ⟨none, 0, 0, false, rfl, ⟨fun h => (by cases h), fun _ h => by have := (unveil HF).1 h.2.1; omega⟩, b1⟩
  case neg =>
  have hk' : ¬ (k : Int) < (M : Int) := by omega
  have hkM : k = M := by omega
  have HKM := veil hkM
  clear hkM
  have hyes : ∀ (hl : last = true → n1 ≤ n2), NewsR H C last W1 (cutA a2 c2 k) (n2 - k) (c2 - k) true := fun hl => by
    have hkM := unveil HKM
    obtain ⟨g1, g2⟩ := unveil HE
    have gM := unveil HM
    obtain ⟨r1, nn⟩ := cut_row (unveil H2 W1 b1) nil2 k n2 (by omega) (Nat.le_refl _) hc2
    have hd : (C.drop k).take (n2 - k) = C.drop H.length := by
      rw [List.take_of_length_le (by rw [List.length_drop]; omega)]
      rcases Nat.le_total H.length C.length with hle | hle
      · rw [show k = H.length by omega]
      · rw [List.drop_of_length_le (by omega), List.drop_of_length_le (by omega)]
    rw [hd] at r1
    refine ⟨fun _ => ⟨by omega, ⟨(unveil HF).2 (by omega), fun h => by have := hl h; omega⟩, ?_, r1, nn⟩, fun h => by cases h⟩
    rw [List.length_drop]; omega
  have HY := veil hyes
  clear hyes
  have hk2 : k ≤ n2 := by omega
  cases last with
  | false =>
    go_wp2_with (refine cut_l _ _ rfl rfl rfl rfl hk2 ?_)
    exact bodyPost_ret (ret_news rfl rfl) rfl ⟨_, _, _, true, rfl, unveil HY (fun h => by cases h), b1⟩
  | true =>
    by_cases hl : k < n1
    · have hl' : (k : Int) < (n1 : Int) := by omega
      go_wp2
      exact bodyPost_ret (ret_news rfl rfl) rfl ⟨none, 0, 0, false, rfl, ⟨fun h => (by cases h), fun _ h => by
        have g := h.2.2 rfl
        obtain ⟨g1, g2⟩ := unveil HE
        have gM := unveil HM
        have := unveil HKM
        omega⟩, b1⟩
    · have hl' : ¬ (k : Int) < (n1 : Int) := by omega
      go_wp2_with (refine cut_l _ _ rfl rfl rfl rfl hk2 ?_)
      exact bodyPost_ret (ret_news rfl rfl) rfl ⟨_, _, _, true, rfl, unveil HY (fun _ => by have := unveil HKM; have := unveil HM; omega), b1⟩
end Go.Proofs.YtcdopnkabbfooaaGreat

namespace Go.Proofs.YtcdopnkabbfooaaGreat
open Go.RowKit

theorem ret_bImport {W : World} {R : Nat} {r e f t o : Int} {a : Option Addr} {n c : Nat} {er : Int} {tmps : Array Value} (d : bBlock W R r e f t o a n c) (t1 : tmps[10]? = some (.pointer (some ⟨R, 0, none⟩))) (t2 : tmps[11]? = some (.int .i64 er)) :
    (results Tryz.f49 tmps).run Tryz.prog W = .ok (.tuple #[bVal r e f t o a n c, .int .i64 er]) W := by
  simp [results, Tryz.results49, t1, t2, asAddr, load_berth d]
set_option maxRecDepth 20000 in
set_option maxHeartbeats 4000000 in
theorem bimport_any (B : Bt) (a : Option Addr) (c : Nat) (ep at' : Int) (l : List Ev) (al : Option Addr) (nl cl : Nat) (last : Bool) (w : World) (hb : BIn w B a c) (hl : RowK .i64 w al (6 * nl) (evFlat l)) (enl : nl = l.length) (hcl : nl ≤ cl) (nill : al = none → cl = 0) : Calls Tryz.prog 49 #[bVal B.r B.e B.f B.t B.o a B.es.length c, .int .i64 ep, .int .i64 at', .slice al nl cl, .bool last] w fun x w' => ∃ y B' er, x = .returned (.tuple #[y, .int .i64 er]) ∧ importOf B ep at' l last = (B', er) ∧ BOut w w' B' y ∧ Below w.heap.size w w' := by
  have HEN := veil enl
  clear enl
  by_cases ok : B.Ok
  case neg =>
    clear hl
    go_enter Tryz.func49, Tryz.ntmps49
    go_upto_region 1 with fail
    obtain ⟨W1, hW1, M1⟩ := Mb.made w B a c
    rw [← hW1]
    clear hW1
    have HC := bcheck_no B a c W1 (hb.next M1.bel) ok
    obtain ⟨x0, x1, x2, x3, x4, x5⟩ := M1.b.cells
    have HM := veil M1
    clear M1
    go_wp2_with (first | (go_at_call 28; refine HC.mono ?_; rintro x W2 ⟨rfl, b2⟩; clear HC x0 x1 x2 x3 x4 x5; have M2 := (unveil HM).next b2; obtain ⟨x0, x1, x2, x3, x4, x5⟩ := M2.b.cells; have HM2 := veil M2; clear M2 b2 HM) | (go_at_call 42; refine (refuse_any _ _).mono ?_; rintro x W9 ⟨rfl, b9⟩; have M9 := (unveil HM2).next b9; clear x0 x1 x2 x3 x4 x5; obtain ⟨z0, z1, z2, z3, z4, z5⟩ := M9.z.cells; have zf := M9.z.free; have HM9 := veil M9; clear M9 b9 HM2))
    obtain ⟨W4, hW4, d4, b4, _⟩ := b_stored (unveil HM9).z (unveil HM9).bel (show w.heap.size ≤ w.heap.size + 1 by omega) 0 0 0 0 0 none 0 0
    rw [← hW4]
    exact bodyPost_ret (ret_bImport d4 rfl rfl) rfl ⟨_, _, _, rfl, by unfold importOf; rw [if_pos ok], BOut.zero _ _, b4⟩
  case pos =>
  by_cases h1 : B.r = 4
  case neg =>
    clear hl
    go_enter Tryz.func49, Tryz.ntmps49
    go_upto_region 1 with fail
    obtain ⟨W1, hW1, M1⟩ := Mb.made w B a c
    rw [← hW1]
    clear hW1
    have HC := bcheck_yes B a c W1 (hb.next M1.bel) ok
    obtain ⟨x0, x1, x2, x3, x4, x5⟩ := M1.b.cells
    have HM := veil M1
    clear M1
    go_wp2_with (first | (go_at_call 28; refine HC.mono ?_; rintro x W2 ⟨rfl, b2⟩; clear HC x0 x1 x2 x3 x4 x5; have M2 := (unveil HM).next b2; obtain ⟨x0, x1, x2, x3, x4, x5⟩ := M2.b.cells; have HM2 := veil M2; clear M2 b2 HM) | (go_at_call 42; refine (refuse_any _ _).mono ?_; rintro x W9 ⟨rfl, b9⟩; have M9 := (unveil HM2).next b9; clear x0 x1 x2 x3 x4 x5; obtain ⟨z0, z1, z2, z3, z4, z5⟩ := M9.z.cells; have zf := M9.z.free; have HM9 := veil M9; clear M9 b9 HM2))
    obtain ⟨W4, hW4, d4, b4, _⟩ := b_stored (unveil HM9).z (unveil HM9).bel (show w.heap.size ≤ w.heap.size + 1 by omega) 0 0 0 0 0 none 0 0
    rw [← hW4]
    exact bodyPost_ret (ret_bImport d4 rfl rfl) rfl ⟨_, _, _, rfl, by unfold importOf; rw [if_neg (fun h => h ok), if_pos h1], BOut.zero _ _, b4⟩
  case pos =>
  have H1 := veil h1
  clear h1
  by_cases h2 : B.e = ep
  case neg =>
    clear hl
    go_enter Tryz.func49, Tryz.ntmps49
    go_upto_region 1 with fail
    obtain ⟨W1, hW1, M1⟩ := Mb.made w B a c
    rw [← hW1]
    clear hW1
    have HC := bcheck_yes B a c W1 (hb.next M1.bel) ok
    obtain ⟨x0, x1, x2, x3, x4, x5⟩ := M1.b.cells
    have HM := veil M1
    clear M1
    go_upto_region 3 with (first | (go_at_call 28; refine HC.mono ?_; rintro x W2 ⟨rfl, b2⟩; clear HC x0 x1 x2 x3 x4 x5; have M2 := (unveil HM).next b2; obtain ⟨x0, x1, x2, x3, x4, x5⟩ := M2.b.cells; have HM2 := veil M2; clear M2 b2 HM))
    have h1 := unveil H1
    go_upto_region 5 with fail
    clear h1
    go_wp2_with (first | (go_at_call 42; refine (refuse_any _ _).mono ?_; rintro x W9 ⟨rfl, b9⟩; have M9 := (unveil HM2).next b9; clear x0 x1 x2 x3 x4 x5; obtain ⟨z0, z1, z2, z3, z4, z5⟩ := M9.z.cells; have zf := M9.z.free; have HM9 := veil M9; clear M9 b9 HM2))
    obtain ⟨W4, hW4, d4, b4, _⟩ := b_stored (unveil HM9).z (unveil HM9).bel (show w.heap.size ≤ w.heap.size + 1 by omega) 0 0 0 0 0 none 0 0
    rw [← hW4]
    exact bodyPost_ret (ret_bImport d4 rfl rfl) rfl ⟨_, _, _, rfl, by unfold importOf; rw [if_neg (fun h => h ok), if_neg (fun h => h (unveil H1)), if_pos h2], BOut.zero _ _, b4⟩
  case pos =>
  have H2 := veil h2
  clear h2
  have HWi := fun w => within_any at' B.es.length w
  by_cases h3 : 0 ≤ at' ∧ at' ≤ B.es.length
  case neg =>
    rw [decide_eq_false h3] at HWi
    have H3 := veil h3
    clear hl h3
    go_enter Tryz.func49, Tryz.ntmps49
    go_upto_region 1 with fail
    obtain ⟨W1, hW1, M1⟩ := Mb.made w B a c
    rw [← hW1]
    clear hW1
    have HC := bcheck_yes B a c W1 (hb.next M1.bel) ok
    obtain ⟨x0, x1, x2, x3, x4, x5⟩ := M1.b.cells
    have HM := veil M1
    clear M1
    go_upto_region 3 with (first | (go_at_call 28; refine HC.mono ?_; rintro x W2 ⟨rfl, b2⟩; clear HC x0 x1 x2 x3 x4 x5; have M2 := (unveil HM).next b2; obtain ⟨x0, x1, x2, x3, x4, x5⟩ := M2.b.cells; have HM2 := veil M2; clear M2 b2 HM))
    have h1 := unveil H1
    go_upto_region 5 with fail
    clear h1
    have h2 := unveil H2
    go_upto_region 7 with fail
    clear h2
    go_wp2_with (first | (go_at_call 70; refine (HWi _).mono ?_; rintro x w3 ⟨rfl, hw3⟩; subst w3) | (go_at_call 42; refine (refuse_any _ _).mono ?_; rintro x W9 ⟨rfl, b9⟩; have M9 := (unveil HM2).next b9; clear x0 x1 x2 x3 x4 x5; obtain ⟨z0, z1, z2, z3, z4, z5⟩ := M9.z.cells; have zf := M9.z.free; have HM9 := veil M9; clear M9 b9 HM2))
    obtain ⟨W4, hW4, d4, b4, _⟩ := b_stored (unveil HM9).z (unveil HM9).bel (show w.heap.size ≤ w.heap.size + 1 by omega) 0 0 0 0 0 none 0 0
    rw [← hW4]
    exact bodyPost_ret (ret_bImport d4 rfl rfl) rfl ⟨_, _, _, rfl, by unfold importOf; rw [if_neg (fun h => h ok), if_neg (fun h => h (unveil H1)), if_neg (fun h => h (unveil H2)), if_pos (unveil H3)], BOut.zero _ _, b4⟩
  case pos =>
  rw [decide_eq_true h3] at HWi
  obtain ⟨k, hk⟩ : ∃ k : Nat, at' = k := ⟨at'.toNat, by omega⟩
  subst hk
  have hkn : k ≤ B.es.length := by omega
  have H3 := veil h3
  clear h3
  have hn2 := ok.len
  have HNw : Hid (∀ W, Below w.heap.size w W → Calls Tryz.prog 73 #[.slice (cutA a c k) (B.es.length - k) (c - k), .slice al nl cl, .bool last] W (NewsOut (B.es.drop k) l last W)) := veil fun W bb => by
    obtain ⟨r1, n1⟩ := cut_row (hb.row.below bb) hb.nil k B.es.length hkn (Nat.le_refl _) hb.cap
    rw [List.take_of_length_le (by rw [List.length_drop]; omega)] at r1
    exact news_any (B.es.drop k) l last (cutA a c k) al (B.es.length - k) (c - k) nl cl W r1 (by rw [List.length_drop]) (hl.below bb) (unveil HEN) (by omega) hcl nill
  go_enter Tryz.func49, Tryz.ntmps49
  go_upto_region 1 with fail
  obtain ⟨W1, hW1, M1⟩ := Mb.made w B a c
  rw [← hW1]
  clear hW1
  have HC := bcheck_yes B a c W1 (hb.next M1.bel) ok
  obtain ⟨x0, x1, x2, x3, x4, x5⟩ := M1.b.cells
  have HM := veil M1
  clear M1
  go_upto_region 3 with (first | (go_at_call 28; refine HC.mono ?_; rintro x W2 ⟨rfl, b2⟩; clear HC x0 x1 x2 x3 x4 x5; have M2 := (unveil HM).next b2; obtain ⟨x0, x1, x2, x3, x4, x5⟩ := M2.b.cells; have HM2 := veil M2; clear M2 b2 HM))
  have h1 := unveil H1
  go_upto_region 5 with fail
  clear h1
  have h2 := unveil H2
  go_upto_region 7 with fail
  clear h2
  go_upto_region 9 with (first | (go_at_call 70; refine (HWi _).mono ?_; rintro x w3 ⟨rfl, hw3⟩; subst w3))
  clear HWi
  have hNw := unveil HNw W2 (unveil HM2).bel
  clear HNw
  go_upto_region 10 with (first
    | (refine cut_l _ _ rfl rfl rfl rfl hkn ?_)
    | (go_at_call 73; refine hNw.mono ?_; rintro x W3 ⟨a3, n3, c3, kk, rfl, nr, b3⟩; have HNR := veil nr; have M3 := (unveil HM2).next b3; clear hNw nr HM2 x0 x1 x2 x3 x4 x5; obtain ⟨x0, x1, x2, x3, x4, x5⟩ := M3.b.cells; have HM2 := veil M3; clear M3 b3))
  obtain ⟨ls, hls⟩ : ∃ ls, ls = l.drop (B.es.length - k) := ⟨_, rfl⟩
  have hlH : (B.es.drop k).length = B.es.length - k := by rw [List.length_drop]
  have HLS := veil hls
  have HLH := veil hlH
  clear hls hlH
  cases kk with
  | false =>
    go_wp2_with (first | (go_at_call 42; refine (refuse_any _ _).mono ?_; rintro x W9 ⟨rfl, b9⟩; have M9 := (unveil HM2).next b9; clear x0 x1 x2 x3 x4 x5; obtain ⟨z0, z1, z2, z3, z4, z5⟩ := M9.z.cells; have zf := M9.z.free; have HM9 := veil M9; clear M9 b9 HM2))
    obtain ⟨W4, hW4, d4, b4, _⟩ := b_stored (unveil HM9).z (unveil HM9).bel (show w.heap.size ≤ w.heap.size + 1 by omega) 0 0 0 0 0 none 0 0
    rw [← hW4]
    exact bodyPost_ret (ret_bImport d4 rfl rfl) rfl ⟨_, _, _, rfl, by unfold importOf; rw [if_neg (fun h => h ok), if_neg (fun h => h (unveil H1)), if_neg (fun h => h (unveil H2)), if_neg (fun h => h (unveil H3)), if_pos (by rw [Int.toNat_natCast]; exact (unveil HNR).no rfl)], BOut.zero _ _, b4⟩
  | true =>
  have hyes := (unveil HNR).yes rfl
  rw [unveil HLH, ← unveil HLS] at hyes
  obtain ⟨y1, y2, y3, y4, y5⟩ := hyes
  have himp : ∀ X : Bt, (if last then (B.more ls).broken else B.more ls) = X → ((¬ X.Ok → importOf B ep k l last = (Bt.zero, 3)) ∧ (X.Ok → importOf B ep k l last = (X, 0))) := fun X hX => by
    constructor
    · intro hn
      unfold importOf
      rw [if_neg (fun h => h ok), if_neg (fun h => h (unveil H1)), if_neg (fun h => h (unveil H2)), if_neg (fun h => h (unveil H3)), if_neg (fun h => h (by rw [Int.toNat_natCast]; exact ⟨y1, y2⟩)), Int.toNat_natCast, ← unveil HLS, hX, if_pos hn]
    · intro hn
      unfold importOf
      rw [if_neg (fun h => h ok), if_neg (fun h => h (unveil H1)), if_neg (fun h => h (unveil H2)), if_neg (fun h => h (unveil H3)), if_neg (fun h => h (by rw [Int.toNat_natCast]; exact ⟨y1, y2⟩)), Int.toNat_natCast, ← unveil HLS, hX, if_neg (fun h => h hn)]
  have HI := veil himp
  have hn3 : n3 ≤ 2000 := by rw [y3, unveil HLS, List.length_drop]; omega
  have HWt := bwith_any B a c ls a3 n3 c3 W3 (hb.next (unveil HM2).bel) y3.symm y4 y5 (by omega)
  have hen3 := veil y3
  clear himp y1 y2 y3 y4 HNR hl
  obtain ⟨B2, hB2⟩ : ∃ B2, B2 = B.more ls := ⟨_, rfl⟩
  rw [← hB2] at HWt HI
  have hl2 : B2.es.length ≤ 4000 := by
    rw [hB2]
    show (B.es ++ ls).length ≤ 4000
    rw [List.length_append, ← unveil hen3]; omega
  clear hB2
  go_upto_region 12 with fail
  have hlt := (unveil HM2).b.lt
  have hlz := (unveil HM2).z.lt
  go_upto_region 13 with (first | (go_at_call 45; refine HWt.mono ?_; rintro x W4 ⟨y, rfl, ⟨⟨a4, c4, rfl, i4, u4⟩⟩, b4⟩; have M4 := (unveil HM2).next b4; clear x0 x1 x2 x3 x4 x5 HWt; obtain ⟨x0, x1, x2, x3, x4, x5⟩ := M4.b.cells; have xf := M4.b.free; have HM4 := veil M4; have HI4 := veil i4; have HU4 := veil u4; clear M4 i4 u4 b4))
  obtain ⟨W5, hW5, k5, b5, t5⟩ := b_stored (unveil HM4).b (unveil HM4).bel (Nat.le_refl _) B2.r B2.e B2.f B2.t B2.o a4 B2.es.length c4
  rw [← hW5]
  have M5 : Mb w W5 B2 a4 c4 := ⟨k5, (unveil HM4).z.turned t5 (by omega), b5⟩
  have i5 : BIn W5 B2 a4 c4 := (unveil HI4).turned t5 (fun x hx _ => by have := unveil HU4 x hx; omega)
  have u5 : ∀ x, a4 = some x → w.heap.size + 1 < x.block := fun x hx => by have := unveil HU4 x hx; omega
  clear hW5 k5 b5 t5 x0 x1 x2 x3 x4 x5 xf HM2 HM4 HI4 HU4
  cases last with
  | false =>
    go_upto_region 15 with fail
    obtain ⟨x0, x1, x2, x3, x4, x5⟩ := M5.b.cells
    by_cases ok2 : B2.Ok
    case neg =>
      have HC := bcheck_no B2 a4 c4 W5 i5 ok2
      have HM := veil M5
      clear M5 i5
      go_wp2_with (first | (go_at_call 28; refine HC.mono ?_; rintro x W2 ⟨rfl, b2⟩; clear HC x0 x1 x2 x3 x4 x5; have M2 := (unveil HM).next b2; obtain ⟨x0, x1, x2, x3, x4, x5⟩ := M2.b.cells; have HM2 := veil M2; clear M2 b2 HM) | (go_at_call 42; refine (refuse_any _ _).mono ?_; rintro x W9 ⟨rfl, b9⟩; have M9 := (unveil HM2).next b9; clear x0 x1 x2 x3 x4 x5; obtain ⟨z0, z1, z2, z3, z4, z5⟩ := M9.z.cells; have zf := M9.z.free; have HM9 := veil M9; clear M9 b9 HM2))
      obtain ⟨W4, hW4, d4, b4, _⟩ := b_stored (unveil HM9).z (unveil HM9).bel (show w.heap.size ≤ w.heap.size + 1 by omega) 0 0 0 0 0 none 0 0
      rw [← hW4]
      exact bodyPost_ret (ret_bImport d4 rfl rfl) rfl ⟨_, _, _, rfl, ((unveil HI B2 (by simp)).1 ok2), BOut.zero _ _, b4⟩
    case pos =>
    have HC := bcheck_yes B2 a4 c4 W5 i5 ok2
    have HM := veil M5
    have HI5 := veil i5
    clear M5 i5
    go_upto_region 17 with (first | (go_at_call 28; refine HC.mono ?_; rintro x W7 ⟨rfl, b7⟩; clear HC x0 x1 x2 x3 x4 x5; have M7 := (unveil HM).next b7; obtain ⟨x0, x1, x2, x3, x4, x5⟩ := M7.b.cells; have HM7 := veil M7; have HI7 := veil ((unveil HI5).next b7); clear M7 b7 HM HI5))
    obtain ⟨z0, z1, z2, z3, z4, z5⟩ := (unveil HM7).z.cells
    have zf := (unveil HM7).z.free
    go_wp2
    obtain ⟨W8, hW8, d8, b8, t8⟩ := b_stored (unveil HM7).z (unveil HM7).bel (show w.heap.size ≤ w.heap.size + 1 by omega) B2.r B2.e B2.f B2.t B2.o a4 B2.es.length c4
    rw [← hW8]
    exact bodyPost_ret (ret_bImport d8 rfl rfl) rfl ⟨_, B2, 0, rfl, ((unveil HI B2 (by simp)).2 ok2), ⟨a4, c4, rfl, (unveil HI7).turned t8 (fun x hx _ => by have := u5 x hx; omega), fun x hx => by have := u5 x hx; omega⟩, b8⟩
  | true =>
    go_upto_region 14 with fail
    obtain ⟨x0, x1, x2, x3, x4, x5⟩ := M5.b.cells
    have HBK := broken_any B2 a4 c4 W5 i5 (by omega)
    obtain ⟨B3, hB3⟩ : ∃ B3, B3 = B2.broken := ⟨_, rfl⟩
    rw [← hB3] at HBK HI
    clear hB3
    have HM5 := veil M5
    have hl5 := M5.b.lt
    have hz5 := M5.z.lt
    clear M5 i5 u5
    go_upto_region 15 with (first | (go_at_call 74; refine HBK.mono ?_; rintro x W6 ⟨y, rfl, ⟨⟨a6, c6, rfl, i6, u6⟩⟩, b6⟩; have M6 := (unveil HM5).next b6; clear x0 x1 x2 x3 x4 x5 HBK; obtain ⟨x0, x1, x2, x3, x4, x5⟩ := M6.b.cells; have xf := M6.b.free; have HM6 := veil M6; have HI6 := veil i6; have HU6 := veil u6; clear M6 i6 u6 b6))
    obtain ⟨W9, hW9, k9, b9, t9⟩ := b_stored (unveil HM6).b (unveil HM6).bel (Nat.le_refl _) B3.r B3.e B3.f B3.t B3.o a6 B3.es.length c6
    rw [← hW9]
    have M5 : Mb w W9 B3 a6 c6 := ⟨k9, (unveil HM6).z.turned t9 (by omega), b9⟩
    have i5 : BIn W9 B3 a6 c6 := (unveil HI6).turned t9 (fun x hx _ => by have := unveil HU6 x hx; omega)
    have u5 : ∀ x, a6 = some x → w.heap.size + 1 < x.block := fun x hx => by have := unveil HU6 x hx; omega
    clear hW9 k9 b9 t9 x0 x1 x2 x3 x4 x5 xf HM5 HM6 HI6 HU6
    obtain ⟨x0, x1, x2, x3, x4, x5⟩ := M5.b.cells
    by_cases ok2 : B3.Ok
    case neg =>
      have HC := bcheck_no B3 a6 c6 W9 i5 ok2
      have HM := veil M5
      clear M5 i5
      go_wp2_with (first | (go_at_call 28; refine HC.mono ?_; rintro x W2 ⟨rfl, b2⟩; clear HC x0 x1 x2 x3 x4 x5; have M2 := (unveil HM).next b2; obtain ⟨x0, x1, x2, x3, x4, x5⟩ := M2.b.cells; have HM2 := veil M2; clear M2 b2 HM) | (go_at_call 42; refine (refuse_any _ _).mono ?_; rintro x W9 ⟨rfl, b9⟩; have M9 := (unveil HM2).next b9; clear x0 x1 x2 x3 x4 x5; obtain ⟨z0, z1, z2, z3, z4, z5⟩ := M9.z.cells; have zf := M9.z.free; have HM9 := veil M9; clear M9 b9 HM2))
      obtain ⟨W4, hW4, d4, b4, _⟩ := b_stored (unveil HM9).z (unveil HM9).bel (show w.heap.size ≤ w.heap.size + 1 by omega) 0 0 0 0 0 none 0 0
      rw [← hW4]
      exact bodyPost_ret (ret_bImport d4 rfl rfl) rfl ⟨_, _, _, rfl, ((unveil HI B3 (by simp)).1 ok2), BOut.zero _ _, b4⟩
    case pos =>
    have HC := bcheck_yes B3 a6 c6 W9 i5 ok2
    have HM := veil M5
    have HI5 := veil i5
    clear M5 i5
    go_upto_region 17 with (first | (go_at_call 28; refine HC.mono ?_; rintro x W7 ⟨rfl, b7⟩; clear HC x0 x1 x2 x3 x4 x5; have M7 := (unveil HM).next b7; obtain ⟨x0, x1, x2, x3, x4, x5⟩ := M7.b.cells; have HM7 := veil M7; have HI7 := veil ((unveil HI5).next b7); clear M7 b7 HM HI5))
    obtain ⟨z0, z1, z2, z3, z4, z5⟩ := (unveil HM7).z.cells
    have zf := (unveil HM7).z.free
    go_wp2
    obtain ⟨W8, hW8, d8, b8, t8⟩ := b_stored (unveil HM7).z (unveil HM7).bel (show w.heap.size ≤ w.heap.size + 1 by omega) B3.r B3.e B3.f B3.t B3.o a6 B3.es.length c6
    rw [← hW8]
    exact bodyPost_ret (ret_bImport d8 rfl rfl) rfl ⟨_, B3, 0, rfl, ((unveil HI B3 (by simp)).2 ok2), ⟨a6, c6, rfl, (unveil HI7).turned t8 (fun x hx _ => by have := u5 x hx; omega), fun x hx => by have := u5 x hx; omega⟩, b8⟩
end Go.Proofs.YtcdopnkabbfooaaGreat

namespace Go.Proofs.YtcdopnkabbfooaaGreat
open Go.RowKit

theorem begin_first (X f : Int) (h1 : 1 ≤ X) (h2 : X ≤ 1048576) (h3 : 0 ≤ f) (h4 : f ≤ 4) (w : World) : Calls Tryz.prog 47 #[bVal 0 0 0 0 0 none 0 0, .int .i64 X, .int .i64 f] w fun x w' => ∃ a c, x = .returned (.tuple #[bVal 4 X f 0 0 a 0 c, .int .i64 0]) ∧ BIn w' (Bt.imp X f []) a c ∧ (∀ x, a = some x → w.heap.size ≤ x.block) ∧ Below w.heap.size w w' :=
  bt_out (bbegin_any (Bt.nob 0) none 0 X f w ⟨RowK.nil _ _ _, Nat.le_refl _, fun _ => rfl⟩) (B2 := Bt.imp X f []) (er2 := 0) (by
    unfold beginOf
    rw [if_neg (fun h => h (nob_ok (by omega) (by omega))), if_neg (fun h => h ⟨⟨h1, h2⟩, h3, h4⟩), if_neg (by show ¬ ((0 : Int) = 1 ∨ (0 : Int) = 2 ∨ (0 : Int) = 3); omega), if_neg (by show ¬ ((0 : Int) = 4 ∧ (0 : Int) = X ∧ (0 : Int) = f); omega), if_neg (by show ¬ X ≤ 0; omega)])
/-- parts that go together. -/
theorem import_more {X f : Int} {H C : List Ev} {k : Nat} {s : St} {ans : List An} (h1 : 1 ≤ X) (h2 : X ≤ 1048576) (h3 : 0 ≤ f) (h4 : f ≤ 4) {s0 : St} {ans0 : List An} (ht0 : Tells H s0 ans0) (hk : k ≤ H.length) (hf : Fits (H.drop k) C false) (hC : C.length ≤ 2000) (ht : Tells (H ++ C.drop (H.length - k)) s ans) (hl : (H ++ C.drop (H.length - k)).length ≤ 2000) :
    importOf (Bt.imp X f H) X k C false = (Bt.imp X f (H ++ C.drop (H.length - k)), 0) := by
  have hlH : H.length ≤ 2000 := by rw [List.length_append] at hl; omega
  unfold importOf
  rw [if_neg (fun h => h (ht0.imp_ok hlH h1 h2 h3 h4)), if_neg (fun h => h rfl), if_neg (fun h => h rfl), if_neg (fun h => h ⟨by omega, by show (k : Int) ≤ H.length; omega⟩), if_neg (fun h => h (by rw [Int.toNat_natCast]; exact ⟨hC, hf⟩)), Int.toNat_natCast, if_neg Bool.false_ne_true]
  have e : (Bt.imp X f H).more (C.drop (H.length - k)) = Bt.imp X f (H ++ C.drop (H.length - k)) := rfl
  rw [show (Bt.imp X f H).es.length = H.length from rfl, e, if_neg (fun h => h (ht.imp_ok hl h1 h2 h3 h4))]
theorem fits_nil (C : List Ev) : Fits [] C false := ⟨by simp, fun h => by cases h⟩
theorem import_first {X f : Int} {C : List Ev} {s : St} {ans : List An} (h1 : 1 ≤ X) (h2 : X ≤ 1048576) (h3 : 0 ≤ f) (h4 : f ≤ 4) (ht : Tells C s ans) (hl : C.length ≤ 2000) : importOf (Bt.imp X f []) X 0 C false = (Bt.imp X f C, 0) := by
  have := import_more (X := X) (f := f) (H := []) (C := C) (k := 0) h1 h2 h3 h4 .nil (Nat.le_refl _) (fits_nil C) hl (by simpa using ht) (by simpa using hl)
  simpa using this
end Go.Proofs.YtcdopnkabbfooaaGreat

namespace Go.Proofs.YtcdopnkabbfooaaGreat
open Go.RowKit

theorem Wins.same {ws vs : Nat → Value} {wt : Nat → Int} {wz : Nat → Nat → Bool} (h : Wins ws wt wz) (g : Wins vs wt wz) : wsList ws = wsList vs := by
  apply List.ext_getElem (by rw [wsList_len, wsList_len])
  intro i h1 h2
  rw [wsList_len] at h1
  have e : ∀ p, p < 4 → ∀ j, j < 9 → ws (9 * p + j) = vs (9 * p + j) := by
    intro p hp j hj
    obtain ⟨a, b⟩ := h p hp
    obtain ⟨c, d⟩ := g p hp
    rcases Nat.eq_zero_or_pos j with rfl | h0
    · rw [Nat.add_zero, a, c]
    · have b' := b (j - 1) (by omega)
      have d' := d (j - 1) (by omega)
      rw [show 9 * p + 1 + (j - 1) = 9 * p + j by omega] at b' d'
      rw [b', d']
  have := e (i / 9) (by omega) (i % 9) (by omega)
  rw [show 9 * (i / 9) + i % 9 = i by omega] at this
  have ea := wsList_get ws i h1
  have eb := wsList_get vs i h1
  rw [List.getElem?_eq_getElem (by rw [wsList_len]; exact h1)] at ea eb
  rw [Option.some.inj ea, Option.some.inj eb, this]
set_option maxRecDepth 20000 in
theorem run_equal_win (d : Nat) (t : Int) (s : Nat → Bool) (w : World) : (Op.equalIn (d + 1 + 1 + 1) 89 (winVal t s) (winVal t s)).run Tryz.prog w = .ok true w := by
  have hs := fun w => run_equal_seen_at d (s 0) (s 1) (s 2) (s 3) (s 4) (s 5) (s 6) (s 7) (s 0) (s 1) (s 2) (s 3) (s 4) (s 5) (s 6) (s 7) w
  simp only [beq_self_eq_true, Bool.and_self] at hs
  rw [run_equalIn_agg (P := Tryz.prog) w (d + 1 + 1) 89 _ _ Tryz.underlying89 (by kernel_rfl)]
  simp [go_sem, hs]
set_option maxRecDepth 20000 in
set_option maxHeartbeats 1000000 in
theorem run_equal_wins (d : Nat) {ws : Nat → Value} {wt : Nat → Int} {wz : Nat → Nat → Bool} (h : Wins ws wt wz) (w : World) : (Op.equalIn (d + 1 + 1 + 1 + 1) 90 (.agg (wsList ws).toArray) (.agg (wsList ws).toArray)).run Tryz.prog w = .ok true w := by
  have hp : ∀ p, p < 4 → ∀ w, (Op.equalIn (d + 1 + 1 + 1) 89 (.agg #[ws (9 * p), ws (9 * p + 1 + 0), ws (9 * p + 1 + 1), ws (9 * p + 1 + 2), ws (9 * p + 1 + 3), ws (9 * p + 1 + 4), ws (9 * p + 1 + 5), ws (9 * p + 1 + 6), ws (9 * p + 1 + 7)]) (.agg #[ws (9 * p), ws (9 * p + 1 + 0), ws (9 * p + 1 + 1), ws (9 * p + 1 + 2), ws (9 * p + 1 + 3), ws (9 * p + 1 + 4), ws (9 * p + 1 + 5), ws (9 * p + 1 + 6), ws (9 * p + 1 + 7)])).run Tryz.prog w = .ok true w := fun p hp w => by
    rw [h.nine p hp]
    exact run_equal_win d _ _ w
  have h0 := hp 0 (by omega)
  have h1 := hp 1 (by omega)
  have h2 := hp 2 (by omega)
  have h3 := hp 3 (by omega)
  simp only [Nat.mul_zero, Nat.zero_add, Nat.mul_one, Nat.reduceMul, Nat.reduceAdd, Nat.add_zero] at h0 h1 h2 h3
  rw [Op.equalIn]
  generalize d + 1 + 1 + 1 = dd at h0 h1 h2 h3 ⊢
  simp only [Sem.run_bind, run_underlying Tryz.underlying90, Result.andThen_ok]
  simp [go_sem, List.range', wsList, h0, h1, h2, h3]
end Go.Proofs.YtcdopnkabbfooaaGreat

namespace Go.Proofs.YtcdopnkabbfooaaGreat
open Go.RowKit

/-- the two boxes of sameQueue. -/
structure Sq (w wr : World) (V : Nat) (s : St) (a1 : Option Addr) (c1 : Nat) (a2 : Option Addr) (c2 : Nat) (ws : Nat → Value) (b1 : Option Addr) (d1 : Nat) (b2 : Option Addr) (d2 : Nat) (vs : Nat → Value) : Prop where
  q : qBlock wr w.heap.size s.ep s.nx s.gv (.slice a1 s.rn c1) (.slice a2 s.ln c2) ws
  v : qBlock wr V s.ep s.nx s.gv (.slice b1 s.rn d1) (.slice b2 s.ln d2) vs
  bel : Below w.heap.size w wr
theorem Sq.next {w wr wx : World} {V : Nat} {s : St} {a1 : Option Addr} {c1 : Nat} {a2 : Option Addr} {c2 : Nat} {ws : Nat → Value} {b1 : Option Addr} {d1 : Nat} {b2 : Option Addr} {d2 : Nat} {vs : Nat → Value} (h : Sq w wr V s a1 c1 a2 c2 ws b1 d1 b2 d2 vs) (b : Below wr.heap.size wr wx) : Sq w wx V s a1 c1 a2 c2 ws b1 d1 b2 d2 vs := ⟨h.q.next b, h.v.next b, Below.next h.bel b⟩
end Go.Proofs.YtcdopnkabbfooaaGreat

namespace Go.Proofs.YtcdopnkabbfooaaGreat
open Go.RowKit

def flatP (L : List (Int × Int)) : List Int := L.flatMap fun p => [p.1, p.2]
theorem flatP_getD : ∀ (L : List (Int × Int)) (i : Nat) (h : i < L.length), (flatP L).getD (2 * i) 0 = L[i].1 ∧ (flatP L).getD (2 * i + 1) 0 = L[i].2
  | p :: L, 0, _ => ⟨rfl, rfl⟩
  | p :: L, i + 1, h => by
    have := flatP_getD L i (by simpa using h)
    rw [show 2 * (i + 1) = 2 * i + 1 + 1 by omega]
    exact this
theorem flatP_len (L : List (Int × Int)) : (flatP L).length = 2 * L.length := by
  induction L with
  | nil => rfl
  | cons p L ih => simp only [flatP, List.flatMap_cons, List.length_append, List.length_cons, List.length_nil] at ih ⊢; omega
theorem pairsOf_flatP (L : List (Int × Int)) : pairsOf (flatP L) L.length = L := by
  apply List.ext_getElem (by simp [pairsOf])
  intro i h1 h2
  obtain ⟨g1, g2⟩ := flatP_getD L i h2
  simp only [pairsOf, List.getElem_map, List.getElem_range, pairAt]
  rw [g1, g2]
/-- what can be ordered is ordered. -/
theorem ordered_ex (X : List Int) (n : Nat) : ∃ R', Ordered X R' n := by
  obtain ⟨L, hL⟩ : ∃ L, L = (pairsOf X n).mergeSort (fun x y => decide (x.1 ≤ y.1)) := ⟨_, rfl⟩
  have hp : L.Perm (pairsOf X n) := by rw [hL]; exact List.mergeSort_perm _ _
  have hs : L.Pairwise (fun x y => decide (x.1 ≤ y.1) = true) := by
    rw [hL]
    exact List.pairwise_mergeSort (fun a b c h1 h2 => by simp only [decide_eq_true_eq] at h1 h2 ⊢; omega) (fun a b => by simp only [Bool.or_eq_true, decide_eq_true_eq]; omega) _
  have hl : L.length = n := by rw [hp.length_eq, pairsOf_len]
  refine ⟨flatP L, by rw [flatP_len, hl], ?_, ?_⟩
  · have := pairsOf_flatP L
    rw [hl] at this
    rw [this]; exact hp
  · intro i j hij hj
    rw [(flatP_getD L i (by omega)).1, (flatP_getD L j (by omega)).1]
    have := (List.pairwise_iff_getElem.1 hs) i j (by omega) (by omega) hij
    simpa using this
theorem Tells.brk {es : List Ev} {s : St} {ans : List An} (h : Tells es s ans) (hl : es.length ≤ 1000) : ∃ s' an, Step s Ev.brk s' an true ∧ Tells (es ++ [Ev.brk]) s' (ans ++ [an]) ∧ s'.ln = 0 := by
  have c := h.counts.2.1
  have := cnt_le es 4
  obtain ⟨R', ho⟩ := ordered_ex (s.R ++ msgsTo s.L s.ln) (s.rn + s.ln)
  have st : Step s Ev.brk _ _ true := .stop rfl (by omega) R' ho
  exact ⟨_, _, st, .snoc h Ev.brk_ok st, rfl⟩
theorem broken_ok {B : Bt} {s' : St} {ans' : List An} (ok : B.Ok) (hr : B.r = 1 ∨ B.r = 2) (ht : Tells (B.es ++ [Ev.brk]) s' ans') (hl : B.es.length < 2000) : B.broken.Ok := by
  have hs := ok.stand
  refine ⟨.inr (.inl ⟨rfl, ?_, ?_, rfl, rfl, rfl⟩), by show (B.es ++ [Ev.brk]).length ≤ 2000; simp; omega, s', ans', ht⟩
  · show 1 ≤ B.e
    unfold Bt.Stand standP at hs
    omega
  · show B.e ≤ 1048576
    unfold Bt.Stand standP at hs
    omega
theorem Tells.oks {es : List Ev} {s : St} {ans : List An} (h : Tells es s ans) : ∀ v ∈ es, v.Ok := by
  induction h with
  | nil => intro v hv; cases hv
  | snoc h hv st ih =>
    intro v hv'
    rcases List.mem_append.1 hv' with h1 | h1
    · exact ih v h1
    · rw [List.mem_singleton.1 h1]; exact hv
end Go.Proofs.YtcdopnkabbfooaaGreat

namespace Go.Proofs.YtcdopnkabbfooaaGreat
open Go.RowKit

section
variable {ops : Array Oper} {o : Oper} {a : Act} {S : World → Prop} {ad : Option Addr} {n c l h : Nat}
theorem yields_cut_l (x lo : Operand) (ho : o.op = .slice 22 x (some lo) none none) (hw : Region.wanted o (yielded ops a.tmps) = true) (hx : a.eval x = .slice ad n c) (hlo : a.eval lo = .int .i64 l) (h1 : l ≤ n) :
    YieldsIf Tryz.prog ops S o (.slice (cutA ad c l) (n - l) (c - l)) a :=
  .inl ⟨hw, fun w _ => by
    unfold execOp
    simp only [ho, Option.map_some, Option.map_none, hx, hlo]
    simp [run_cut_l ad n c l h1 w, Result.andThen]⟩
theorem yields_cut_hm (x hi hi' : Operand) (ho : o.op = .slice 22 x none (some hi) (some hi')) (hw : Region.wanted o (yielded ops a.tmps) = true) (hx : a.eval x = .slice ad n c) (hhi : a.eval hi = .int .i64 h) (hhi' : a.eval hi' = .int .i64 h) (h1 : h ≤ c) :
    YieldsIf Tryz.prog ops S o (.slice (cutA ad h 0) h h) a :=
  .inl ⟨hw, fun w _ => by
    unfold execOp
    simp only [ho, Option.map_some, Option.map_none, hx, hhi, hhi']
    simp [run_cut_hm ad n c h h1 w, Result.andThen]⟩
end
theorem cut_row_hm {w : World} {ad : Option Addr} {n : Nat} {es : List Ev} (hr : RowK .i64 w ad (6 * n) (evFlat es)) (k : Nat) (hk : k ≤ n) : RowK .i64 w (cutA ad k 0) (6 * k) (evFlat (es.take k)) ∧ (cutA ad k 0 = none → k = 0) := by
  rcases Nat.eq_zero_or_pos k with h0 | h0
  · subst h0
    exact ⟨by simpa [evFlat] using RowK.nil _ _ _, fun _ => rfl⟩
  · obtain ⟨b, off, rfl⟩ := hr.form (by omega)
    have e : cutA (some ⟨b, off, none⟩) k 0 = some ⟨b, off, none⟩ := by
      unfold cutA
      rw [if_neg (by omega)]
      simp [Addr.add]
    rw [e]
    have := hr.firsts (6 * k) (by omega)
    rw [evFlat_take] at this
    exact ⟨this, fun h => by cases h⟩
theorem cut_row_l {w : World} {ad : Option Addr} {n c : Nat} {es : List Ev} (hr : RowK .i64 w ad (6 * n) (evFlat es)) (hn : n = es.length) (nil : ad = none → c = 0) (k : Nat) (hk : k ≤ n) (hc : n ≤ c) : RowK .i64 w (cutA ad c k) (6 * (n - k)) (evFlat (es.drop k)) ∧ (cutA ad c k = none → c - k = 0) := by
  have := cut_row hr nil k n hk (Nat.le_refl _) hc
  rw [List.take_of_length_le (by rw [List.length_drop]; omega)] at this
  exact this
theorem fits_end (H C : List Ev) (last : Bool) : Fits (H.drop H.length) C last := by
  rw [List.drop_length]
  exact ⟨by simp, fun _ => Nat.zero_le _⟩
/-- the last part. -/
theorem import_last {X f : Int} {H C : List Ev} {s : St} {ans : List An} {s0 : St} {ans0 : List An} (h1 : 1 ≤ X) (h2 : X ≤ 1048576) (h3 : 0 ≤ f) (h4 : f ≤ 4) (ht0 : Tells H s0 ans0) (hC : C.length ≤ 1000) (hH : H.length ≤ 900) (ht : Tells ((H ++ C) ++ [Ev.brk]) s ans) :
    importOf (Bt.imp X f H) X H.length C true = (Bt.act X ((H ++ C) ++ [Ev.brk]), 0) := by
  unfold importOf
  rw [if_neg (fun h => h (ht0.imp_ok (by omega) h1 h2 h3 h4)), if_neg (fun h => h rfl), if_neg (fun h => h rfl), if_neg (fun h => h ⟨by omega, Int.le_refl _⟩), if_neg (fun h => h (by rw [Int.toNat_natCast]; exact ⟨by omega, fits_end H C true⟩)), Int.toNat_natCast, if_pos rfl]
  have e : ((Bt.imp X f H).more (C.drop (H.length - H.length))).broken = Bt.act X ((H ++ C) ++ [Ev.brk]) := by
    rw [Nat.sub_self, List.drop_zero]
    rfl
  rw [show (Bt.imp X f H).es.length = H.length from rfl, e, if_neg (fun h => h (ht.act_ok (by simp; omega) h1 h2))]
theorem import_none {B : Bt} {ep at' : Int} {l : List Ev} {last : Bool} (ok : B.Ok) (hr : ¬ B.r = 4) : importOf B ep at' l last = (Bt.zero, 7) := by
  unfold importOf
  rw [if_neg (fun h => h ok), if_pos hr]
theorem import_epoch {B : Bt} {ep at' : Int} {l : List Ev} {last : Bool} (ok : B.Ok) (hr : B.r = 4) (he : ¬ B.e = ep) : importOf B ep at' l last = (Bt.zero, 15) := by
  unfold importOf
  rw [if_neg (fun h => h ok), if_neg (fun h => h hr), if_pos he]
theorem import_form {B : Bt} {ep : Int} {k : Nat} {l : List Ev} {last : Bool} (ok : B.Ok) (hr : B.r = 4) (he : B.e = ep) (hk : k ≤ B.es.length) (hf : ¬ Fits (B.es.drop k) l last) : importOf B ep k l last = (Bt.zero, 3) := by
  unfold importOf
  rw [if_neg (fun h => h ok), if_neg (fun h => h hr), if_neg (fun h => h he), if_neg (fun h => h ⟨by omega, by omega⟩), if_pos (fun h => hf (by rw [Int.toNat_natCast] at h; exact h.2))]
theorem import_range {B : Bt} {ep at' : Int} {l : List Ev} {last : Bool} (ok : B.Ok) (hr : B.r = 4) (he : B.e = ep) (hk : ¬ (0 ≤ at' ∧ at' ≤ B.es.length)) : importOf B ep at' l last = (Bt.zero, 2) := by
  unfold importOf
  rw [if_neg (fun h => h ok), if_neg (fun h => h hr), if_neg (fun h => h he), if_pos hk]
end Go.Proofs.YtcdopnkabbfooaaGreat

namespace Go.Proofs.YtcdopnkabbfooaaGreat
open Go.RowKit

theorem int_beq (m n : Nat) : ((m : Int) == (n : Int)) = decide (m = n) := by
  by_cases h : m = n
  · subst h; simp
  · rw [decide_eq_false h]; simp; omega
/-- what Part answers. -/
structure PartOut (w w' : World) (l : List Ev) (a : Option Addr) (c : Nat) : Prop where
  row : RowK .i64 w' a (6 * l.length) (evFlat l)
  cap : l.length ≤ c
  nil : a = none → c = 0
  up : ∀ x, a = some x → w.heap.size ≤ x.block
theorem ret_Part {W : World} {x : Value} {lt : Bool} {er : Int} {tmps : Array Value} (t4 : tmps[4]? = some x) (t5 : tmps[5]? = some (.bool lt)) (t6 : tmps[6]? = some (.int .i64 er)) :
    (results Tryz.f48 tmps).run Tryz.prog W = .ok (.tuple #[x, .bool lt, .int .i64 er]) W := by
  simp [results, Tryz.results48, t4, t5, t6]
set_option maxRecDepth 20000 in
set_option maxHeartbeats 4000000 in
theorem bpart_any (B : Bt) (a : Option Addr) (c : Nat) (hv : Int) (w : World) (hb : BIn w B a c) :
    Calls Tryz.prog 48 #[bVal B.r B.e B.f B.t B.o a B.es.length c, .int .i64 hv] w fun x w' => ∃ a' c' n' l lt er, x = .returned (.tuple #[.slice a' n' c', .bool lt, .int .i64 er]) ∧ n' = l.length ∧ partOf B hv = (l, lt, er) ∧ PartOut w w' l a' c' ∧ Below w.heap.size w w' := by
  obtain ⟨g, hg⟩ : ∃ g, tellOf B hv = g := ⟨_, rfl⟩
  have HG := veil hg
  go_enter Tryz.func48, Tryz.ntmps48
  go_upto_region 1 with fail
  obtain ⟨W1, hW1, k1, b1⟩ := one_b w B a c
  rw [← hW1]
  clear hW1
  have HT := mayTell_any B a c hv W1 (hb.next b1)
  rw [hg] at HT
  clear hg
  obtain ⟨x0, x1, x2, x3, x4, x5⟩ := k1.cells
  have HK := veil k1
  clear k1
  go_upto_region 2 with (first | (go_at_call 46; refine HT.mono ?_; rintro x W2 ⟨rfl, b2⟩; clear HT x0 x1 x2 x3 x4 x5; have HK2 := veil ((unveil HK).next b2); have HB2 := veil (Below.next b1 b2); clear HK b1 b2))
  by_cases h0 : g = 0
  case neg =>
    go_wp2
    exact bodyPost_ret (ret_Part rfl rfl rfl) rfl ⟨none, 0, 0, [], false, g, rfl, rfl, by unfold partOf; rw [unveil HG, if_pos h0], ⟨RowK.nil _ _ _, Nat.le_refl _, fun _ => rfl, fun x hx => by cases hx⟩, unveil HB2⟩
  case pos =>
  subst h0
  obtain ⟨ok, h1, h2, h3⟩ := tell_zero (unveil HG)
  obtain ⟨k, hk⟩ : ∃ k : Nat, hv = k := ⟨hv.toNat, by omega⟩
  subst hk
  have hkn : k ≤ B.es.length := by omega
  have hn2 := ok.len
  obtain ⟨m, hm⟩ : ∃ m : Nat, m = min (k + 3) B.es.length := ⟨_, rfl⟩
  have hm1 : k ≤ m ∧ m ≤ B.es.length := by omega
  have hw1 : IntKind.i64.wrap ((k : Int) + 3) = (k : Int) + 3 := by rw [IntKind.wrap_i64]; omega
  have hmin : min ((k : Int) + 3) (B.es.length : Int) = (m : Int) := by omega
  have hpart : ∀ lt, lt = decide (B.r = 3 ∧ B.es.length ≤ k + 3) → partOf B k = ((B.es.drop k).take (m - k), lt, 0) := fun lt hlt => by
    unfold partOf
    rw [unveil HG, if_neg (fun h => h rfl), hlt]
    simp only [Int.toNat_natCast]
    have e3 : (B.es.drop k).take 3 = (B.es.drop k).take (m - k) := by
      rcases Nat.lt_or_ge B.es.length (k + 3) with h | h
      · rw [show m - k = (B.es.drop k).length by rw [List.length_drop]; omega, List.take_length, List.take_of_length_le (by rw [List.length_drop]; omega)]
      · rw [show m - k = 3 by omega]
    rw [e3]
  have hll : ((B.es.drop k).take (m - k)).length = m - k := by rw [List.length_take, List.length_drop]; omega
  have hlast : (decide (B.r = 3 ∧ B.es.length ≤ k + 3)) = (decide (B.r = 3) && decide (m = B.es.length)) := by
    rw [← Bool.decide_and]
    congr 1
    simp only [eq_iff_iff]
    omega
  have HP := veil hpart
  have HL := veil (And.intro hll hlast)
  clear hpart hll hlast h2 h3 hm
  have hcap := hb.cap
  have HBe : Hid (∀ W, Below w.heap.size w W → Calls Tryz.prog 71 #[.slice none 0 0, .slice (cutA a c k) (m - k) (c - k)] W fun e w' => ∃ a' c', e = .returned (.slice a' (m - k : Nat) c') ∧ RowK .i64 w' a' (6 * (m - k)) (evFlat ((B.es.drop k).take (m - k))) ∧ m - k ≤ c' ∧ (a' = none → c' = 0) ∧ (∀ x, a' = some x → W.heap.size ≤ x.block) ∧ Below W.heap.size W w') := veil fun W bb => by
    obtain ⟨r1, n1⟩ := cut_row (hb.row.below bb) hb.nil k m hm1.1 hm1.2 hb.cap
    have := behind_any none (cutA a c k) 0 0 (m - k) (c - k) [] (evFlat ((B.es.drop k).take (m - k))) W (RowK.nil _ _ _) r1 (fun _ => rfl) n1 (by omega)
    simp only [Nat.zero_add, List.nil_append] at this
    exact this
  have hmc : m ≤ c := by omega
  obtain ⟨x0, x1, x2, x3, x4, x5⟩ := (unveil HK2).cells
  go_upto_region 5 with fail
  clear x0 x1 x2 x3 x4 x5
  have hx1 : B.r = 2 ∨ B.r = 3 := h1
  clear h1
  rcases hx1 with hx1 | hx1
  · refine wp_region_held_drew (S := fun u => bBlock u w.heap.size B.r B.e B.f B.t B.o a B.es.length c) (by kernel_rfl) ((unveil HK2).next (below_drew W2)) (fun hHeld => ?_)
    refine wpAnyH_take (i := 0) (v := .pointer (some ⟨w.heap.size, 5, none⟩)) rfl (by kernel_rfl) (by kernel_rfl) (by kernel_rfl) (fun _ _ _ h => h) (Or.inl ⟨by rfl, fun _ _ => by go_simp⟩) hHeld ?_
    simp only [List.getElem_toArray, List.getElem_cons_zero, Act.put, List.setIfInBounds_toArray, List.set_cons_zero, List.set_cons_succ]
    refine wpAnyH_take (i := 1) (v := .slice a B.es.length c) rfl (by kernel_rfl) (by kernel_rfl) (by kernel_rfl) (fun _ _ _ h => h) (Or.inl ⟨by rfl, fun u h => by obtain ⟨x0, x1, x2, x3, x4, x5⟩ := bBlock.cells h; go_simp⟩) hHeld ?_
    simp only [List.getElem_toArray, List.getElem_cons_zero, List.getElem_cons_succ, Act.put, List.setIfInBounds_toArray, List.set_cons_zero, List.set_cons_succ]
    refine wpAnyH_take (i := 2) (v := .int .i64 (k : Int)) rfl (by kernel_rfl) (by kernel_rfl) (by kernel_rfl) (fun _ _ _ h => h) (Or.inl ⟨by rfl, fun _ _ => by go_simp⟩) hHeld ?_
    simp only [List.getElem_toArray, List.getElem_cons_zero, List.getElem_cons_succ, Act.put, List.setIfInBounds_toArray, List.set_cons_zero, List.set_cons_succ]
    refine wpAnyH_take (i := 3) (v := .int .i64 (m : Int)) rfl (by kernel_rfl) (by kernel_rfl) (by kernel_rfl) (fun _ _ _ h => h) (Or.inl ⟨by rfl, fun _ _ => by go_simp⟩) hHeld ?_
    simp only [List.getElem_toArray, List.getElem_cons_zero, List.getElem_cons_succ, Act.put, List.setIfInBounds_toArray, List.set_cons_zero, List.set_cons_succ]
    refine wpAnyH_take (i := 4) (v := .slice (cutA a c k) (m - k) (c - k)) rfl (by kernel_rfl) (by kernel_rfl) (by kernel_rfl) (fun _ _ _ h => h) (yields_cut_lh _ _ _ rfl rfl rfl rfl rfl hm1.1 hmc) hHeld ?_
    simp only [List.getElem_toArray, List.getElem_cons_zero, List.getElem_cons_succ, Act.put, List.setIfInBounds_toArray, List.set_cons_zero, List.set_cons_succ]
    refine wpAnyH_take (i := 6) (v := .pointer (some ⟨w.heap.size, 0, none⟩)) rfl (by kernel_rfl) (by kernel_rfl) (by kernel_rfl) (fun _ _ _ h => h) (Or.inl ⟨by rfl, fun _ _ => by go_simp⟩) hHeld ?_
    simp only [List.getElem_toArray, List.getElem_cons_zero, List.getElem_cons_succ, Act.put, List.setIfInBounds_toArray, List.set_cons_zero, List.set_cons_succ]
    refine wpAnyH_take (i := 7) (v := .int .i64 B.r) rfl (by kernel_rfl) (by kernel_rfl) (by kernel_rfl) (fun _ _ _ h => h) (Or.inl ⟨by rfl, fun u h => by obtain ⟨x0, x1, x2, x3, x4, x5⟩ := bBlock.cells h; go_simp⟩) hHeld ?_
    simp only [List.getElem_toArray, List.getElem_cons_zero, List.getElem_cons_succ, Act.put, List.setIfInBounds_toArray, List.set_cons_zero, List.set_cons_succ]
    refine wpAnyH_take (i := 8) (v := .bool false) rfl (by kernel_rfl) (by kernel_rfl) (by kernel_rfl) (fun _ _ _ h => h) (Or.inl ⟨by rfl, fun u h => by go_simp⟩) hHeld ?_
    simp only [List.getElem_toArray, List.getElem_cons_zero, List.getElem_cons_succ, Act.put, List.setIfInBounds_toArray, List.set_cons_zero, List.set_cons_succ]
    have B0 := Below.next (unveil HB2) (below_drew W2)
    have k0 := (unveil HK2).next (below_drew W2)
    have hC := unveil HBe W2.drew B0
    obtain ⟨W0, hW0⟩ : ∃ W0, W0 = W2.drew := ⟨_, rfl⟩
    rw [← hW0] at B0 k0 hC hHeld ⊢
    clear hW0
    refine wpAnyH_ready (rs := [5]) (by kernel_rfl) (by simp) ?_
    refine AllReadyH.cons rfl (fun K hK => ?_) AllReadyH.nil
    simp only [List.getElem_toArray, List.getElem_cons_zero, List.getElem_cons_succ]
    go_simp
    refine hC.mono ?_
    rintro x W5 ⟨a', c', rfl, r5, hc5, n5, u5, b5⟩
    refine hK.out _ _ (k0.next b5) (fun hHeld => ?_)
    clear hK K hC
    refine wpAnyH_take (i := 9) (v := .bool false) rfl (by kernel_rfl) (by kernel_rfl) (by kernel_rfl) (fun _ _ _ h => h) (Or.inl ⟨by rfl, fun _ _ => by go_simp⟩) hHeld ?_
    simp only [List.getElem_toArray, List.getElem_cons_zero, List.getElem_cons_succ, Act.put, List.setIfInBounds_toArray, List.set_cons_zero, List.set_cons_succ]
    refine wpAnyH_take (i := 10) (v := undef) rfl (by kernel_rfl) (by kernel_rfl) (by kernel_rfl) (fun _ _ _ h => h) (Or.inr ⟨by rfl, rfl⟩) hHeld ?_
    simp only [List.getElem_toArray, List.getElem_cons_zero, List.getElem_cons_succ, Act.put, List.setIfInBounds_toArray, List.set_cons_zero, List.set_cons_succ]
    refine wpAnyH_take (i := 11) (v := undef) rfl (by kernel_rfl) (by kernel_rfl) (by kernel_rfl) (fun _ _ _ h => h) (Or.inr ⟨by rfl, rfl⟩) hHeld ?_
    simp only [List.getElem_toArray, List.getElem_cons_zero, List.getElem_cons_succ, Act.put, List.setIfInBounds_toArray, List.set_cons_zero, List.set_cons_succ]
    refine wpAnyH_take (i := 12) (v := undef) rfl (by kernel_rfl) (by kernel_rfl) (by kernel_rfl) (fun _ _ _ h => h) (Or.inr ⟨by rfl, rfl⟩) hHeld ?_
    simp only [List.getElem_toArray, List.getElem_cons_zero, List.getElem_cons_succ, Act.put, List.setIfInBounds_toArray, List.set_cons_zero, List.set_cons_succ]
    refine wpAnyH_take (i := 13) (v := undef) rfl (by kernel_rfl) (by kernel_rfl) (by kernel_rfl) (fun _ _ _ h => h) (Or.inr ⟨by rfl, rfl⟩) hHeld ?_
    simp only [List.getElem_toArray, List.getElem_cons_zero, List.getElem_cons_succ, Act.put, List.setIfInBounds_toArray, List.set_cons_zero, List.set_cons_succ]
    refine wpAnyH_take (i := 14) (v := undef) rfl (by kernel_rfl) (by kernel_rfl) (by kernel_rfl) (fun _ _ _ h => h) (Or.inr ⟨by rfl, rfl⟩) hHeld ?_
    simp only [List.getElem_toArray, List.getElem_cons_zero, List.getElem_cons_succ, Act.put, List.setIfInBounds_toArray, List.set_cons_zero, List.set_cons_succ]
    refine wpAnyH_take (i := 15) (v := .bool false) rfl (by kernel_rfl) (by kernel_rfl) (by kernel_rfl) (fun _ _ _ h => h) (Or.inl ⟨by rfl, fun _ _ => by go_simp⟩) hHeld ?_
    simp only [List.getElem_toArray, List.getElem_cons_zero, List.getElem_cons_succ, Act.put, List.setIfInBounds_toArray, List.set_cons_zero, List.set_cons_succ]
    refine wpAnyH_take (i := 16) (v := .slice a' (m - k : Nat) c') rfl (by kernel_rfl) (by kernel_rfl) (by kernel_rfl) (fun _ _ _ h => h) (Or.inl ⟨by rfl, fun _ _ => by go_simp⟩) hHeld ?_
    simp only [List.getElem_toArray, List.getElem_cons_zero, List.getElem_cons_succ, Act.put, List.setIfInBounds_toArray, List.set_cons_zero, List.set_cons_succ]
    refine wpAnyH_take (i := 17) (v := .bool false) rfl (by kernel_rfl) (by kernel_rfl) (by kernel_rfl) (fun _ _ _ h => h) (Or.inl ⟨by rfl, fun _ _ => by go_simp⟩) hHeld ?_
    simp only [List.getElem_toArray, List.getElem_cons_zero, List.getElem_cons_succ, Act.put, List.setIfInBounds_toArray, List.set_cons_zero, List.set_cons_succ]
    refine wpAnyH_take (i := 18) (v := .int .i64 0) rfl (by kernel_rfl) (by kernel_rfl) (by kernel_rfl) (fun _ _ _ h => h) (Or.inl ⟨by rfl, fun _ _ => by go_simp⟩) hHeld ?_
    simp only [List.getElem_toArray, List.getElem_cons_zero, List.getElem_cons_succ, Act.put, List.setIfInBounds_toArray, List.set_cons_zero, List.set_cons_succ]
    refine wpAnyH_done (by kernel_rfl) ?_ _
    have HR5 := veil r5
    have HU5 := veil u5
    have HB5 := veil (Below.next B0 b5)
    have hs0 := B0.size
    clear r5 u5 b5 hHeld k0 B0
    go_wp2
    have hl := (unveil HL).1
    exact bodyPost_ret (ret_Part rfl rfl rfl) rfl ⟨a', c', m - k, (B.es.drop k).take (m - k), false, 0, rfl, hl.symm, unveil HP _ (by rw [(unveil HL).2]; simp [hx1] <;> exact int_beq _ _), ⟨by rw [hl]; exact unveil HR5, by rw [hl]; exact hc5, n5, fun x hx => Nat.le_trans hs0 (unveil HU5 x hx)⟩, unveil HB5⟩
  · refine wp_region_held_drew (S := fun u => bBlock u w.heap.size B.r B.e B.f B.t B.o a B.es.length c) (by kernel_rfl) ((unveil HK2).next (below_drew W2)) (fun hHeld => ?_)
    refine wpAnyH_take (i := 0) (v := .pointer (some ⟨w.heap.size, 5, none⟩)) rfl (by kernel_rfl) (by kernel_rfl) (by kernel_rfl) (fun _ _ _ h => h) (Or.inl ⟨by rfl, fun _ _ => by go_simp⟩) hHeld ?_
    simp only [List.getElem_toArray, List.getElem_cons_zero, Act.put, List.setIfInBounds_toArray, List.set_cons_zero, List.set_cons_succ]
    refine wpAnyH_take (i := 1) (v := .slice a B.es.length c) rfl (by kernel_rfl) (by kernel_rfl) (by kernel_rfl) (fun _ _ _ h => h) (Or.inl ⟨by rfl, fun u h => by obtain ⟨x0, x1, x2, x3, x4, x5⟩ := bBlock.cells h; go_simp⟩) hHeld ?_
    simp only [List.getElem_toArray, List.getElem_cons_zero, List.getElem_cons_succ, Act.put, List.setIfInBounds_toArray, List.set_cons_zero, List.set_cons_succ]
    refine wpAnyH_take (i := 2) (v := .int .i64 (k : Int)) rfl (by kernel_rfl) (by kernel_rfl) (by kernel_rfl) (fun _ _ _ h => h) (Or.inl ⟨by rfl, fun _ _ => by go_simp⟩) hHeld ?_
    simp only [List.getElem_toArray, List.getElem_cons_zero, List.getElem_cons_succ, Act.put, List.setIfInBounds_toArray, List.set_cons_zero, List.set_cons_succ]
    refine wpAnyH_take (i := 3) (v := .int .i64 (m : Int)) rfl (by kernel_rfl) (by kernel_rfl) (by kernel_rfl) (fun _ _ _ h => h) (Or.inl ⟨by rfl, fun _ _ => by go_simp⟩) hHeld ?_
    simp only [List.getElem_toArray, List.getElem_cons_zero, List.getElem_cons_succ, Act.put, List.setIfInBounds_toArray, List.set_cons_zero, List.set_cons_succ]
    refine wpAnyH_take (i := 4) (v := .slice (cutA a c k) (m - k) (c - k)) rfl (by kernel_rfl) (by kernel_rfl) (by kernel_rfl) (fun _ _ _ h => h) (yields_cut_lh _ _ _ rfl rfl rfl rfl rfl hm1.1 hmc) hHeld ?_
    simp only [List.getElem_toArray, List.getElem_cons_zero, List.getElem_cons_succ, Act.put, List.setIfInBounds_toArray, List.set_cons_zero, List.set_cons_succ]
    refine wpAnyH_take (i := 6) (v := .pointer (some ⟨w.heap.size, 0, none⟩)) rfl (by kernel_rfl) (by kernel_rfl) (by kernel_rfl) (fun _ _ _ h => h) (Or.inl ⟨by rfl, fun _ _ => by go_simp⟩) hHeld ?_
    simp only [List.getElem_toArray, List.getElem_cons_zero, List.getElem_cons_succ, Act.put, List.setIfInBounds_toArray, List.set_cons_zero, List.set_cons_succ]
    refine wpAnyH_take (i := 7) (v := .int .i64 B.r) rfl (by kernel_rfl) (by kernel_rfl) (by kernel_rfl) (fun _ _ _ h => h) (Or.inl ⟨by rfl, fun u h => by obtain ⟨x0, x1, x2, x3, x4, x5⟩ := bBlock.cells h; go_simp⟩) hHeld ?_
    simp only [List.getElem_toArray, List.getElem_cons_zero, List.getElem_cons_succ, Act.put, List.setIfInBounds_toArray, List.set_cons_zero, List.set_cons_succ]
    refine wpAnyH_take (i := 8) (v := .bool true) rfl (by kernel_rfl) (by kernel_rfl) (by kernel_rfl) (fun _ _ _ h => h) (Or.inl ⟨by rfl, fun u h => by go_simp⟩) hHeld ?_
    simp only [List.getElem_toArray, List.getElem_cons_zero, List.getElem_cons_succ, Act.put, List.setIfInBounds_toArray, List.set_cons_zero, List.set_cons_succ]
    have B0 := Below.next (unveil HB2) (below_drew W2)
    have k0 := (unveil HK2).next (below_drew W2)
    have hC := unveil HBe W2.drew B0
    obtain ⟨W0, hW0⟩ : ∃ W0, W0 = W2.drew := ⟨_, rfl⟩
    rw [← hW0] at B0 k0 hC hHeld ⊢
    clear hW0
    refine wpAnyH_ready (rs := [5]) (by kernel_rfl) (by simp) ?_
    refine AllReadyH.cons rfl (fun K hK => ?_) AllReadyH.nil
    simp only [List.getElem_toArray, List.getElem_cons_zero, List.getElem_cons_succ]
    go_simp
    refine hC.mono ?_
    rintro x W5 ⟨a', c', rfl, r5, hc5, n5, u5, b5⟩
    refine hK.out _ _ (k0.next b5) (fun hHeld => ?_)
    clear hK K hC
    refine wpAnyH_take (i := 9) (v := .bool true) rfl (by kernel_rfl) (by kernel_rfl) (by kernel_rfl) (fun _ _ _ h => h) (Or.inl ⟨by rfl, fun _ _ => by go_simp⟩) hHeld ?_
    simp only [List.getElem_toArray, List.getElem_cons_zero, List.getElem_cons_succ, Act.put, List.setIfInBounds_toArray, List.set_cons_zero, List.set_cons_succ]
    refine wpAnyH_take (i := 10) (v := .int .i64 (m : Int)) rfl (by kernel_rfl) (by kernel_rfl) (by kernel_rfl) (fun _ _ _ h => h) (Or.inl ⟨by rfl, fun _ _ => by go_simp⟩) hHeld ?_
    simp only [List.getElem_toArray, List.getElem_cons_zero, List.getElem_cons_succ, Act.put, List.setIfInBounds_toArray, List.set_cons_zero, List.set_cons_succ]
    refine wpAnyH_take (i := 11) (v := .pointer (some ⟨w.heap.size, 5, none⟩)) rfl (by kernel_rfl) (by kernel_rfl) (by kernel_rfl) (fun _ _ _ h => h) (Or.inl ⟨by rfl, fun _ _ => by go_simp⟩) hHeld ?_
    simp only [List.getElem_toArray, List.getElem_cons_zero, List.getElem_cons_succ, Act.put, List.setIfInBounds_toArray, List.set_cons_zero, List.set_cons_succ]
    refine wpAnyH_take (i := 12) (v := .slice a B.es.length c) rfl (by kernel_rfl) (by kernel_rfl) (by kernel_rfl) (fun _ _ _ h => h) (Or.inl ⟨by rfl, fun u h => by obtain ⟨x0, x1, x2, x3, x4, x5⟩ := bBlock.cells h; go_simp⟩) hHeld ?_
    simp only [List.getElem_toArray, List.getElem_cons_zero, List.getElem_cons_succ, Act.put, List.setIfInBounds_toArray, List.set_cons_zero, List.set_cons_succ]
    refine wpAnyH_take (i := 13) (v := .int .i64 (B.es.length : Int)) rfl (by kernel_rfl) (by kernel_rfl) (by kernel_rfl) (fun _ _ _ h => h) (Or.inl ⟨by rfl, fun _ _ => by go_simp⟩) hHeld ?_
    simp only [List.getElem_toArray, List.getElem_cons_zero, List.getElem_cons_succ, Act.put, List.setIfInBounds_toArray, List.set_cons_zero, List.set_cons_succ]
    refine wpAnyH_take (i := 14) (v := .bool ((m : Int) == (B.es.length : Int))) rfl (by kernel_rfl) (by kernel_rfl) (by kernel_rfl) (fun _ _ _ h => h) (Or.inl ⟨by rfl, fun u h => by go_simp⟩) hHeld ?_
    simp only [List.getElem_toArray, List.getElem_cons_zero, List.getElem_cons_succ, Act.put, List.setIfInBounds_toArray, List.set_cons_zero, List.set_cons_succ]
    refine wpAnyH_take (i := 15) (v := .bool ((m : Int) == (B.es.length : Int))) rfl (by kernel_rfl) (by kernel_rfl) (by kernel_rfl) (fun _ _ _ h => h) (Or.inl ⟨by rfl, fun _ _ => by go_simp⟩) hHeld ?_
    simp only [List.getElem_toArray, List.getElem_cons_zero, List.getElem_cons_succ, Act.put, List.setIfInBounds_toArray, List.set_cons_zero, List.set_cons_succ]
    refine wpAnyH_take (i := 16) (v := .slice a' (m - k : Nat) c') rfl (by kernel_rfl) (by kernel_rfl) (by kernel_rfl) (fun _ _ _ h => h) (Or.inl ⟨by rfl, fun _ _ => by go_simp⟩) hHeld ?_
    simp only [List.getElem_toArray, List.getElem_cons_zero, List.getElem_cons_succ, Act.put, List.setIfInBounds_toArray, List.set_cons_zero, List.set_cons_succ]
    refine wpAnyH_take (i := 17) (v := .bool ((m : Int) == (B.es.length : Int))) rfl (by kernel_rfl) (by kernel_rfl) (by kernel_rfl) (fun _ _ _ h => h) (Or.inl ⟨by rfl, fun _ _ => by go_simp⟩) hHeld ?_
    simp only [List.getElem_toArray, List.getElem_cons_zero, List.getElem_cons_succ, Act.put, List.setIfInBounds_toArray, List.set_cons_zero, List.set_cons_succ]
    refine wpAnyH_take (i := 18) (v := .int .i64 0) rfl (by kernel_rfl) (by kernel_rfl) (by kernel_rfl) (fun _ _ _ h => h) (Or.inl ⟨by rfl, fun _ _ => by go_simp⟩) hHeld ?_
    simp only [List.getElem_toArray, List.getElem_cons_zero, List.getElem_cons_succ, Act.put, List.setIfInBounds_toArray, List.set_cons_zero, List.set_cons_succ]
    refine wpAnyH_done (by kernel_rfl) ?_ _
    have HR5 := veil r5
    have HU5 := veil u5
    have HB5 := veil (Below.next B0 b5)
    have hs0 := B0.size
    clear r5 u5 b5 hHeld k0 B0
    go_wp2
    have hl := (unveil HL).1
    exact bodyPost_ret (ret_Part rfl rfl rfl) rfl ⟨a', c', m - k, (B.es.drop k).take (m - k), ((m : Int) == (B.es.length : Int)), 0, rfl, hl.symm, unveil HP _ (by rw [(unveil HL).2]; simp [hx1] <;> exact int_beq _ _), ⟨by rw [hl]; exact unveil HR5, by rw [hl]; exact hc5, n5, fun x hx => Nat.le_trans hs0 (unveil HU5 x hx)⟩, unveil HB5⟩
end Go.Proofs.YtcdopnkabbfooaaGreat

namespace Go.Proofs.YtcdopnkabbfooaaGreat
end Go.Proofs.YtcdopnkabbfooaaGreat
