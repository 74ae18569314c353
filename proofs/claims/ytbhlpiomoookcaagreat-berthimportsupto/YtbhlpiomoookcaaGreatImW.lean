/- Texts put together: RbI, LbK. -/
import Derived.Test.YtbhlpiomoookcaaGreatRbCG
import Derived.Test.YtbhlpiomoookcaaGreatPaIm
import Derived.Deep.QuietTactic
import Derived.BigQuiet
import Derived.Deep.DeepCutAuto
import Derived.Test.YtbhlpiomoookcaaGreatLbAz
import Derived.Test.YtbhlpiomoookcaaGreatOpU
namespace Go.Proofs.YtbhlpiomoookcaaGreat
open Go.RowKit
/-- the events behind k of those that come. -/
def impE (es l : List Ev) (m k : Nat) : List Ev := es ++ (l.take k).drop m
theorem impE_zero (es l : List Ev) (m : Nat) : impE es l m 0 = es := by simp [impE]
theorem impE_few (es l : List Ev) (m k : Nat) (h : k ≤ m) : impE es l m k = es := by
  unfold impE
  rw [List.drop_eq_nil_of_le (by rw [List.length_take]; omega), List.append_nil]
theorem impE_more (es l : List Ev) (m k : Nat) (h : m ≤ k) (hk : k < l.length) : impE es l m (k + 1) = impE es l m k ++ [l[k]] := by
  unfold impE
  rw [List.take_succ_eq_append_getElem hk, List.drop_append_of_le_length (by rw [List.length_take]; omega), List.append_assoc]
theorem impE_all (es l : List Ev) (m : Nat) : impE es l m l.length = es ++ l.drop m := by
  unfold impE
  rw [List.take_length]
theorem impE_len (es l : List Ev) (m k : Nat) (hk : k ≤ l.length) : (impE es l m k).length = es.length + (k - m) := by
  unfold impE
  rw [List.length_append, List.length_drop, List.length_take]
  omega
theorem impE_wf {es l : List Ev} {m k : Nat} (h : ∀ u ∈ evFlat es, (Lit.int .i64 u).wf = true) (g : ∀ u ∈ evFlat l, (Lit.int .i64 u).wf = true) : ∀ u ∈ evFlat (impE es l m k), (Lit.int .i64 u).wf = true := by
  intro u hu
  unfold impE at hu
  rw [evFlat_append] at hu
  rcases List.mem_append.1 hu with hu | hu
  · exact h u hu
  · obtain ⟨z, hz, hu⟩ := List.mem_flatMap.1 hu
    exact g u (List.mem_flatMap.2 ⟨z, List.mem_of_mem_take (List.mem_of_mem_drop hz), hu⟩)
/-- as far as k events that come are those that are there. -/
def Alike (es l : List Ev) (h m k : Nat) : Prop := ∀ j, j < k → j < m → l[j]? = es[h + j]?
theorem Alike.fits {es l : List Ev} {h m : Nat} (hm : m = es.length - h) (hh : h ≤ es.length) (al : Alike es l h m l.length) : l.take (es.drop h).length = (es.drop h).take l.length := by
  rw [List.length_drop, ← hm]
  apply List.ext_getElem?
  intro j
  rw [List.getElem?_take, List.getElem?_take, List.getElem?_drop]
  by_cases h1 : j < m
  · by_cases h2 : j < l.length
    · rw [if_pos h1, if_pos h2, al j h2 h1]
    · rw [if_pos h1, if_neg h2, List.getElem?_eq_none (by omega)]
  · by_cases h2 : j < l.length
    · rw [if_neg h1, if_pos h2, List.getElem?_eq_none (by omega)]
    · rw [if_neg h1, if_neg h2]
theorem fits_at {es l : List Ev} {h m k : Nat} (hm : m = es.length - h) (hk : k < m) (hl : k < l.length) (e : l.take (es.drop h).length = (es.drop h).take l.length) : l[k]? = es[h + k]? := by
  rw [List.length_drop, ← hm] at e
  have := congrArg (fun x => x[k]?) e
  simp only [List.getElem?_take, List.getElem?_drop] at this
  rw [if_pos hk, if_pos hl] at this
  exact this
open Classical in
theorem import_no {B : Bt} {ep at' : Int} {l : List Ev} {last : Bool} (ok : B.Ok) (hr : B.r = 4) (he : B.e = ep) (ha : 0 ≤ at' ∧ at' ≤ B.es.length) (hf : ¬ Fits (B.es.drop at'.toNat) l last) : importOf B ep at' l last = (Bt.zero, 3) := by
  unfold importOf
  rw [if_neg (fun h => h ok), if_neg (fun h => h hr), if_neg (fun h => h he), if_neg (fun h => h ha), if_pos (fun h => hf h.2)]
open Classical in
theorem import_bad {B : Bt} {ep at' : Int} {l : List Ev} {last : Bool} (ok : B.Ok) (hr : B.r = 4) (he : B.e = ep) (ha : 0 ≤ at' ∧ at' ≤ B.es.length) (hb : ¬ (if last then (B.more (l.drop (B.es.length - at'.toNat))).broken else B.more (l.drop (B.es.length - at'.toNat))).Ok) : importOf B ep at' l last = (Bt.zero, 3) := by
  unfold importOf
  rw [if_neg (fun h => h ok), if_neg (fun h => h hr), if_neg (fun h => h he), if_neg (fun h => h ha)]
  by_cases hf : l.length ≤ 2000 ∧ Fits (B.es.drop at'.toNat) l last
  · rw [if_neg (fun h => h hf), if_pos hb]
  · rw [if_pos hf]
open Classical in
theorem import_good {B : Bt} {ep at' : Int} {l : List Ev} {last : Bool} (ok : B.Ok) (hr : B.r = 4) (he : B.e = ep) (ha : 0 ≤ at' ∧ at' ≤ B.es.length) (hf : Fits (B.es.drop at'.toNat) l last) (hl : l.length ≤ 2000) (hb : (if last then (B.more (l.drop (B.es.length - at'.toNat))).broken else B.more (l.drop (B.es.length - at'.toNat))).Ok) : importOf B ep at' l last = (if last then (B.more (l.drop (B.es.length - at'.toNat))).broken else B.more (l.drop (B.es.length - at'.toNat)), 0) := by
  unfold importOf
  rw [if_neg (fun h => h ok), if_neg (fun h => h hr), if_neg (fun h => h he), if_neg (fun h => h ha), if_neg (fun h => h ⟨hl, hf⟩), if_neg (fun h => h hb)]
section
variable {w wx : World} {X Z base : Nat} {es : List Ev} {r e f t o : Int} {a : Option Addr} {c : Nat}
theorem Ob.opened (h : Ob w wx X base es r e f t o a c) (hZ : Z < base) (z : bBlock wx Z 0 0 0 0 0 none 0 0) (bel : Below w.heap.size w wx) :
    ∃ W, W = (wx.setCell ⟨X, 0, none⟩ (.int .i64 1)).setCell ⟨X, 2, none⟩ (.int .i64 0) ∧ Ob w W X base es 1 e 0 t o a c ∧ bBlock W Z 0 0 0 0 0 none 0 0 ∧ Below w.heap.size w W := by
  have T1 := Turned.set X 0 wx (.int .i64 1)
  have d1 : bBlock (wx.setCell ⟨X, 0, none⟩ (.int .i64 1)) X 1 e f t o a es.length c := by
    have := heap_setB (k := 0) (v := .int .i64 1) h.b
    unfold bBlock; rw [this]; rfl
  have T2 := Turned.set X 2 (wx.setCell ⟨X, 0, none⟩ (.int .i64 1)) (.int .i64 0)
  have d2 : bBlock ((wx.setCell ⟨X, 0, none⟩ (.int .i64 1)).setCell ⟨X, 2, none⟩ (.int .i64 0)) X 1 e 0 t o a es.length c := by
    have := heap_setB (k := 2) (v := .int .i64 0) d1
    unfold bBlock; rw [this]; rfl
  have T := T1.trans T2
  have := h.up
  have := h.upX
  exact ⟨_, rfl, h.set T d2, z.turned T (by omega), T.under bel (by omega)⟩
end
theorem ret_bImported {W : World} {R : Nat} {r e f t o : Int} {a : Option Addr} {n c : Nat} {er : Int} {tmps : Array Value} (d : bBlock W R r e f t o a n c) (t1 : tmps[10]? = some (.pointer (some ⟨R, 0, none⟩))) (t2 : tmps[11]? = some (.int .i64 er)) :
    (results Tryz.f14 tmps).run Tryz.prog W = .ok (.tuple #[bVal r e f t o a n c, .int .i64 er]) W := by
  simp [results, Tryz.results14, t1, t2, asAddr, load_berth d]
set_option maxRecDepth 20000 in
set_option maxHeartbeats 8000000 in
theorem bimported_any (B : Bt) (a : Option Addr) (c : Nat) (ep at' : Int) (l : List Ev) (al : Option Addr) (cl : Nat) (last : Bool) (w : World) (hb : BIn w B a c) (hlr : RowK .i64 w al (6 * l.length) (evFlat l)) (hln : l.length ≤ 1048576) : Calls Tryz.prog 14 #[bVal B.r B.e B.f B.t B.o a B.es.length c, .int .i64 ep, .int .i64 at', .slice al l.length cl, .bool last] w fun x w' => ∃ y B' er, x = .returned (.tuple #[y, .int .i64 er]) ∧ importOf B ep at' l last = (B', er) ∧ BOut w w' B' y ∧ Below w.heap.size w w' := by
  obtain ⟨i6, hi6, hz60, hz61, hz62⟩ := info_of Tryz.infoEvent
  by_cases ok : B.Ok
  case neg =>
    go_enter Tryz.func14, Tryz.ntmps14
    go_upto_region 1 with fail
    obtain ⟨W1, hW1, M1⟩ := Mb.made w B a c
    rw [← hW1]
    clear hW1
    have HC := faultB_no B a c W1 (hb.next M1.bel) ok
    obtain ⟨x0, x1, x2, x3, x4, x5⟩ := M1.b.cells
    have HM := veil M1
    clear M1
    go_upto_region 2 with (go_at_call 25; refine HC.mono ?_; rintro x W2 ⟨rfl, b2⟩; clear HC x0 x1 x2 x3 x4 x5; have M2 := (unveil HM).next b2; obtain ⟨x0, x1, x2, x3, x4, x5⟩ := M2.b.cells; obtain ⟨z0, z1, z2, z3, z4, z5⟩ := M2.z.cells; have zf := M2.z.free; have HM2 := veil M2; clear M2 b2 HM)
    go_wp2
    obtain ⟨W4, hW4, d4, b4, _⟩ := b_stored (unveil HM2).z (unveil HM2).bel (show w.heap.size ≤ w.heap.size + 1 by omega) 0 0 0 0 0 none 0 0
    rw [← hW4]
    exact bodyPost_ret (ret_bImported d4 rfl rfl) rfl ⟨_, Bt.zero, _, rfl, by unfold importOf; rw [if_pos ok], BOut.zero _ _, b4⟩
  case pos =>
  by_cases h1 : B.r = 4
  case neg =>
    have h1b : (B.r != 4) = true := by simp [h1]
    have H1 := veil h1
    clear h1
    go_enter Tryz.func14, Tryz.ntmps14
    go_upto_region 1 with fail
    obtain ⟨W1, hW1, M1⟩ := Mb.made w B a c
    rw [← hW1]
    clear hW1
    have HC := faultB_yes B a c W1 (hb.next M1.bel) ok
    obtain ⟨x0, x1, x2, x3, x4, x5⟩ := M1.b.cells
    have HM := veil M1
    clear M1
    go_upto_region 2 with (go_at_call 25; refine HC.mono ?_; rintro x W2 ⟨rfl, b2⟩; clear HC x0 x1 x2 x3 x4 x5; have M2 := (unveil HM).next b2; obtain ⟨x0, x1, x2, x3, x4, x5⟩ := M2.b.cells; obtain ⟨z0, z1, z2, z3, z4, z5⟩ := M2.z.cells; have zf := M2.z.free; have HM2 := veil M2; clear M2 b2 HM)
    go_wp2
    obtain ⟨W4, hW4, d4, b4, _⟩ := b_stored (unveil HM2).z (unveil HM2).bel (show w.heap.size ≤ w.heap.size + 1 by omega) 0 0 0 0 0 none 0 0
    rw [← hW4]
    exact bodyPost_ret (ret_bImported d4 rfl rfl) rfl ⟨_, Bt.zero, _, rfl, by unfold importOf; rw [if_neg (fun h => h ok), if_pos (unveil H1)], BOut.zero _ _, b4⟩
  case pos =>
  have h1b : (B.r != 4) = false := by simp [h1]
  have H1 := veil h1
  clear h1
  by_cases h2 : B.e = ep
  case neg =>
    have h2b : (B.e != ep) = true := by simp [h2]
    have H2 := veil h2
    clear h2
    go_enter Tryz.func14, Tryz.ntmps14
    go_upto_region 1 with fail
    obtain ⟨W1, hW1, M1⟩ := Mb.made w B a c
    rw [← hW1]
    clear hW1
    have HC := faultB_yes B a c W1 (hb.next M1.bel) ok
    obtain ⟨x0, x1, x2, x3, x4, x5⟩ := M1.b.cells
    have HM := veil M1
    clear M1
    go_upto_region 2 with (go_at_call 25; refine HC.mono ?_; rintro x W2 ⟨rfl, b2⟩; clear HC x0 x1 x2 x3 x4 x5; have M2 := (unveil HM).next b2; obtain ⟨x0, x1, x2, x3, x4, x5⟩ := M2.b.cells; obtain ⟨z0, z1, z2, z3, z4, z5⟩ := M2.z.cells; have zf := M2.z.free; have HM2 := veil M2; clear M2 b2 HM)
    go_wp2
    obtain ⟨W4, hW4, d4, b4, _⟩ := b_stored (unveil HM2).z (unveil HM2).bel (show w.heap.size ≤ w.heap.size + 1 by omega) 0 0 0 0 0 none 0 0
    rw [← hW4]
    exact bodyPost_ret (ret_bImported d4 rfl rfl) rfl ⟨_, Bt.zero, _, rfl, by unfold importOf; rw [if_neg (fun h => h ok), if_neg (fun h => h (unveil H1)), if_pos (unveil H2)], BOut.zero _ _, b4⟩
  case pos =>
  have h2b : (B.e != ep) = false := by simp [h2]
  have H2 := veil h2
  clear h2
  by_cases h3 : 0 ≤ at' ∧ at' ≤ (B.es.length : Int)
  case neg =>
    have HE := inB_no at' 0 (B.es.length : Int) h3
    have H3 := veil h3
    clear h3
    go_enter Tryz.func14, Tryz.ntmps14
    go_upto_region 1 with fail
    obtain ⟨W1, hW1, M1⟩ := Mb.made w B a c
    rw [← hW1]
    clear hW1
    have HC := faultB_yes B a c W1 (hb.next M1.bel) ok
    obtain ⟨x0, x1, x2, x3, x4, x5⟩ := M1.b.cells
    have HM := veil M1
    clear M1
    go_upto_region 2 with (go_at_call 25; refine HC.mono ?_; rintro x W2 ⟨rfl, b2⟩; clear HC x0 x1 x2 x3 x4 x5; have M2 := (unveil HM).next b2; obtain ⟨x0, x1, x2, x3, x4, x5⟩ := M2.b.cells; obtain ⟨z0, z1, z2, z3, z4, z5⟩ := M2.z.cells; have zf := M2.z.free; have HM2 := veil M2; clear M2 b2 HM)
    go_wp2_with (first | (go_at_call 26; refine (HE _).mono ?_; rintro x w3 ⟨rfl, hw3⟩; subst w3; clear HE))
    obtain ⟨W4, hW4, d4, b4, _⟩ := b_stored (unveil HM2).z (unveil HM2).bel (show w.heap.size ≤ w.heap.size + 1 by omega) 0 0 0 0 0 none 0 0
    rw [← hW4]
    exact bodyPost_ret (ret_bImported d4 rfl rfl) rfl ⟨_, Bt.zero, _, rfl, by unfold importOf; rw [if_neg (fun h => h ok), if_neg (fun h => h (unveil H1)), if_neg (fun h => h (unveil H2)), if_pos (unveil H3)], BOut.zero _ _, b4⟩
  case pos =>
  have HE := inB_yes at' 0 (B.es.length : Int) h3
  have H3 := veil h3
  obtain ⟨h, rfl⟩ : ∃ h : Nat, at' = h := ⟨at'.toNat, by omega⟩
  have hh : h ≤ B.es.length := by omega
  obtain ⟨m, hm⟩ : ∃ m, m = B.es.length - h := ⟨_, rfl⟩
  have hlen : B.es.length ≤ 2000 := ok.len
  have hs : B.es.length * 48 ≤ 140737488351232 := by omega
  clear h3
  go_enter Tryz.func14, Tryz.ntmps14
  go_upto_region 1 with fail
  obtain ⟨W1, hW1, M1⟩ := Mb.made w B a c
  rw [← hW1]
  clear hW1
  have HC := faultB_yes B a c W1 (hb.next M1.bel) ok
  obtain ⟨x0, x1, x2, x3, x4, x5⟩ := M1.b.cells
  have HM := veil M1
  clear M1
  go_upto_region 2 with (go_at_call 25; refine HC.mono ?_; rintro x W2 ⟨rfl, b2⟩; clear HC x0 x1 x2 x3 x4 x5; have M2 := (unveil HM).next b2; obtain ⟨x0, x1, x2, x3, x4, x5⟩ := M2.b.cells; obtain ⟨z0, z1, z2, z3, z4, z5⟩ := M2.z.cells; have zf := M2.z.free; have HM2 := veil M2; clear M2 b2 HM)
  go_upto_region 10 with (first | (go_at_call 26; refine (HE _).mono ?_; rintro x w3 ⟨rfl, hw3⟩; subst w3; clear HE))
  have HCp := veil (bcopy_own B a c W2 (hb.next (unveil HM2).bel) hs)
  have hWf := veil hb.row.wf
  have hWl := veil hlr.wf
  have HRow : Hid (∀ W, Below w.heap.size w W → RowK .i64 W a (6 * B.es.length) (evFlat B.es)) := veil fun W b => hb.row.below b
  have HRl : Hid (∀ W, Below w.heap.size w W → RowK .i64 W al (6 * l.length) (evFlat l)) := veil fun W b => hlr.below b
  have HOK := veil ok
  have HM0 := veil hm
  clear hb hlr ok hm
  go_upto_region 11 with (go_at_call 16; refine (unveil HCp).mono ?_; rintro x W3 ⟨a3, c3, rfl, o3, i3, f3, b3⟩; have M3 := (unveil HM2).next b3; have hlt3 := (unveil HM2).z.lt; have hb3 := b3.size; clear HCp x0 x1 x2 x3 x4 x5 z0 z1 z2 z3 z4 z5 zf; have HO3 := veil o3; have HM3 := veil M3; clear HM2 M3 o3 i3 f3 b3)
  obtain ⟨W4, hW4, d4, b4⟩ : ∃ W, W = W3.alloc (.cells (bCells B.r B.e B.f B.t B.o a3 B.es.length c3) 24) ∧ bBlock W W3.heap.size B.r B.e B.f B.t B.o a3 B.es.length c3 ∧ Below W3.heap.size W3 W := ⟨_, rfl, bBlock.new _ _ _ _ _ _ _ _ _, below1 _ _⟩
  rw [← hW4]
  clear hW4
  have M4 := (unveil HM3).next b4
  have O4 : Ob w W4 W3.heap.size W2.heap.size B.es B.r B.e B.f B.t B.o a3 c3 := ⟨d4, own_still (unveil HO3) (fun g _ hg => b4.block g hg), by omega, hb3⟩
  have hX4 := d4.lt
  obtain ⟨X, hX⟩ : ∃ X, X = W3.heap.size := ⟨_, rfl⟩
  rw [← hX] at O4 hX4 hb3 ⊢
  clear hX d4 HM3 HO3 b4
  go_upto_region 12 with fail
  go_loopw [14] (fun t wr => ∃ (k : Nat) (a5 : Option Addr) (c5 : Nat), k ≤ l.length ∧ t = .int .i64 k ∧ Mb w wr B a c ∧ Ob w wr X W2.heap.size (impE B.es l m k) B.r B.e B.f B.t B.o a5 c5 ∧ Hid (Alike B.es l h m k)) (fun t _ => l.length - (intOf t).toNat)
  case atStart => exact ⟨0, a3, c3, Nat.zero_le _, rfl, M4, by rw [impE_zero]; exact O4, veil (fun j hj => absurd hj (Nat.not_lt_zero _))⟩
  case round =>
    obtain ⟨k, a5, c5, hk, rfl, M, O, HA⟩ := hrel
    clear M4 O4
    have hElen := impE_len B.es l m k hk
    have hwE := veil (impE_wf (m := m) (k := k) (unveil hWf) (unveil hWl))
    obtain ⟨E, hE⟩ : ∃ E, E = impE B.es l m k := ⟨_, rfl⟩
    rw [← hE] at O hElen hwE
    have HEq := veil hE
    have hE2 : E.length ≤ 1100000 := by rw [hElen]; omega
    have HElen := veil hElen
    clear hE hElen
    obtain ⟨x0, x1, x2, x3, x4, x5⟩ := M.b.cells
    obtain ⟨y0, y1, y2, y3, y4, y5⟩ := O.b.cells
    have hXl := O.lt
    have hbs := O.upX
    by_cases hlt : k < l.length
    case pos =>
      have rl := unveil HRl wr M.bel
      obtain ⟨bl, ol, rfl⟩ := rl.form (by omega)
      obtain ⟨q0, q1, q2, q3, q4, q5⟩ := rl.six k hlt
      have eq : ∀ t, t < 6 → (evFlat l).getD (6 * k + t) 0 = (evCells l[k]).getD t 0 := fun t ht => evFlat_at l k hlt t ht
      rw [show 6 * k = 6 * k + 0 from rfl, eq 0 (by omega)] at q0
      rw [eq 1 (by omega)] at q1
      rw [eq 2 (by omega)] at q2
      rw [eq 3 (by omega)] at q3
      rw [eq 4 (by omega)] at q4
      rw [eq 5 (by omega)] at q5
      obtain ⟨v, hv⟩ : ∃ v, v = l[k] := ⟨_, rfl⟩
      rw [← hv] at q0 q1 q2 q3 q4 q5
      simp only [evCells, List.getD_cons_zero, List.getD_cons_succ] at q0 q1 q2 q3 q4 q5
      have HV := veil hv
      have hbl : bl < wr.heap.size := rl.lt (by omega)
      have hbln : bl ≠ wr.heap.size := by omega
      clear rl eq hv
      by_cases hin : k < m
      case pos =>
        have hhk : h + k < B.es.length := by have := unveil HM0; omega
        have hhki : (h : Int) + (k : Int) < (B.es.length : Int) := by omega
        have re := unveil HRow wr M.bel
        obtain ⟨be, oe, rfl⟩ := re.form (by omega)
        obtain ⟨p0, p1, p2, p3, p4, p5⟩ := re.six (h + k) hhk
        have eqp : ∀ t, t < 6 → (evFlat B.es).getD (6 * (h + k) + t) 0 = (evCells B.es[h + k]).getD t 0 := fun t ht => evFlat_at B.es (h + k) hhk t ht
        rw [show 6 * (h + k) = 6 * (h + k) + 0 from rfl, eqp 0 (by omega)] at p0
        rw [eqp 1 (by omega)] at p1
        rw [eqp 2 (by omega)] at p2
        rw [eqp 3 (by omega)] at p3
        rw [eqp 4 (by omega)] at p4
        rw [eqp 5 (by omega)] at p5
        obtain ⟨u, hu⟩ : ∃ u, u = B.es[h + k] := ⟨_, rfl⟩
        rw [← hu] at p0 p1 p2 p3 p4 p5
        simp only [evCells, List.getD_cons_zero, List.getD_cons_succ] at p0 p1 p2 p3 p4 p5
        have HU := veil hu
        clear re eqp hu
        have HM := veil M
        have HO := veil O
        clear M O
        by_cases hs : u.k = v.k ∧ u.p = v.p ∧ u.i = v.i ∧ u.b = v.b ∧ u.he = v.he ∧ u.hn = v.hn
        case pos =>
          have huv : u = v := by cases u; cases v; simp only [Ev.mk.injEq]; exact hs
          have HA1 : Hid (Alike B.es l h m (k + 1)) := veil (fun j hj hjm => by
            rcases Nat.lt_or_ge j k with hjk | hjk
            · exact unveil HA j hjk hjm
            · obtain rfl : j = k := by omega
              rw [List.getElem?_eq_getElem hlt, List.getElem?_eq_getElem hhk, ← unveil HV, ← unveil HU, huv])
          have HE1 : Hid (impE B.es l m (k + 1) = E) := veil (by rw [unveil HEq, impE_few _ _ _ _ (by omega), impE_few _ _ _ _ (by omega)])
          subst huv
          clear hs HA HU HV
          go_wp2_with fail
          go_quiet (fail)
          have HM1 := veil ((unveil HM).next (belowN wr nq))
          have HO1 := veil ((unveil HO).next (belowN wr nq))
          clear x0 x1 x2 x3 x4 x5 y0 y1 y2 y3 y4 y5 p0 p1 p2 p3 p4 p5 q0 q1 q2 q3 q4 q5 HM HO
          go_wp2
          go_roundw
          case rel => exact ⟨k + 1, a5, c5, by omega, by go_num, unveil HM1, by rw [unveil HE1]; exact unveil HO1, HA1⟩
          case measure => simp [intOf]; omega
        case neg =>
          have hno : Hid (importOf B ep (h : Int) l last = (Bt.zero, 3)) := veil (import_no (unveil HOK) (unveil H1) (unveil H2) (unveil H3) (fun hf => hs (by
            have e := fits_at (unveil HM0) hin hlt (by simpa using hf.1)
            rw [List.getElem?_eq_getElem hlt, List.getElem?_eq_getElem hhk, ← unveil HV, ← unveil HU] at e
            cases e
            exact ⟨rfl, rfl, rfl, rfl, rfl, rfl⟩)))
          have hd := six_ne hs
          clear hs HV HU HEq
          obtain ⟨uk, up, ui, ub, ue, un⟩ := u
          obtain ⟨vk, vp, vi, vb, ve, vn⟩ := v
          simp only at hd p0 p1 p2 p3 p4 p5 q0 q1 q2 q3 q4 q5
          rcases hd with hd | ⟨rfl, hd⟩ | ⟨rfl, rfl, hd⟩ | ⟨rfl, rfl, rfl, hd⟩ | ⟨rfl, rfl, rfl, rfl, hd⟩ | ⟨rfl, rfl, rfl, rfl, rfl, hd⟩
          all_goals
            go_wp2_with fail
            go_quiet (fail)
            have HM1 := veil ((unveil HM).next (belowN wr nq))
            clear x0 x1 x2 x3 x4 x5 y0 y1 y2 y3 y4 y5 p0 p1 p2 p3 p4 p5 q0 q1 q2 q3 q4 q5 HM HO hd
            obtain ⟨V, hV⟩ : ∃ V, V = wr.drewN nq := ⟨_, rfl⟩
            rw [← hV] at HM1 ⊢
            clear hV
            obtain ⟨z0, z1, z2, z3, z4, z5⟩ := (unveil HM1).z.cells
            have zf := (unveil HM1).z.free
            go_wp2
            obtain ⟨W9, hW9, d9, b9, _⟩ := b_stored (unveil HM1).z (unveil HM1).bel (show w.heap.size ≤ w.heap.size + 1 by omega) 0 0 0 0 0 none 0 0
            rw [← hW9]
            exact bodyPost_ret (ret_bImported d9 rfl rfl) rfl ⟨_, Bt.zero, 3, rfl, unveil hno, BOut.zero _ _, b9⟩
      case neg =>
        have hni : ¬ ((h : Int) + (k : Int) < (B.es.length : Int)) := by have := unveil HM0; omega
        have HE1 : Hid (impE B.es l m (k + 1) = E ++ [v]) := veil (by rw [impE_more _ _ _ _ (by omega) hlt, ← unveil HEq, ← unveil HV])
        have HA1 : Hid (Alike B.es l h m (k + 1)) := veil (fun j hj hjm => unveil HA j (by omega) hjm)
        have b5 : Below wr.heap.size wr (wr.alloc (.cells #[.int .i64 v.k, .int .i64 v.p, .int .i64 v.i, .int .i64 v.b, .int .i64 v.he, .int .i64 v.hn] 50)).drew := Below.next (below1 _ _) ⟨rfl, rfl, rfl, Nat.le_refl _, fun _ _ => rfl⟩
        have HO5 : Hid ((wr.alloc (.cells #[.int .i64 v.k, .int .i64 v.p, .int .i64 v.i, .int .i64 v.b, .int .i64 v.he, .int .i64 v.hn] 50)).drew.ownsRow W2.heap.size 50 6 (.slice a5 E.length c5) E.length ((evFlat E).map (Value.int .i64))) := veil (own_still O.own (fun g _ hg => b5.block g hg))
        have hvw : ∀ z ∈ evCells v, (Lit.int .i64 z).wf = true := fun z hz => unveil hWl z (List.mem_flatMap.2 ⟨v, by rw [unveil HV]; exact List.getElem_mem _, hz⟩)
        have HNx : Hid (∀ w4 a8 c8, (wr.alloc (.cells #[.int .i64 v.k, .int .i64 v.p, .int .i64 v.i, .int .i64 v.b, .int .i64 v.he, .int .i64 v.hn] 50)).drew.grownBy w4 (Value.slice a5 E.length c5).ownBlock → w4.ownsRow W2.heap.size 50 6 (.slice a8 (E.length + 1) c8) (E.length + 1) ((evFlat E ++ evCells v).map (Value.int .i64)) → (w4.cell? ⟨X, 5, none⟩ = some (.slice a5 E.length c5) ∧ w4.frozen? ⟨X, 5, none⟩ = false) ∧ Mb w (w4.setCell ⟨X, 5, none⟩ (.slice a8 (E.length + 1) c8)) B a c ∧ Ob w (w4.setCell ⟨X, 5, none⟩ (.slice a8 (E.length + 1) c8)) X W2.heap.size (E ++ [v]) B.r B.e B.f B.t B.o a8 c8) := veil (fun w4 a8 c8 gr own => by
          obtain ⟨d8, B8, k8⟩ := O.grown b5 gr M.bel
          have T := Turned.set X 5 w4 (.slice a8 (E.length + 1) c8)
          refine ⟨⟨d8.cells.2.2.2.2.2, d8.free _⟩, ⟨(T.block _ (by omega)).trans ((k8 _ (by omega)).trans M.b), (T.block _ (by omega)).trans ((k8 _ (by omega)).trans M.z), T.under B8 (by omega)⟩, ?_⟩
          have d : bBlock (w4.setCell ⟨X, 5, none⟩ (.slice a8 (E.length + 1) c8)) X B.r B.e B.f B.t B.o a8 (E ++ [v]).length c8 := by
            have := heap_setB (k := 5) (v := .slice a8 (E.length + 1) c8) d8
            unfold bBlock; rw [this, List.length_append]; rfl
          have o2 := T.owns own (own_off own d8 (by decide))
          refine ⟨d, ?_, O.up, O.upX⟩
          rw [evFlat_snoc, List.length_append]
          exact o2)
        have hXn : X ≠ wr.heap.size := by omega
        have hcl : w.heap.size < wr.heap.size := M.b.lt
        have hcn : w.heap.size ≠ wr.heap.size := by omega
        clear M O b5 HA HEq
        go_wp2_with fail
        go_region_law (refine step_append_many rfl (.tmp 66) (.tmp 71) 22 rfl W2.heap.size 50 i6 _ 6 48 Tryz.underlying22 hi6 hz60 hz61 hz62 rfl (by decide) (.slice a5 E.length c5) E.length (evFlat E) rfl (unveil HO5) ⟨wr.heap.size, 0, none⟩ 1 1 (evCells v) rfl rfl (news6 _ _ _ _ _ _ _ _) (by unfold maxLen; omega) (by omega) (by simp; omega) ?_; intro v' w4 own4 grow4; obtain ⟨a', cap', rfl⟩ := own_form own4; obtain ⟨⟨k4, f4⟩, M5, O5⟩ := unveil HNx w4 _ _ grow4 own4; have HM5 := veil M5; have HO5' := veil O5; clear M5 O5 own4 grow4)
        all_goals go_wp2
        all_goals (go_roundw <;> first | exact ⟨k + 1, _, _, by omega, by go_num, unveil HM5, by rw [unveil HE1]; exact unveil HO5', HA1⟩ | (simp [intOf]; omega))
    case neg =>
      obtain rfl : k = l.length := by omega
      rw [impE_all] at HEq
      have hfit := (unveil HA).fits (unveil HM0) hh
      have HFit := veil hfit
      have HM := veil M
      have HO := veil O
      clear M O hfit HA
      have HLast : Hid (∀ b : Bool, (b = true → m ≤ l.length) → Fits (B.es.drop ((h : Int)).toNat) l b) := veil (fun b hbm => ⟨by simpa using unveil HFit, fun hb => by have h1 := hbm hb; have h2 := unveil HM0; rw [List.length_drop]; simp only [Int.toNat_natCast]; omega⟩)
      have hmE : (h : Int).toNat = h := by simp
      obtain ⟨rE, lE, nE, fE⟩ := (unveil HO).row (unveil hwE)
      cases last
      case false =>
        obtain ⟨D, hD⟩ : ∃ D : Bt, D = B.more (l.drop m) := ⟨_, rfl⟩
        have hDE : D.es = E := by rw [hD, unveil HEq]; rfl
        have hDif : (if (false = true) then (B.more (l.drop (B.es.length - (h : Int).toNat))).broken else B.more (l.drop (B.es.length - (h : Int).toNat))) = D := by rw [hmE, ← unveil HM0, hD]; rfl
        have iD : BIn wr D a5 c5 := ⟨by rw [hDE]; exact rE, by rw [hDE]; exact lE, nE⟩
        have hDf : D.r = B.r ∧ D.e = B.e ∧ D.f = B.f ∧ D.t = B.t ∧ D.o = B.o := by rw [hD]; exact ⟨rfl, rfl, rfl, rfl, rfl⟩
        by_cases okD : D.Ok
        case pos =>
          have HFt : Hid (Calls Tryz.prog 25 #[bVal B.r B.e B.f B.t B.o a5 E.length c5] wr fun x w' => x = .returned (.int .i64 0) ∧ Below wr.heap.size wr w') := veil (by have := faultB_yes D a5 c5 wr iD okD; rw [hDE, hDf.1, hDf.2.1, hDf.2.2.1, hDf.2.2.2.1, hDf.2.2.2.2] at this; exact this)
          have HG : Hid (importOf B ep (h : Int) l false = (D, 0)) := veil (by
            have hl2 : l.length ≤ 2000 := by have h1 := okD.len; rw [hDE, unveil HElen] at h1; have h2 := unveil HM0; omega
            have := import_good (last := false) (unveil HOK) (unveil H1) (unveil H2) (unveil H3) (unveil HLast false (by simp)) hl2 (by rw [hDif]; exact okD)
            rw [hDif] at this; exact this)
          have HDE := veil hDE
          have HDf := veil hDf
          clear hD hDE hDif iD okD hDf HEq HElen
          go_wp2_with (go_at_call 25; refine (unveil HFt).mono ?_; rintro x W6 ⟨rfl, b6⟩; have M6 := (unveil HM).next b6; have O6 := (unveil HO).next b6; clear HFt x0 x1 x2 x3 x4 x5 y0 y1 y2 y3 y4 y5; obtain ⟨y0, y1, y2, y3, y4, y5⟩ := O6.b.cells; obtain ⟨z0, z1, z2, z3, z4, z5⟩ := M6.z.cells; have zf := M6.z.free; have HM6 := veil M6; have HR6 := veil (rE.below b6); clear M6 O6 b6)
          obtain ⟨W7, hW7, d7, b7, T7⟩ := b_stored (unveil HM6).z (unveil HM6).bel (show w.heap.size ≤ w.heap.size + 1 by omega) B.r B.e B.f B.t B.o a5 E.length c5
          rw [← hW7]
          have hDE := unveil HDE
          obtain ⟨g1, g2, g3, g4, g5⟩ := unveil HDf
          exact bodyPost_ret (ret_bImported d7 rfl rfl) rfl ⟨_, D, 0, rfl, unveil HG, ⟨a5, c5, by rw [hDE, g1, g2, g3, g4, g5], ⟨by rw [hDE]; exact T7.row (unveil HR6) (fun x hx _ => by have := fE x hx; omega), by rw [hDE]; exact lE, nE⟩, fun x hx => by have := fE x hx; omega⟩, b7⟩
        case neg =>
          have HFt : Hid (Calls Tryz.prog 25 #[bVal B.r B.e B.f B.t B.o a5 E.length c5] wr fun x w' => x = .returned (.int .i64 6) ∧ Below wr.heap.size wr w') := veil (by have := faultB_no D a5 c5 wr iD okD; rw [hDE, hDf.1, hDf.2.1, hDf.2.2.1, hDf.2.2.2.1, hDf.2.2.2.2] at this; exact this)
          have HG : Hid (importOf B ep (h : Int) l false = (Bt.zero, 3)) := veil (import_bad (unveil HOK) (unveil H1) (unveil H2) (unveil H3) (by rw [hDif]; exact okD))
          clear hD hDE hDif iD okD hDf HEq HElen
          go_wp2_with (go_at_call 25; refine (unveil HFt).mono ?_; rintro x W6 ⟨rfl, b6⟩; have M6 := (unveil HM).next b6; clear HFt x0 x1 x2 x3 x4 x5 y0 y1 y2 y3 y4 y5; obtain ⟨z0, z1, z2, z3, z4, z5⟩ := M6.z.cells; have zf := M6.z.free; have HM6 := veil M6; clear M6 b6)
          obtain ⟨W7, hW7, d7, b7, T7⟩ := b_stored (unveil HM6).z (unveil HM6).bel (show w.heap.size ≤ w.heap.size + 1 by omega) 0 0 0 0 0 none 0 0
          rw [← hW7]
          exact bodyPost_ret (ret_bImported d7 rfl rfl) rfl ⟨_, Bt.zero, 3, rfl, unveil HG, BOut.zero _ _, b7⟩
      case true =>
      by_cases hml : m ≤ l.length
      case neg =>
        have hne : (((h : Int) + (l.length : Int)) != (E.length : Int)) = true := by have h1 := unveil HElen; have h2 := unveil HM0; simp only [bne_iff_ne, ne_eq]; omega
        have HG : Hid (importOf B ep (h : Int) l true = (Bt.zero, 3)) := veil (import_no (unveil HOK) (unveil H1) (unveil H2) (unveil H3) (fun hf => hml (by have h1 := hf.2 rfl; rw [List.length_drop, hmE] at h1; have h2 := unveil HM0; omega)))
        obtain ⟨z0, z1, z2, z3, z4, z5⟩ := (unveil HM).z.cells
        have zf := (unveil HM).z.free
        clear HEq HElen hml
        go_wp2
        obtain ⟨W7, hW7, d7, b7, T7⟩ := b_stored (unveil HM).z (unveil HM).bel (show w.heap.size ≤ w.heap.size + 1 by omega) 0 0 0 0 0 none 0 0
        rw [← hW7]
        exact bodyPost_ret (ret_bImported d7 rfl rfl) rfl ⟨_, Bt.zero, 3, rfl, unveil HG, BOut.zero _ _, b7⟩
      case pos =>
        have heq : (((h : Int) + (l.length : Int)) != (E.length : Int)) = false := by have h1 := unveil HElen; have h2 := unveil HM0; simp only [bne_eq_false_iff_eq]; omega
        have HFi := veil (unveil HLast true (fun _ => hml))
        have hto : B.t = 0 ∧ B.o = 0 := by have h1 := (unveil HOK).stand; have h2 := unveil H1; unfold Bt.Stand standP at h1; omega
        have HTO := veil hto
        have yf := (unveil HO).b.free
        clear hml hto
        go_upto_region 23 with fail
        obtain ⟨W5, hW5, O5, z5', B5⟩ := Ob.opened (unveil HO) (show w.heap.size + 1 < W2.heap.size from hlt3) (unveil HM).z (unveil HM).bel
        rw [← hW5]
        rw [(unveil HTO).1, (unveil HTO).2] at O5
        have hX5 := O5.lt
        clear hW5 x0 x1 x2 x3 x4 x5 y0 y1 y2 y3 y4 y5 yf HM HO hXl rE
        obtain ⟨y0, y1, y2, y3, y4, y5⟩ := O5.b.cells
        have HOw : Hid ((W5.alloc (.cells #[.int .i64 4, .int .i64 0, .int .i64 0, .int .i64 0, .int .i64 0, .int .i64 0] 50)).ownsRow W2.heap.size 50 6 (.slice a5 E.length c5) E.length ((evFlat E).map (Value.int .i64))) := veil (own_still O5.own (fun g _ hg => (below1 W5 _).block g hg))
        have HO5 := veil O5
        have HZ5 := veil z5'
        have HB5 := veil B5
        clear O5 z5' B5
        go_upto_region 24 with (at_builtin; refine wpList_append_own _ rfl _ _ 22 rfl W2.heap.size 50 i6 _ 6 48 Tryz.underlying22 hi6 hz60 hz61 hz62 rfl (by decide) (.slice a5 E.length c5) E.length ((evFlat E).map (Value.int .i64)) rfl (unveil HOw) ⟨W5.heap.size, 0, none⟩ 1 1 ((evCells Ev.brk).map (Value.int .i64)) rfl rfl (news6 _ _ _ _ _ _ _ _) (ints_oneCell _ _) (by unfold maxLen; omega) (by omega) (by simp; omega) ?_; intro v' W8 own8 grow8 _; obtain ⟨a8, c8, rfl⟩ := own_form own8; obtain ⟨d8, B8, k8⟩ := Ob.grown (unveil HO5) (below1 W5 _) grow8 (unveil HB5); clear y0 y1 y2 y3 y4 y5; obtain ⟨y0, y1, y2, y3, y4, y5⟩ := d8.cells; have yf := d8.free; have HD8 := veil d8; have HB8 := veil B8; have HK8 := veil k8; have HOn := veil own8; clear d8 B8 k8 own8 grow8 HOw)
        obtain ⟨W9, hW9, d9, T9, r9, l9, n9, f9⟩ := Ob.more (w := w) Ev.brk (unveil HD8) (unveil hwE) (by decide) (unveil HOn) (by omega) hbs
        rw [← hW9]
        have z9 : bBlock W9 (w.heap.size + 1) 0 0 0 0 0 none 0 0 := (T9.block _ (by omega)).trans ((unveil HK8 _ hlt3).trans (unveil HZ5))
        have B9 := T9.under (unveil HB8) (by omega)
        clear hW9 T9 HD8 HB8 HK8 HOn HZ5 HB5 HO5 y0 y1 y2 y3 y4 y5 yf hX5
        obtain ⟨y0, y1, y2, y3, y4, y5⟩ := d9.cells
        obtain ⟨D, hD⟩ : ∃ D : Bt, D = (B.more (l.drop m)).broken := ⟨_, rfl⟩
        have hDE : D.es = E ++ [Ev.brk] := by rw [hD, unveil HEq]; rfl
        have hDl : D.es.length = E.length + 1 := by rw [hDE, List.length_append]; rfl
        have hDif : (if (true = true) then (B.more (l.drop (B.es.length - (h : Int).toNat))).broken else B.more (l.drop (B.es.length - (h : Int).toNat))) = D := by rw [hmE, ← unveil HM0, hD]; rfl
        have iD : BIn W9 D a8 c8 := ⟨by rw [hDl, hDE]; exact r9, by rw [hDl]; exact l9, n9⟩
        have hDf : D.r = 1 ∧ D.e = B.e ∧ D.f = 0 ∧ D.t = 0 ∧ D.o = 0 := by rw [hD]; exact ⟨rfl, rfl, rfl, rfl, rfl⟩
        have HZ9 := veil z9
        have HB9 := veil B9
        have HD9 := veil d9
        clear z9 B9 d9
        by_cases okD : D.Ok
        case pos =>
          have HFt : Hid (Calls Tryz.prog 25 #[bVal 1 B.e 0 0 0 a8 (E.length + 1) c8] W9 fun x w' => x = .returned (.int .i64 0) ∧ Below W9.heap.size W9 w') := veil (by have := faultB_yes D a8 c8 W9 iD okD; rw [hDl, hDf.1, hDf.2.1, hDf.2.2.1, hDf.2.2.2.1, hDf.2.2.2.2] at this; exact this)
          have HG : Hid (importOf B ep (h : Int) l true = (D, 0)) := veil (by
            have hl2 : l.length ≤ 2000 := by have h1 := okD.len; rw [hDl, unveil HElen] at h1; have h2 := unveil HM0; omega
            have := import_good (last := true) (unveil HOK) (unveil H1) (unveil H2) (unveil H3) (unveil HFi) hl2 (by rw [hDif]; exact okD)
            rw [hDif] at this; exact this)
          have HDE := veil hDE
          have HDl := veil hDl
          have HDf := veil hDf
          clear hD hDE hDl hDif iD okD hDf HEq HElen
          go_wp2_with (go_at_call 25; refine (unveil HFt).mono ?_; rintro x W10 ⟨rfl, b10⟩; clear y0 y1 y2 y3 y4 y5 HFt; have d10 := (unveil HD9).next b10; obtain ⟨y0, y1, y2, y3, y4, y5⟩ := d10.cells; have zz := (unveil HZ9).next b10; obtain ⟨z0, z1, z2, z3, z4, z5⟩ := zz.cells; have zf := zz.free; have HB10 := veil (Below.next (unveil HB9) b10); have HR10 := veil (r9.below b10); have HZ10 := veil zz; clear d10 zz b10)
          obtain ⟨W11, hW11, d11, b11, T11⟩ := b_stored (unveil HZ10) (unveil HB10) (show w.heap.size ≤ w.heap.size + 1 by omega) 1 B.e 0 0 0 a8 (E.length + 1) c8
          rw [← hW11]
          have hDE := unveil HDE
          have hDl := unveil HDl
          obtain ⟨g1, g2, g3, g4, g5⟩ := unveil HDf
          exact bodyPost_ret (ret_bImported d11 rfl rfl) rfl ⟨_, D, 0, rfl, unveil HG, ⟨a8, c8, by rw [hDl, g1, g2, g3, g4, g5], ⟨by rw [hDl, hDE]; exact T11.row (unveil HR10) (fun x hx _ => by have := f9 x hx; omega), by rw [hDl]; exact l9, n9⟩, fun x hx => by have := f9 x hx; omega⟩, b11⟩
        case neg =>
          have HFt : Hid (Calls Tryz.prog 25 #[bVal 1 B.e 0 0 0 a8 (E.length + 1) c8] W9 fun x w' => x = .returned (.int .i64 6) ∧ Below W9.heap.size W9 w') := veil (by have := faultB_no D a8 c8 W9 iD okD; rw [hDl, hDf.1, hDf.2.1, hDf.2.2.1, hDf.2.2.2.1, hDf.2.2.2.2] at this; exact this)
          have HG : Hid (importOf B ep (h : Int) l true = (Bt.zero, 3)) := veil (import_bad (unveil HOK) (unveil H1) (unveil H2) (unveil H3) (by rw [hDif]; exact okD))
          clear hD hDE hDl hDif iD okD hDf HEq HElen HD9
          go_wp2_with (go_at_call 25; refine (unveil HFt).mono ?_; rintro x W10 ⟨rfl, b10⟩; clear y0 y1 y2 y3 y4 y5 HFt; have zz := (unveil HZ9).next b10; obtain ⟨z0, z1, z2, z3, z4, z5⟩ := zz.cells; have zf := zz.free; have HB10 := veil (Below.next (unveil HB9) b10); have HZ10 := veil zz; clear zz b10)
          obtain ⟨W11, hW11, d11, b11, T11⟩ := b_stored (unveil HZ10) (unveil HB10) (show w.heap.size ≤ w.heap.size + 1 by omega) 0 0 0 0 0 none 0 0
          rw [← hW11]
          exact bodyPost_ret (ret_bImported d11 rfl rfl) rfl ⟨_, Bt.zero, 3, rfl, unveil HG, BOut.zero _ _, b11⟩
end Go.Proofs.YtbhlpiomoookcaaGreat

namespace Go.Proofs.YtbhlpiomoookcaaGreat
open Go.RowKit

open Classical in
theorem import_len {B B' : Bt} {ep at' : Int} {l : List Ev} {last : Bool} {er : Int} (h : importOf B ep at' l last = (B', er)) : B'.es.length ≤ B.es.length + l.length + 1 := by
  unfold importOf at h
  repeat' split at h
  all_goals (cases h; first | exact Nat.zero_le _ | (simp [Bt.more, Bt.broken]; omega) | (simp [Bt.more, Bt.broken]))
set_option maxRecDepth 20000 in
set_option maxHeartbeats 8000000 in
theorem walk_BerthImports (w : World) (B : Bt) (a : Option Addr) (cap : Nat) (bi : BIn w B a cap) (z : cap ≤ 1048576) (ep : Int) (_ : (Lit.int .i64 ep).wf = true) (at' : Int) (_ : (Lit.int .i64 at').wf = true) (al : Option Addr) (len cl : Nat) (D : List Int) (h : RowK .i64 w al (6 * len) D) (hlc : len ≤ cl) (_ : al = none → cl = 0) (zl : cl ≤ 1048576) (last : Bool) :
    Calls Tryz.prog 5 #[bVal B.r B.e B.f B.t B.o a B.es.length cap, .int .i64 ep, .int .i64 at', .slice al len cl, .bool last] w fun r w' => r = .returned (.bool true) ∧ Below w.heap.size w w' := by
  obtain ⟨l, hes⟩ : ∃ l, l = evsOf D len := ⟨_, rfl⟩
  have hll : len = l.length := by rw [hes, evsOf_len]
  have hr : RowK .i64 w al (6 * l.length) (evFlat l) := by rw [hes]; exact evFlat_of_row h
  clear h hes
  subst hll
  have hcap := bi.cap
  have hs : B.es.length * 48 ≤ 140737488351232 := by omega
  have hm : B.es.length ≤ 3000000000000 := by omega
  have hml : l.length ≤ 3000000000000 := by omega
  have hln : l.length ≤ 1048576 := by omega
  have hsl : l.length * 48 ≤ 140737488351232 := by omega
  have hwf := veil hr.wf
  have HRl : Hid (∀ W, Below w.heap.size w W → RowK .i64 W al (6 * l.length) (evFlat l)) := veil fun W b => hr.below b
  have HEv : Hid (∀ W, Below w.heap.size w W → Calls Tryz.prog 12 #[.slice al l.length cl] W fun e w' => ∃ a2 c2, e = .returned (.slice a2 l.length c2) ∧ RowK .i64 w' a2 (6 * l.length) (evFlat l) ∧ l.length ≤ c2 ∧ (a2 = none → c2 = 0) ∧ Below W.heap.size W w') := veil (fun W b => by
    have HC := veil (eventsCopy_any al l.length cl (evFlat l) W (hr.below b) hsl)
    clear hr HRl
    go_enter Tryz.func12, Tryz.ntmps12
    go_wp2_with (go_at_call 27; refine (unveil HC).mono ?_; rintro e W1 ⟨v1, rfl, o1, b1⟩; obtain ⟨a2, c2, rfl, r2, l2, n2, _⟩ := own_events (unveil hwf) rfl o1; clear HC o1)
    go_ret
    exact ⟨a2, c2, rfl, r2, l2, n2, b1⟩)
  clear hr
  go_enter Tryz.func5, Tryz.ntmps5
  go_upto_region 1 with fail
  obtain ⟨W1, hW1, K1, _⟩ := Kb.new bi (Below.refl _ _) (Below.refl _ _)
  rw [← hW1]
  clear hW1
  obtain ⟨x0, x1, x2, x3, x4, x5⟩ := K1.b.cells
  have HBs := veil (berths_any B a cap W1 K1.i hs)
  have HKx := veil K1
  clear K1
  go_upto_region 2 with (go_at_call 6; refine (unveil HBs).mono ?_; rintro x W2 ⟨y, rfl, ⟨a2, c2, rfl, i2, f2⟩, b2⟩; have K2 := (unveil HKx).next b2; clear HBs HKx x0 x1 x2 x3 x4 x5; have HKx := veil K2; have HI2 := veil i2; clear K2 i2 b2 f2)
  obtain ⟨W3, hW3, K3, b3⟩ := Kb.new (w := w) (unveil HI2) (unveil HKx).bel (Below.refl _ _)
  rw [← hW3]
  clear hW3
  have Kx3 := (unveil HKx).next b3
  clear HKx HI2 b3
  have HKx := veil Kx3
  have HKc := veil K3
  have HEw := veil (unveil HEv W3 Kx3.bel)
  clear K3 Kx3 HEv
  go_upto_region 3 with (go_at_call 12; refine (unveil HEw).mono ?_; rintro x W4 ⟨ad, cd, rfl, rd, ld, nd, b4⟩; have Kx4 := (unveil HKx).next b4; have Kc4 := (unveil HKc).next b4; clear HKx HKc HEw b4; obtain ⟨g0, g1, g2, g3, g4, g5⟩ := Kc4.b.cells; have HF := veil (bimport_any B a2 c2 ep at' l ad l.length cd last W4 Kc4.i rd rfl ld nd); have HKx := veil Kx4; have HKc := veil Kc4; have HRd := veil rd; clear Kx4 Kc4 rd)
  go_upto_region 4 with (go_at_call 13; refine (unveil HF).mono ?_; rintro x W5 ⟨y, B', er, rfl, hof, ⟨a4, c4, rfl, i4, f4⟩, b5⟩; have HOF := veil hof; have HI4 := veil i4; have Kx5 := (unveil HKx).next b5; have Kc5 := (unveil HKc).next b5; have rd5 := (unveil HRd).below b5; clear HF HKx HKc HRd g0 g1 g2 g3 g4 g5 hof i4 f4 b5; have HKx := veil Kx5; have HKc := veil Kc5; have HRd := veil rd5; clear Kx5 Kc5 rd5)
  obtain ⟨W6, hW6, K6, b6⟩ := Kb.new (w := w) (unveil HI4) (unveil HKx).bel (Below.refl _ _)
  rw [← hW6]
  clear hW6
  have Kx6 := (unveil HKx).next b6
  have Kc6 := (unveil HKc).next b6
  have rd6 := (unveil HRd).below b6
  clear HKx HKc HRd HI4 b6
  obtain ⟨x0, x1, x2, x3, x4, x5⟩ := Kx6.b.cells
  have HD := veil (bimported_any B a cap ep at' l al cl last W6 Kx6.i (unveil HRl W6 Kx6.bel) hln)
  have HKx := veil Kx6
  have HKc := veil Kc6
  have HKa := veil K6
  have HRd := veil rd6
  clear Kx6 Kc6 K6 rd6
  go_upto_region 5 with (go_at_call 14; refine (unveil HD).mono ?_; rintro x W7 ⟨y, B'', er', rfl, hof, ⟨a6, c6, rfl, i6, f6⟩, b7⟩; obtain ⟨rfl, rfl⟩ := Prod.mk.inj ((unveil HOF).symm.trans hof); have HI6 := veil i6; have Kx7 := (unveil HKx).next b7; have Kc7 := (unveil HKc).next b7; have Ka7 := (unveil HKa).next b7; have rd7 := (unveil HRd).below b7; clear HD HKx HKc HKa HRd x0 x1 x2 x3 x4 x5 hof i6 f6 b7; have HKx := veil Kx7; have HKc := veil Kc7; have HKa := veil Ka7; have HRd := veil rd7; clear Kx7 Kc7 Ka7 rd7)
  have hm' : B'.es.length ≤ 3000000000000 := by have := import_len (unveil HOF); omega
  obtain ⟨W8, hW8, K8, b8⟩ := Kb.new (w := w) (unveil HI6) (unveil HKx).bel (Below.refl _ _)
  rw [← hW8]
  clear hW8
  have Kx8 := (unveil HKx).next b8
  have Kc8 := (unveil HKc).next b8
  have Ka8 := (unveil HKa).next b8
  have rd8 := (unveil HRd).below b8
  obtain ⟨p0, p1, p2, p3, p4, p5⟩ := Ka8.b.cells
  obtain ⟨q0, q1, q2, q3, q4, q5⟩ := K8.b.cells
  have HS1 := veil (sameKb Ka8 K8 hm')
  have HKx := veil Kx8
  have HKc := veil Kc8
  have HRd := veil rd8
  clear Ka8 K8 Kx8 Kc8 rd8 b8
  go_wp2_with (first
    | (go_at_call 9; refine (unveil HS1).mono ?_; rintro x W9 ⟨rfl, b9⟩; clear HS1 p0 p1 p2 p3 p4 p5 q0 q1 q2 q3 q4 q5; have Kc9 := (unveil HKc).next b9; have Kx9 := (unveil HKx).next b9; obtain ⟨p0, p1, p2, p3, p4, p5⟩ := Kc9.b.cells; obtain ⟨q0, q1, q2, q3, q4, q5⟩ := Kx9.b.cells; have HS2 := veil (sameKb Kc9 Kx9 hm); have HB9 := veil Kx9.bel; have HRd9 := veil ((unveil HRd).below b9); clear Kc9 Kx9 b9)
    | (go_at_call 9; refine (unveil HS2).mono ?_; rintro x W10 ⟨rfl, b10⟩; clear HS2; have HB10 := veil (Below.next (unveil HB9) b10); have HS3 := veil (sameEventsL_below ad al l.length cd cl (evFlat l) W10 ((unveil HRd9).below b10) (unveil HRl W10 (unveil HB10)) hml); clear b10)
    | (go_at_call 15; refine (unveil HS3).mono ?_; rintro x W11 ⟨rfl, b11⟩; clear HS3))
  go_ret
  exact ⟨by first | rfl | simp, Below.next (unveil HB10) b11⟩
end Go.Proofs.YtbhlpiomoookcaaGreat
