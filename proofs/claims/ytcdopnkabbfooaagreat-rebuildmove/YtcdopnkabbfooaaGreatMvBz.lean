/- The walk of the keep package's moved: a queue that goes from one berth to another one. -/
import Derived.Test.YtcdopnkabbfooaaGreatMvAz
import Derived.Test.YtcdopnkabbfooaaGreatMvR
import Derived.Test.YtcdopnkabbfooaaGreatRaLow
namespace Go.Proofs.YtcdopnkabbfooaaGreat
open Go.RowKit

theorem two_zb (w : World) : ∃ W, W = (w.alloc (.cells (bCells 0 0 0 0 0 none 0 0) 24)).alloc (.cells (bCells 0 0 0 0 0 none 0 0) 24) ∧ bBlock W w.heap.size 0 0 0 0 0 none 0 0 ∧ bBlock W (w.heap.size + 1) 0 0 0 0 0 none 0 0 ∧ Below w.heap.size w W ∧ W.heap.size = w.heap.size + 2 := by
  refine ⟨_, rfl, (bBlock.new w 0 0 0 0 0 none 0 0).below (below1 _ _) (by simp), ?_, below2 _ _ _, by simp⟩
  have := bBlock.new (w.alloc (.cells (bCells 0 0 0 0 0 none 0 0) 24)) 0 0 0 0 0 none 0 0
  rw [show (w.alloc (.cells (bCells 0 0 0 0 0 none 0 0) 24)).heap.size = w.heap.size + 1 by simp] at this
  exact this
theorem ret_moved {W : World} {R8 R9 : Nat} {r e f t o r' e' f' t' o' : Int} {a a' : Option Addr} {n c n' c' : Nat} {b : Bool} {tmps : Array Value} (d : bBlock W R8 r e f t o a n c) (d' : bBlock W R9 r' e' f' t' o' a' n' c') (t1 : tmps[8]? = some (.pointer (some ⟨R8, 0, none⟩))) (t2 : tmps[9]? = some (.pointer (some ⟨R9, 0, none⟩))) (t3 : tmps[10]? = some (.bool b)) :
    (results Tryz.f25 tmps).run Tryz.prog W = .ok (.tuple #[bVal r e f t o a n c, bVal r' e' f' t' o' a' n' c', .bool b]) W := by
  simp [results, Tryz.results25, t1, t2, t3, asAddr, load_berth d, load_berth d']
/-- what a move leaves. -/
structure MovedOut (w w' : World) (E : Int) (es : List Ev) (S : Bt) (aS : Option Addr) (cS : Nat) (aT : Option Addr) (cT : Nat) : Prop where
  src : Src S E es 50
  r : S.r = 3
  e1 : 1 ≤ E
  e2 : E ≤ 1000
  iS : BIn w' S aS cS
  iT : BIn w' (Bt.act (E + 1) (es ++ [Ev.brk])) aT cT
  bel : Below w.heap.size w w'
set_option maxRecDepth 20000 in
set_option maxHeartbeats 8000000 in
theorem moved_any (ep : Int) (wep : (Lit.int .i64 ep).wf = true) (a0 : Option Addr) (len cap : Nat) (D : List Int) (a1 : Option Addr) (len1 cap1 : Nat) (D1 : List Int) (a2 : Option Addr) (len2 cap2 : Nat) (f2 : Nat → Bool) (w : World)
    (h : RowK .i64 w a0 (4 * len) D) (h1 : RowK .i64 w a1 (4 * len1) D1) (h2 : RowB w a2 len2 f2) :
    Calls Tryz.prog 25 #[.int .i64 ep, .slice a0 len cap, .slice a1 len1 cap1, .slice a2 len2 cap2] w fun x w' => ∃ E es S aS cS aT cT, x = .returned (.tuple #[bVal S.r S.e S.f S.t S.o aS S.es.length cS, bVal 1 (E + 1) 0 0 0 aT (es ++ [Ev.brk]).length cT, .bool true]) ∧ MovedOut w w' E es S aS cS aT cT := by
  have HSv : Hid (∀ W, Below w.heap.size w W → Calls Tryz.prog 19 #[.int .i64 ep, .slice a0 len cap, .int .i64 30] W fun x w' => ∃ E es s ans y, x = .returned (.tuple #[y, .bool true]) ∧ Hist es s ans ∧ es.length ≤ 30 ∧ (∀ v ∈ es, ¬ v.k = 4) ∧ 1 ≤ E ∧ E ≤ 1000 ∧ BOut W w' (Bt.act E es) y ∧ Below W.heap.size W w') := veil fun W b => kserved_any ep a0 len cap 30 D W (h.below b) wep (by omega)
  clear h wep
  go_enter Tryz.func25, Tryz.ntmps25
  go_upto_region 1 with fail
  obtain ⟨W2, hW2, z8, z9, B2, S2⟩ := two_zb w
  rw [← hW2]
  clear hW2
  have HSv1 := unveil HSv W2 B2
  clear HSv
  go_upto_region 2 with (go_at_call 19; refine HSv1.mono ?_; rintro x V3 ⟨E, es, s, ans, y, rfl, hist, hl, nb, hE1, hE2, ⟨⟨a, c, rfl, i1, u1⟩⟩, b3⟩; clear HSv1)
  obtain ⟨W3, hW3, K1, d3⟩ := Kb.new i1 B2 b3
  rw [← hW3]
  clear hW3 nb
  have hR3 : V3.heap.size < W3.heap.size := K1.b.lt
  have hV3 : w.heap.size + 2 ≤ V3.heap.size := by rw [← S2]; exact b3.size
  have b23 := Below.next b3 d3
  have z8' := z8.next b23
  have z9' := z9.next b23
  obtain ⟨Rs, hRs⟩ : ∃ R, R = V3.heap.size := ⟨_, rfl⟩
  rw [← hRs] at K1 ⊢ hR3 hV3
  have ht := hist.tells
  clear hRs i1 u1 b3 d3 b23 z8 z9 B2 S2 hist
  have HC := go_act E es s ans a c W3 3 K1.i ht (by omega) hE1 hE2 (by omega) (by omega)
  obtain ⟨xb0, xb1, xb2, xb3, xb4, xb5⟩ := K1.b.cells
  have lb := K1.b.lt
  have HK1 := veil K1
  have HZ8 := veil z8'
  have HZ9 := veil z9'
  have fb := K1.b.free
  clear K1 z8' z9'
  go_upto_region 3 with (go_at_call 20; refine HC.mono ?_; rintro x V4 ⟨a4, c4, rfl, i4, u4, b4⟩; clear HC xb0 xb1 xb2 xb3 xb4 xb5; obtain ⟨xb0, xb1, xb2, xb3, xb4, xb5⟩ := ((unveil HK1).b.next b4).cells; have fb := ((unveil HK1).b.next b4).free)
  obtain ⟨W4, hW4, K4, t4⟩ : ∃ W, W = (((((V4.setCell ⟨Rs, 0, none⟩ (.int .i64 2)).setCell ⟨Rs, 1, none⟩ (.int .i64 E)).setCell ⟨Rs, 2, none⟩ (.int .i64 0)).setCell ⟨Rs, 3, none⟩ (.int .i64 3)).setCell ⟨Rs, 4, none⟩ (.int .i64 0)).setCell ⟨Rs, 5, none⟩ (.slice a4 es.length c4) ∧ Kb w W Rs (Bt.drn E 3 0 es) a4 c4 ∧ Turned Rs V4 W := Kb.put (B' := Bt.drn E 3 0 es) (unveil HK1) i4 u4 b4
  rw [← hW4]
  have z8 := ((unveil HZ8).next b4).turned t4 (by omega)
  have z9 := ((unveil HZ9).next b4).turned t4 (by omega)
  have u4' : ∀ x, a4 = some x → w.heap.size + 2 ≤ x.block ∧ x.block ≠ Rs := fun x hx => by have := u4 x hx; omega
  have hs4 : W4.heap.size = V4.heap.size := t4.size
  clear hW4 HK1 HZ8 HZ9 i4 u4 b4 t4 xb0 xb1 xb2 xb3 xb4 xb5 fb lb
  have hwE : IntKind.i64.wrap (E + 1) = E + 1 := by rw [IntKind.wrap_i64]; omega
  have HC := begin_first (E + 1) 1 (by omega) (by omega) (by omega) (by omega) W4
  obtain ⟨xb0, xb1, xb2, xb3, xb4, xb5⟩ := K4.b.cells
  have lb := K4.b.lt
  have HK4 := veil K4
  have HZ8 := veil z8
  have HZ9 := veil z9
  clear K4 z8 z9
  go_upto_region 4 with (go_at_call 47; refine HC.mono ?_; rintro x V5 ⟨a5, c5, rfl, i5, u5, b5⟩; clear HC xb0 xb1 xb2 xb3 xb4 xb5 lb)
  obtain ⟨W5, hW5, K5, d5⟩ : ∃ W, W = V5.alloc (.cells (bCells 4 (E + 1) 1 0 0 a5 0 c5) 24) ∧ Kb w W V5.heap.size (Bt.imp (E + 1) 1 []) a5 c5 ∧ Below V5.heap.size V5 W := Kb.new (B := Bt.imp (E + 1) 1 []) i5 (unveil HK4).bel b5
  rw [← hW5]
  have M5 : Mw w W5 w.heap.size (w.heap.size + 1) Rs V5.heap.size (Bt.drn E 3 0 es) (Bt.imp (E + 1) 1 []) a4 c4 a5 c5 := by
    have b45 := Below.next b5 d5
    have hlt := (unveil HK4).b.lt
    have h5 := b5.size
    refine ⟨(unveil HZ8).next b45, (unveil HZ9).next b45, (unveil HK4).next b45, K5, Nat.le_refl _, by omega, by omega, by omega, fun R hR => ⟨fun x hx h0 => ?_, fun x hx h0 => absurd h0 (Nat.lt_irrefl _)⟩⟩
    have h6 := u4' x hx
    have h7 := (unveil HK4).i.row.blk_lt x hx (by omega)
    omega
  have P5 : MvP (Bt.drn E 3 0 es) (Bt.imp (E + 1) 1 []) E es 0 0 := .going 0 ⟨.inl rfl, rfl, rfl, ht.drn_ok (by omega) hE1 (by omega) (by omega) (by omega) (by omega) (by omega), by omega⟩ (by rw [List.take_zero]) (Nat.le_refl _) (Nat.zero_le _)
  have HM5 := veil M5
  have HP5 := veil P5
  obtain ⟨Rt, hRt⟩ : ∃ R, R = V5.heap.size := ⟨_, rfl⟩
  rw [← hRt] at HM5 ⊢
  clear hW5 K5 d5 i5 u5 b5 HK4 HZ8 HZ9 M5 P5 hRt u4' hs4 ht hl hV3 hR3
  go_upto_region 8 with fail
  go_loopw [16, 17] (fun av iv wr => ∃ (a i : Nat) (S T : Bt) (aS : Option Addr) (cS : Nat) (aT : Option Addr) (cT : Nat) (es : List Ev), av = .int .i64 a ∧ iv = .int .i64 i ∧ a ≤ 20 ∧ Mw w wr w.heap.size (w.heap.size + 1) Rs Rt S T aS cS aT cT ∧ Hid (MvP S T E es a i)) (fun _ iv _ => 200 - (intOf iv).toNat)
  case atStart => exact ⟨0, 0, _, _, _, _, _, _, es, rfl, rfl, Nat.zero_le _, unveil HM5, HP5⟩
  case round =>
    clear HM5 HP5
    obtain ⟨n, i, S, T, aS, cS, aT, cT, es, rfl, rfl, hn20, M, HP⟩ := hrel
    cases unveil HP with
    | there hs hr htT hi =>
      clear HP
      obtain ⟨Ub, hUb⟩ : ∃ Ub, Ub = es ++ [Ev.brk] := ⟨_, rfl⟩
      rw [← hUb] at htT
      have HUb := veil hUb
      have HLb : Hid (es.length + 1 = Ub.length) := veil (by rw [hUb]; simp)
      clear hUb
      subst htT
      obtain ⟨tb0, tb1, tb2, tb3, tb4, tb5⟩ := M.t.b.cells
      have HM := veil M
      have HS := veil hs
      have HR := veil hr
      clear M hs hr
      go_upto_region 30 with fail
      obtain ⟨sb0, sb1, sb2, sb3, sb4, sb5⟩ := (unveil HM).s.b.cells
      obtain ⟨p0, p1, p2, p3, p4, p5⟩ := (unveil HM).z8.cells
      obtain ⟨q0, q1, q2, q3, q4, q5⟩ := (unveil HM).z9.cells
      have pf := (unveil HM).z8.free
      have qf := (unveil HM).z9.free
      have n1 := (unveil HM).o1
      have n2 := (unveil HM).o2
      have n3 := (unveil HM).o3
      have n4 := (unveil HM).o4
      have HO := veil (unveil HM).out
      go_region
      all_goals go_wp2
      all_goals exact bodyPost_ret (ret_moved (unveil HO).b8 (unveil HO).b9 rfl rfl rfl) rfl ⟨E, es, S, aS, cS, aT, cT, (by rw [unveil HLb]; first | done | rfl), ⟨⟨(unveil HS).r, (unveil HS).e, (unveil HS).es_, (unveil HS).ok, by have := (unveil HS).len; omega⟩, unveil HR, hE1, hE2, (unveil HO).iS, by rw [← unveil HUb]; exact (unveil HO).iT, (unveil HO).bel⟩⟩
    | going h hs htT hi hl =>
      clear HP
      subst htT
      obtain ⟨H, hH⟩ : ∃ H, H = es.take h := ⟨_, rfl⟩
      have hlH : H.length = h := by rw [hH, List.length_take]; omega
      rw [← hH] at M
      have hle := hs.len
      have hi2 : i < 200 := by omega
      obtain ⟨tb0, tb1, tb2, tb3, tb4, tb5⟩ := M.t.b.cells
      have HM := veil M
      have HS := veil hs
      have HH := veil (And.intro hH hlH)
      clear M hs hH hlH
      go_upto_region 10 with fail
      clear tb0 tb1 tb2 tb3 tb4 tb5
      go_cut [80] (fun v wx => wx = wr ∧ ∃ cb : Bool, v = .bool cb ∧ Hid (cb = true → n < len1 ∧ n < 20))
      case first =>
        by_cases hc1 : n < len1
        case neg =>
          go_wp2
          go_meet
          exact ⟨rfl, _, rfl, veil (fun h => by first | (cases h; done) | (simp at h; omega))⟩
        by_cases hc2 : n < 20
        case neg =>
          go_wp2
          go_meet
          exact ⟨rfl, _, rfl, veil (fun h => by first | (cases h; done) | (simp at h; omega))⟩
        go_wp2
        go_meet
        exact ⟨rfl, _, rfl, veil (fun _ => ⟨hc1, hc2⟩)⟩
      case rest =>
      obtain ⟨hwc, cb, rfl, HCB⟩ := hcut
      replace hwc := hwc.symm
      subst hwc
      go_step
      go_cut [16] (fun av wx => ∃ (n' : Nat) (S' : Bt) (aS' : Option Addr) (cS' : Nat) (es' : List Ev), av = .int .i64 n' ∧ n' ≤ 20 ∧ Mw w wx w.heap.size (w.heap.size + 1) Rs Rt S' (Bt.imp (E + 1) 1 H) aS' cS' aT cT ∧ Hid (Src S' E es' (30 + n') ∧ H = es'.take h ∧ h ≤ es'.length))
      case first =>
        cases cb with
        | false =>
          go_wp2
          go_meet
          exact ⟨n, S, aS, cS, es, rfl, hn20, unveil HM, veil ⟨unveil HS, (unveil HH).1, hl⟩⟩
        | true =>
        obtain ⟨hc1, hc2⟩ := unveil HCB rfl
        clear HCB
        have r1 := h1.below (unveil HM).s.bel
        obtain ⟨b1, o1, rfl⟩ := h1.form (by omega)
        have y0 := r1.at (4 * n) (by omega)
        have y1 := r1.at (4 * n + 1) (by omega)
        have y2 := r1.at (4 * n + 2) (by omega)
        have y3 := r1.at (4 * n + 3) (by omega)
        rw [← Nat.add_assoc] at y1 y2 y3
        rw [Nat.mul_comm 4 n] at y0 y1 y2 y3
        have hDl := h1.len_eq
        have w0 : ∀ j, j < 4 * len1 → (Lit.int .i64 (D1.getD j 0)).wf = true := fun j hj => h1.wf _ (by rw [List.getD_eq_getElem?_getD, List.getElem?_eq_getElem (show j < D1.length by omega)]; exact List.getElem_mem _)
        have hws : ∀ z ∈ [D1.getD (n * 4) 0, D1.getD (n * 4 + 1) 0, D1.getD (n * 4 + 2) 0, D1.getD (n * 4 + 3) 0], (Lit.int .i64 z).wf = true := by
          intro z hz
          simp only [List.mem_cons, List.not_mem_nil, or_false] at hz
          rcases hz with rfl | rfl | rfl | rfl
          · exact w0 _ (by omega)
          · exact w0 _ (by omega)
          · exact w0 _ (by omega)
          · exact w0 _ (by omega)
        have hbl : b1 < wr.heap.size := r1.lt (by omega)
        clear r1 w0
        have HE := veil (event_at _ _ _ _ hws wr)
        have hlike := deedEv_like (D1.getD (n * 4) 0) (D1.getD (n * 4 + 1) 0) (D1.getD (n * 4 + 2) 0) (D1.getD (n * 4 + 3) 0)
        generalize D1.getD (n * 4) 0 = x0 at *
        generalize D1.getD (n * 4 + 1) 0 = x1 at *
        generalize D1.getD (n * 4 + 2) 0 = x2 at *
        generalize D1.getD (n * 4 + 3) 0 = x3 at *
        generalize deedEv x0 x1 x2 x3 = v at *
        have hvo := hlike.ok
        clear hws hlike hDl
        have HE1 := unveil HE
        have hh1 := veil h1
        clear HE h1
        go_upto_region 12 with (go_at_call 40; refine HE1.mono ?_; rintro x V6 ⟨rfl, b6⟩; clear HE1 y0 y1 y2 y3)
        obtain ⟨W6, hW6, e6, d6⟩ := Eb.new V6 v
        rw [← hW6]
        have M6 := (unveil HM).next (Below.next b6 d6)
        obtain ⟨Re, hRe⟩ : ∃ R, R = V6.heap.size := ⟨_, rfl⟩
        rw [← hRe] at e6 ⊢
        clear hW6 hRe b6 d6
        obtain ⟨ev0, ev1, ev2, ev3, ev4, ev5⟩ := e6.cells
        have HSr := veil (serve_src (unveil HS) (by omega) aS cS v W6 M6.s.i hvo)
        obtain ⟨sb0, sb1, sb2, sb3, sb4, sb5⟩ := M6.s.b.cells
        have HM6 := veil M6
        clear M6 e6
        by_cases hk4 : v.k = 4
        · have hkb : (v.k != 4) = false := by simpa using hk4
          go_wp2
          go_meet
          exact ⟨n + 1, S, aS, cS, es, by go_num, by omega, unveil HM6, veil ⟨⟨(unveil HS).r, (unveil HS).e, (unveil HS).es_, (unveil HS).ok, by have := (unveil HS).len; omega⟩, (unveil HH).1, hl⟩⟩
        · have hkb : (v.k != 4) = true := by simpa using hk4
          have HC := unveil HSr hk4
          clear HSr
          go_upto_region 15 with (go_at_call 41; refine HC.mono ?_; rintro x V7 ⟨a7, c7, an7, ch7, S7, es7, rfl, hS7, hl7, hr7, i7, u7, b7⟩; clear hr7 HC ev0 ev1 ev2 ev3 ev4 ev5 sb0 sb1 sb2 sb3 sb4 sb5)
          obtain ⟨W7, hW7, K7, A7, d7⟩ := Kb.new2 an7.c an7.he an7.no an7.bd i7 (unveil HM6).s.bel b7
          rw [← hW7]
          have M7 := (unveil HM6).next (Below.next b7 d7)
          have fr7 := (unveil HM6).fresh (n := S7.es.length) u7
          obtain ⟨R7, hR7⟩ : ∃ R, R = V7.heap.size := ⟨_, rfl⟩
          rw [← hR7] at K7 ⊢
          have hR7s : Rs < R7 := by rw [hR7]; exact Nat.lt_of_lt_of_le (unveil HM6).s.b.lt b7.size
          obtain ⟨nb0, nb1, nb2, nb3, nb4, nb5⟩ := K7.b.cells
          obtain ⟨sb0, sb1, sb2, sb3, sb4, sb5⟩ := M7.s.b.cells
          have sf := M7.s.b.free
          have HM8 := veil (M7.putS K7.i fr7)
          have HS7 := veil hS7
          have HL7 := veil hl7
          clear hW7 hR7 i7 u7 b7 d7 M7 K7 A7 fr7 HM6 hS7 hl7
          go_wp2
          go_meet
          obtain ⟨l7, hl7⟩ := unveil HL7
          exact ⟨n + 1, S7, a7, c7, es7, by go_num, by omega, unveil HM8, veil ⟨unveil HS7, by rw [hl7, List.take_append_of_le_length hl]; exact (unveil HH).1, by rw [hl7]; simp; omega⟩⟩
      case rest =>
        clear HM HS HCB
        obtain ⟨n', S', aS', cS', es', rfl, hn', M, HQ⟩ := hcut
        obtain ⟨W, hWw⟩ : ∃ W, W = wc := ⟨_, rfl⟩
        subst hWw
        obtain ⟨hSr, hHe, hhl⟩ := unveil HQ
        have hlH := (unveil HH).2
        have hkl : H.length ≤ es'.length := by omega
        have hle' := hSr.len
        obtain ⟨s', ans', htl⟩ := hSr.tells
        obtain ⟨N, hN, hSN, hN3⟩ := hSr.caught H.length hkl
        have hPt := hSN.part H.length hkl
        obtain ⟨C, hC⟩ : ∃ C, C = (es'.drop H.length).take 3 := ⟨_, rfl⟩
        obtain ⟨lt, hlt⟩ : ∃ lt, lt = decide (N.r = 3 ∧ es'.length ≤ H.length + 3) := ⟨_, rfl⟩
        rw [← hC, ← hlt] at hPt
        have hHt : H = es'.take H.length := by rw [hlH]; exact hHe
        have hSe := hSr.e
        obtain ⟨U, hU, hU2, hUr, HPn⟩ : ∃ U : Bt, importOf (Bt.imp (E + 1) 1 H) (S'.e + 1) H.length C lt = (U, 0) ∧ (importOf U (S'.e + 1) H.length C lt = if lt then (Bt.zero, 7) else (U, 0)) ∧ (U.r = if lt then 1 else 4) ∧ Hid (MvP N U E es' n' (i + 1)) := by
          rw [hSe]
          cases hltb : lt with
          | false =>
            have tp := take_part (E := E + 1) htl (by omega) (by omega) (by omega) H.length hkl
            rw [← hHt, ← hC] at tp
            refine ⟨Bt.imp (E + 1) 1 (es'.take (H.length + 3)), tp.1, by rw [tp.2]; rfl, rfl, veil ?_⟩
            have hno : ¬ (N.r = 3 ∧ es'.length ≤ H.length + 3) := fun h0 => by rw [decide_eq_true h0, hltb] at hlt; cases hlt
            have hlt2 : H.length < es'.length := by
              rcases Nat.lt_or_ge H.length es'.length with h0 | h0
              · exact h0
              · exact absurd ⟨hN3 (by omega), by omega⟩ hno
            refine .going (min (H.length + 3) es'.length) hSN ?_ (by omega) (by omega)
            congr 1
            rcases Nat.lt_or_ge es'.length (H.length + 3) with h0 | h0
            · rw [Nat.min_eq_right (by omega), List.take_length, List.take_of_length_le (by omega)]
            · rw [Nat.min_eq_left h0]
          | true =>
            have hyes : N.r = 3 ∧ es'.length ≤ H.length + 3 := of_decide_eq_true (by rw [← hlt]; exact hltb)
            have tl := take_last (E := E + 1) htl (by omega) (by omega) (by omega) H.length hkl hyes.2
            rw [← hHt, ← hC] at tl
            refine ⟨Bt.act (E + 1) (es' ++ [Ev.brk]), tl.1, ?_, rfl, veil (.there hSN hyes.1 rfl (by omega))⟩
            rw [import_none tl.2 (by show ¬ (1 : Int) = 4; decide)]
            rfl
        have hwS : IntKind.i64.wrap (S'.e + 1) = S'.e + 1 := by rw [hSe, IntKind.wrap_i64]; omega
        have HU := veil (And.intro hU (And.intro hU2 hUr))
        have HPt := veil hPt
        have HCg := bt_out (bcaught_any S' aS' cS' H.length W M.s.i) hN
        clear hU hU2 hUr hPt hC hlt hHt hHe hhl hlH hN3 htl hSN hN hSe HQ hSr
        obtain ⟨tb0, tb1, tb2, tb3, tb4, tb5⟩ := M.t.b.cells
        obtain ⟨sb0, sb1, sb2, sb3, sb4, sb5⟩ := M.s.b.cells
        have HM1 := veil M
        clear M
        have hk50 : H.length ≤ 50 := by omega
        go_upto_region 20 with (go_at_call 21; refine HCg.mono ?_; rintro x V8 ⟨a8, c8, rfl, i8, u8, b8⟩; clear HCg tb0 tb1 tb2 tb3 tb4 tb5 sb0 sb1 sb2 sb3 sb4 sb5)
        obtain ⟨W8, hW8, K8, d8⟩ := Kb.new i8 (unveil HM1).s.bel b8
        rw [← hW8]
        have HF8 := veil ((unveil HM1).fresh (n := N.es.length) u8)
        have M8 := (unveil HM1).next (Below.next b8 d8)
        obtain ⟨Rn, hRn⟩ : ∃ R, R = V8.heap.size := ⟨_, rfl⟩
        rw [← hRn] at K8 ⊢
        clear hW8 hRn i8 u8 b8 d8 HM1
        have HPr := bpart_any N a8 c8 H.length W8 K8.i
        rw [unveil HPt] at HPr
        obtain ⟨nb0, nb1, nb2, nb3, nb4, nb5⟩ := K8.b.cells
        have HK8 := veil K8
        have HM8 := veil M8
        clear K8 M8 HPt
        go_upto_region 21 with (go_at_call 48; refine HPr.mono ?_; rintro x V9 ⟨a9, c9, n9, l9, lt9, er9, rfl, hn9, e9, po, b9⟩; clear HPr nb0 nb1 nb2 nb3 nb4 nb5; simp only [Prod.mk.injEq] at e9; obtain ⟨rfl, rfl, rfl⟩ := e9; subst hn9)
        have M9 := (unveil HM8).next b9
        have K9 := (unveil HK8).next b9
        have HIm := bt_out (bimport_any (Bt.imp (E + 1) 1 H) aT cT (S'.e + 1) H.length C a9 C.length c9 lt V9 M9.t.i po.row rfl po.cap po.nil) (unveil HU).1
        obtain ⟨tb0, tb1, tb2, tb3, tb4, tb5⟩ := M9.t.b.cells
        obtain ⟨sb0, sb1, sb2, sb3, sb4, sb5⟩ := M9.s.b.cells
        have HM9 := veil M9
        have HK9 := veil K9
        have HPo := veil po
        clear M9 K9 po HM8 HK8 b9
        go_upto_region 22 with (go_at_call 49; refine HIm.mono ?_; rintro x V10 ⟨a10, c10, rfl, i10, u10, b10⟩; clear HIm tb0 tb1 tb2 tb3 tb4 tb5 sb0 sb1 sb2 sb3 sb4 sb5)
        obtain ⟨W10, hW10, K10, d10⟩ := Kb.new i10 (unveil HM9).s.bel b10
        rw [← hW10]
        have HFU := veil ((unveil HM9).fresh (n := U.es.length) u10)
        have b910 := Below.next b10 d10
        have HM10 := veil ((unveil HM9).next b910)
        have HN10 := veil ((unveil HK9).next b910)
        have HP10 := veil ((unveil HPo).row.below b910)
        have hPc := (unveil HPo).cap
        have hPn := (unveil HPo).nil
        obtain ⟨Ru, hRu⟩ : ∃ R, R = V10.heap.size := ⟨_, rfl⟩
        rw [← hRu] at K10 ⊢
        have HRu : Hid (Rs < Ru) := veil (by rw [hRu]; exact Nat.lt_of_lt_of_le (unveil HM9).s.b.lt b10.size)
        have HU10 := veil K10
        clear hW10 hRu i10 u10 b10 d10 b910 K10 HM9 HK9 HPo
        by_cases hi3 : i < len2
        case neg =>
          obtain ⟨WX, hWX⟩ : ∃ W, W = W10 := ⟨_, rfl⟩
          subst hWX
          have HM2 := HM10
          have HN2 := HN10
          have HU2 := HU10
          go_upto_region 28 with fail
          obtain ⟨nb0, nb1, nb2, nb3, nb4, nb5⟩ := (unveil HN2).b.cells
          obtain ⟨sb0, sb1, sb2, sb3, sb4, sb5⟩ := (unveil HM2).s.b.cells
          have sf := (unveil HM2).s.b.free
          go_upto_region 29 with fail
          clear nb0 nb1 nb2 nb3 nb4 nb5 sb0 sb1 sb2 sb3 sb4 sb5 sf
          have MS := (unveil HM2).putS (unveil HN2).i (unveil HF8)
          have US := (unveil HU2).turned (bBlock.turn WX Rs N.r N.e N.f N.t N.o a8 N.es.length c8) (by have := unveil HRu; omega) (fun x hx h0 => unveil HFU Rs (by simp) x hx h0) (unveil HM2).s.up
          obtain ⟨WS, hWS⟩ : ∃ W, W = (((((WX.setCell ⟨Rs, 0, none⟩ (.int .i64 N.r)).setCell ⟨Rs, 1, none⟩ (.int .i64 N.e)).setCell ⟨Rs, 2, none⟩ (.int .i64 N.f)).setCell ⟨Rs, 3, none⟩ (.int .i64 N.t)).setCell ⟨Rs, 4, none⟩ (.int .i64 N.o)).setCell ⟨Rs, 5, none⟩ (.slice a8 N.es.length c8) := ⟨_, rfl⟩
          rw [← hWS] at ⊢
          have hWS' : WS = bStore WX Rs N.r N.e N.f N.t N.o a8 N.es.length c8 := hWS
          rw [← hWS'] at MS US
          clear hWS hWS'
          obtain ⟨nb0, nb1, nb2, nb3, nb4, nb5⟩ := US.b.cells
          obtain ⟨sb0, sb1, sb2, sb3, sb4, sb5⟩ := MS.t.b.cells
          have sf := MS.t.b.free
          have HMT := veil (MS.putT US.i (unveil HFU))
          clear MS US
          go_wp2
          go_roundw
          case rel => exact ⟨n', i + 1, N, U, a8, c8, a10, c10, es', rfl, by go_num, hn', unveil HMT, HPn⟩
          case measure => simp [intOf]; omega
        obtain ⟨bt, ot, ha2, hbt, hct⟩ := (h2.below (unveil HM10).s.bel).cell i hi3
        subst ha2
        cases hf2 : f2 i with
        | false =>
          rw [hf2] at hct
          obtain ⟨WX, hWX⟩ : ∃ W, W = W10 := ⟨_, rfl⟩
          subst hWX
          have HM2 := HM10
          have HN2 := HN10
          have HU2 := HU10
          go_upto_region 28 with fail
          obtain ⟨nb0, nb1, nb2, nb3, nb4, nb5⟩ := (unveil HN2).b.cells
          obtain ⟨sb0, sb1, sb2, sb3, sb4, sb5⟩ := (unveil HM2).s.b.cells
          have sf := (unveil HM2).s.b.free
          go_upto_region 29 with fail
          clear nb0 nb1 nb2 nb3 nb4 nb5 sb0 sb1 sb2 sb3 sb4 sb5 sf
          have MS := (unveil HM2).putS (unveil HN2).i (unveil HF8)
          have US := (unveil HU2).turned (bBlock.turn WX Rs N.r N.e N.f N.t N.o a8 N.es.length c8) (by have := unveil HRu; omega) (fun x hx h0 => unveil HFU Rs (by simp) x hx h0) (unveil HM2).s.up
          obtain ⟨WS, hWS⟩ : ∃ W, W = (((((WX.setCell ⟨Rs, 0, none⟩ (.int .i64 N.r)).setCell ⟨Rs, 1, none⟩ (.int .i64 N.e)).setCell ⟨Rs, 2, none⟩ (.int .i64 N.f)).setCell ⟨Rs, 3, none⟩ (.int .i64 N.t)).setCell ⟨Rs, 4, none⟩ (.int .i64 N.o)).setCell ⟨Rs, 5, none⟩ (.slice a8 N.es.length c8) := ⟨_, rfl⟩
          rw [← hWS] at ⊢
          have hWS' : WS = bStore WX Rs N.r N.e N.f N.t N.o a8 N.es.length c8 := hWS
          rw [← hWS'] at MS US
          clear hWS hWS'
          obtain ⟨nb0, nb1, nb2, nb3, nb4, nb5⟩ := US.b.cells
          obtain ⟨sb0, sb1, sb2, sb3, sb4, sb5⟩ := MS.t.b.cells
          have sf := MS.t.b.free
          have HMT := veil (MS.putT US.i (unveil HFU))
          clear MS US
          go_wp2
          go_roundw
          case rel => exact ⟨n', i + 1, N, U, a8, c8, a10, c10, es', rfl, by go_num, hn', unveil HMT, HPn⟩
          case measure => simp [intOf]; omega
        | true =>
          rw [hf2] at hct
          have HIm := bimport_any U a10 c10 (S'.e + 1) H.length C a9 C.length c9 lt W10 (unveil HU10).i (unveil HP10) rfl hPc hPn
          obtain ⟨ub0, ub1, ub2, ub3, ub4, ub5⟩ := (unveil HU10).b.cells
          obtain ⟨sb0, sb1, sb2, sb3, sb4, sb5⟩ := (unveil HM10).s.b.cells
          cases lt with
          | false =>
            have HImF := bt_out HIm (B2 := U) (er2 := 0) (by have := (unveil HU).2.1; simpa using this)
            clear HIm
            go_upto_region 26 with (go_at_call 49; refine HImF.mono ?_; rintro x V11 ⟨a11, c11, rfl, i11, u11, b11⟩; clear HImF ub0 ub1 ub2 ub3 ub4 ub5 sb0 sb1 sb2 sb3 sb4 sb5 hct)
            obtain ⟨W11, hW11, K11, d11⟩ := Kb.new i11 (unveil HM10).s.bel b11
            rw [← hW11]
            have b1011 := Below.next b11 d11
            have HM11 := veil ((unveil HM10).next b1011)
            have HN11 := veil ((unveil HN10).next b1011)
            have U11 := (unveil HU10).next b1011
            obtain ⟨Rv, hRv⟩ : ∃ R, R = V11.heap.size := ⟨_, rfl⟩
            rw [← hRv] at K11 ⊢
            clear hW11 hRv i11 u11 b11 d11 b1011
            have hr4 : U.r = 4 := by have := (unveil HU).2.2; simpa using this
            have HSm := sameEventsK_below a11 a10 U.es.length c11 c10 (evFlat U.es) W11 K11.i.row U11.i.row (by
              have := (unveil HU10).i.row.len_eq
              have hok : U.es.length ≤ 60 := by
                cases unveil HPn with
                | going h' hs' ht' hi' hl' => rw [ht']; show (List.take h' es').length ≤ 60; rw [List.length_take]; omega
                | there hs' hr' ht' hi' => rw [ht'] at hr4; exact absurd hr4 (by show ¬ (1 : Int) = 4; decide)
              omega)
            obtain ⟨vb0, vb1, vb2, vb3, vb4, vb5⟩ := K11.b.cells
            obtain ⟨ub0, ub1, ub2, ub3, ub4, ub5⟩ := U11.b.cells
            rw [hr4] at ub0
            have HU11 := veil U11
            have Hr4 := veil hr4
            clear K11 U11 HM10 HN10 HU10 hr4
            go_upto_region 28 with (go_at_call 26; refine HSm.mono ?_; rintro x WX ⟨rfl, b12⟩; clear HSm vb0 vb1 vb2 vb3 vb4 vb5 ub0 ub1 ub2 ub3 ub4 ub5; have HM2 := veil ((unveil HM11).next b12); have HN2 := veil ((unveil HN11).next b12); have HU2 := veil ((unveil HU11).next b12); obtain ⟨ub0, ub1, ub2, ub3, ub4, ub5⟩ := (unveil HU2).b.cells; rw [unveil Hr4] at ub0; clear b12 HM11 HN11 HU11)
            clear ub0 ub1 ub2 ub3 ub4 ub5
            obtain ⟨nb0, nb1, nb2, nb3, nb4, nb5⟩ := (unveil HN2).b.cells
            obtain ⟨sb0, sb1, sb2, sb3, sb4, sb5⟩ := (unveil HM2).s.b.cells
            have sf := (unveil HM2).s.b.free
            go_upto_region 29 with fail
            clear nb0 nb1 nb2 nb3 nb4 nb5 sb0 sb1 sb2 sb3 sb4 sb5 sf
            have MS := (unveil HM2).putS (unveil HN2).i (unveil HF8)
            have US := (unveil HU2).turned (bBlock.turn WX Rs N.r N.e N.f N.t N.o a8 N.es.length c8) (by have := unveil HRu; omega) (fun x hx h0 => unveil HFU Rs (by simp) x hx h0) (unveil HM2).s.up
            obtain ⟨WS, hWS⟩ : ∃ W, W = (((((WX.setCell ⟨Rs, 0, none⟩ (.int .i64 N.r)).setCell ⟨Rs, 1, none⟩ (.int .i64 N.e)).setCell ⟨Rs, 2, none⟩ (.int .i64 N.f)).setCell ⟨Rs, 3, none⟩ (.int .i64 N.t)).setCell ⟨Rs, 4, none⟩ (.int .i64 N.o)).setCell ⟨Rs, 5, none⟩ (.slice a8 N.es.length c8) := ⟨_, rfl⟩
            rw [← hWS] at ⊢
            have hWS' : WS = bStore WX Rs N.r N.e N.f N.t N.o a8 N.es.length c8 := hWS
            rw [← hWS'] at MS US
            clear hWS hWS'
            obtain ⟨nb0, nb1, nb2, nb3, nb4, nb5⟩ := US.b.cells
            obtain ⟨sb0, sb1, sb2, sb3, sb4, sb5⟩ := MS.t.b.cells
            have sf := MS.t.b.free
            have HMT := veil (MS.putT US.i (unveil HFU))
            clear MS US
            go_wp2
            go_roundw
            case rel => exact ⟨n', i + 1, N, U, a8, c8, a10, c10, es', rfl, by go_num, hn', unveil HMT, HPn⟩
            case measure => simp [intOf]; omega
          | true =>
            have HImT := bt_out HIm (B2 := Bt.zero) (er2 := 7) (by have := (unveil HU).2.1; simpa using this)
            clear HIm
            go_upto_region 26 with (go_at_call 49; refine HImT.mono ?_; rintro x V11 ⟨a11, c11, rfl, i11, u11, b11⟩; clear HImT ub0 ub1 ub2 ub3 ub4 ub5 sb0 sb1 sb2 sb3 sb4 sb5 hct)
            obtain ⟨WX, hWX, K11, d11⟩ := Kb.new i11 (unveil HM10).s.bel b11
            first | rw [← hWX] | (have hWX' : WX = V11.alloc (.cells (bCells 0 0 0 0 0 a11 0 c11) 24) := hWX; rw [← hWX'])
            have b1011 := Below.next b11 d11
            have HM2 := veil ((unveil HM10).next b1011)
            have HN2 := veil ((unveil HN10).next b1011)
            have HU2 := veil ((unveil HU10).next b1011)
            have hr1 : U.r = 1 := by have := (unveil HU).2.2; simpa using this
            obtain ⟨ub0, ub1, ub2, ub3, ub4, ub5⟩ := (unveil HU2).b.cells
            rw [hr1] at ub0
            clear hWX i11 u11 b11 d11 b1011 K11 HM10 HN10 HU10 hr1
            go_upto_region 28 with fail
            clear ub0 ub1 ub2 ub3 ub4 ub5
            obtain ⟨nb0, nb1, nb2, nb3, nb4, nb5⟩ := (unveil HN2).b.cells
            obtain ⟨sb0, sb1, sb2, sb3, sb4, sb5⟩ := (unveil HM2).s.b.cells
            have sf := (unveil HM2).s.b.free
            go_upto_region 29 with fail
            clear nb0 nb1 nb2 nb3 nb4 nb5 sb0 sb1 sb2 sb3 sb4 sb5 sf
            have MS := (unveil HM2).putS (unveil HN2).i (unveil HF8)
            have US := (unveil HU2).turned (bBlock.turn WX Rs N.r N.e N.f N.t N.o a8 N.es.length c8) (by have := unveil HRu; omega) (fun x hx h0 => unveil HFU Rs (by simp) x hx h0) (unveil HM2).s.up
            obtain ⟨WS, hWS⟩ : ∃ W, W = (((((WX.setCell ⟨Rs, 0, none⟩ (.int .i64 N.r)).setCell ⟨Rs, 1, none⟩ (.int .i64 N.e)).setCell ⟨Rs, 2, none⟩ (.int .i64 N.f)).setCell ⟨Rs, 3, none⟩ (.int .i64 N.t)).setCell ⟨Rs, 4, none⟩ (.int .i64 N.o)).setCell ⟨Rs, 5, none⟩ (.slice a8 N.es.length c8) := ⟨_, rfl⟩
            rw [← hWS] at ⊢
            have hWS' : WS = bStore WX Rs N.r N.e N.f N.t N.o a8 N.es.length c8 := hWS
            rw [← hWS'] at MS US
            clear hWS hWS'
            obtain ⟨nb0, nb1, nb2, nb3, nb4, nb5⟩ := US.b.cells
            obtain ⟨sb0, sb1, sb2, sb3, sb4, sb5⟩ := MS.t.b.cells
            have sf := MS.t.b.free
            have HMT := veil (MS.putT US.i (unveil HFU))
            clear MS US
            go_wp2
            go_roundw
            case rel => exact ⟨n', i + 1, N, U, a8, c8, a10, c10, es', rfl, by go_num, hn', unveil HMT, HPn⟩
            case measure => simp [intOf]; omega
end Go.Proofs.YtcdopnkabbfooaaGreat
