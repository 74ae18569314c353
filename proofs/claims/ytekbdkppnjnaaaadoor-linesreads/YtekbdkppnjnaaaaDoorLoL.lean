/- Walk of LinesBack: acts are read as they were shown. -/
import Derived.Test.YtekbdkppnjnaaaaDoorLoK
import Derived.Test.YtekbdkppnjnaaaaDoorLoH
namespace Go.Proofs.YtekbdkppnjnaaaaDoor
open Go.RowKit

theorem indexByte_hit {c : UInt8} : ∀ {a : List UInt8} {b : List UInt8}, c ∉ a → Lib.indexByte (a ++ c :: b) c = a.length
  | [], b, _ => by simp [Lib.indexByte]
  | x :: a, b, h => by
    have h1 : ¬ x = c := fun e => h (e ▸ List.mem_cons_self ..)
    have h2 := indexByte_hit (a := a) (b := b) (fun e => h (List.mem_cons_of_mem _ e))
    have h3 : ¬ ((a.length : Int) = -1) := by omega
    simp [Lib.indexByte, h1, h2, h3]
theorem lines_cons {l r : List UInt8} (h : (10 : UInt8) ∉ l) : linesOf (l ++ [10] ++ r) = (l ++ [10]) :: linesOf r := by
  have e : lineEnd (l ++ [10] ++ r) = l.length + 1 := by
    unfold lineEnd
    rw [List.append_assoc, List.singleton_append, indexByte_hit h, if_neg (by omega)]
    omega
  rw [linesOf_cons (by simp), e, List.take_left' (by simp), List.drop_left' (by simp)]
theorem lines_flat : ∀ (ls : List (List UInt8)) (r : List UInt8), (∀ l ∈ ls, (10 : UInt8) ∉ l) → linesOf ((ls.map (· ++ [10])).flatten ++ r) = ls.map (· ++ [10]) ++ linesOf r
  | [], _, _ => rfl
  | l :: ls, r, h => by
    rw [List.map_cons, List.flatten_cons, List.append_assoc, lines_cons (h l (List.mem_cons_self ..)), lines_flat ls r (fun x hx => h x (List.mem_cons_of_mem _ hx))]
    rfl
theorem show_flat (E : List Int) : ∀ n, showL E n = (((List.range n).map fun i => lineL (actAt E i)).map (· ++ [10])).flatten
  | 0 => rfl
  | n + 1 => by
    rw [List.range_succ, List.map_append, List.map_append, List.flatten_append, ← show_flat E n]
    simp [showL]
theorem lines_show {E : List Int} {n : Nat} (h : Acts E n) (r : List UInt8) : linesOf (showL E n ++ r) = ((List.range n).map fun i => lineL (actAt E i) ++ [10]) ++ linesOf r := by
  rw [show_flat, lines_flat _ _ (fun l hl => by
    obtain ⟨i, hi, rfl⟩ := List.mem_map.1 hl
    exact (line_no (h.2 i (List.mem_range.1 hi))).1)]
  rw [List.map_map]
  rfl
theorem flat_ext {D E : List Int} {n : Nat} (hD : D.length = 11 * n) (hE : E.length = 11 * n) (h : ∀ i, i < n → ∀ o, o < 11 → actAt D i o = actAt E i o) : D = E := by
  refine List.ext_getElem (by omega) fun k h1 h2 => ?_
  have := h (k / 11) (by omega) (k % 11) (by omega)
  unfold actAt at this
  rw [show 11 * (k / 11) + k % 11 = k by omega] at this
  simpa [h1, h2] using this
theorem read_shown {E D : List Int} {n n' : Nat} {p er : Int} (hE : Acts E n) (hn : n ≤ 60) (h : ReadR (showL E n) D n' p er) : D = E ∧ n' = n ∧ p = 0 ∧ er = 0 := by
  have hl := showL_len (k := n) hE.2
  have hls : linesOf (showL E n) = (List.range n).map fun i => lineL (actAt E i) ++ [10] := by
    have := lines_show hE []
    rwa [List.append_nil, linesOf_nil, List.append_nil] at this
  have hlen : (linesOf (showL E n)).length = n := by rw [hls]; simp
  have hat : ∀ i s, (linesOf (showL E n))[i]? = some s → i < n ∧ IsLine s (actAt E i) := fun i s hs => by
    have hi : i < n := by have := (List.getElem?_eq_some_iff.1 hs).1; omega
    rw [hls] at hs
    refine ⟨hi, hE.2 i hi, ?_⟩
    simpa [hi] using hs.symm
  cases h with
  | size h => omega
  | full h h1 hg => omega
  | form h k s hk h1 hg hb => exact absurd (hat k s hk).2 (hb _)
  | good h D h1 hD hg =>
    refine ⟨flat_ext (n := n) (by rw [hD, hlen]) hE.1 (fun i hi => ?_), hlen, rfl, rfl⟩
    have hs : (linesOf (showL E n))[i]? = some ((linesOf (showL E n))[i]'(by omega)) := List.getElem?_eq_getElem (by omega)
    exact (hg i _ hs).uniq (hat i _ hs).2
set_option maxRecDepth 20000 in
set_option maxHeartbeats 4000000 in
theorem walk_LinesBack (w : World) (hL : LaidR w) (a : Option Addr) (len cap : Nat) (D : List Int) (h : RowK .i64 w a (5 * len) D) (_ : len ≤ cap) (_ : a = none → cap = 0) (_ : cap * 40 ≤ 140737488351232) :
    Calls Tryd.prog 7 #[.slice a len cap] w fun x w' => x = .returned (.bool true) ∧ Below w.heap.size w w' := by
  have H1 := feats_any a len cap D w h 50 (by omega)
  have HS : Hid (∀ u a n c E, Below w.heap.size w u → RowK .i64 u a (11 * n) E → n ≤ 50 → Acts E n → Calls Tryd.prog 13 #[.slice a n c] u fun x w' => x = .returned (.tuple #[.string (str (showL E n)), .int .i64 0, .int .i64 0]) ∧ Below u.heap.size u w') := veil fun u a n c E b h hn hE => by
    refine (show_any a n c E u (hL.l.next b) h (by omega)).mono ?_
    rintro x w' ⟨s, c, e, rfl, r, b'⟩
    obtain ⟨rfl, rfl, rfl⟩ := r.det (.good (by omega) hE.2)
    exact ⟨rfl, b'⟩
  have HR : Hid (∀ u E n, Below w.heap.size w u → n ≤ 50 → Acts E n → Calls Tryd.prog 16 #[.string (str (showL E n))] u fun x w' => ∃ v, x = .returned (.tuple #[v, .int .i64 0, .int .i64 0]) ∧ w'.ownsRow u.heap.size 27 11 v n (E.map (Value.int .i64)) ∧ Below u.heap.size u w') := veil fun u E n b hn hE => by
    refine (read_full (showL E n) u (hL.next b)).mono ?_
    rintro x w' ⟨v, D, n', p, er, rfl, r, o, b'⟩
    obtain ⟨rfl, rfl, rfl, rfl⟩ := read_shown hE (by omega) r
    exact ⟨v, rfl, o, b'⟩
  have HC : Hid (∀ u a n c E, Below w.heap.size w u → RowK .i64 u a (11 * n) E → n ≤ 50 → Acts E n → Calls Tryd.prog 18 #[.slice a n c] u fun x w' => x = .returned (.tuple #[.int .i64 (cntC E n), .int .i64 0]) ∧ Below u.heap.size u w') := veil fun u a n c E b h hn hE => by
    refine (calls_any a n c E u (hL.next b).l.k h (by omega)).mono ?_
    rintro x w' ⟨c, e, rfl, r, b'⟩
    obtain ⟨rfl, rfl⟩ := r.det (.good hE.2)
    exact ⟨rfl, b'⟩
  clear hL h
  go_enter Tryd.func7, Tryd.ntmps7
  go_upto_region 2 with (go_at_call 20; refine H1.mono ?_; rintro x V1 ⟨v, E, n, rfl, hn, hE, o1, b1⟩; clear H1)
  obtain ⟨a1, c1, rfl, r1, _⟩ := RowK.ofMany o1 (acts_wf hE.1 hE.2)
  have H2 := unveil HS V1 a1 n c1 E b1 r1 hn hE
  clear HS o1
  go_upto_region 3 with (go_at_call 13; refine H2.mono ?_; rintro x V2 ⟨rfl, b2⟩; clear H2)
  have B2 := Below.next b1 b2
  have r2 := r1.below b2
  have H3 := unveil HR V2 E n B2 hn hE
  clear HR b1 b2 r1
  go_upto_region 4 with (go_at_call 16; refine H3.mono ?_; rintro x V3 ⟨v3, rfl, o3, b3⟩; clear H3)
  have B3 := Below.next B2 b3
  have r3 := r2.below b3
  obtain ⟨a3, c3, rfl, q3, _⟩ := RowK.ofMany o3 (acts_wf hE.1 hE.2)
  have H4 := unveil HC V3 a1 n c1 E B3 r3 hn hE
  clear HC B2 r2 b3 o3
  have HH : Hid (∀ u, Below V3.heap.size V3 u → RowK .i64 u a1 (11 * n) E ∧ RowK .i64 u a3 (11 * n) E ∧ Below w.heap.size w u) := veil fun u b => ⟨r3.below b, q3.below b, Below.next B3 b⟩
  clear r3 q3 B3 hE
  generalize str (showL E n) = S at *
  have ee : ((n : Int) == (n : Int)) = true := by simp
  go_wp2_with (go_at_call 18; refine H4.mono ?_; rintro x V4 ⟨rfl, b4⟩; clear H4; have HV := veil (unveil HH V4 b4); clear HH)
  obtain ⟨h1, h3, hb⟩ := unveil HV
  clear HV b4
  go_loopw [12, 13] (fun cv t wr => ∃ k m : Nat, k ≤ n ∧ t = .int .i64 k ∧ cv = .int .i64 (cntC E k) ∧ wr = V4.drewN m) (fun _ t _ => n - (intOf t).toNat)
  case atStart => exact ⟨0, 0, Nat.zero_le _, rfl, rfl, rfl⟩
  case round =>
    obtain ⟨k, m, hk, rfl, rfl, rfl⟩ := hrel
    by_cases hlt : k < n
    · obtain ⟨b, off, rfl⟩ := h1.form (by omega)
      obtain ⟨b', off', rfl⟩ := h3.form (by omega)
      obtain ⟨x0, x1, x2, x3, x4, x5, x6, x7, x8, x9, x10⟩ := row_act h1 k hlt
      obtain ⟨y0, y1, y2, y3, y4, y5, y6, y7, y8, y9, y10⟩ := row_act h3 k hlt
      have HS : Hid (cntC E (k + 1) = cntC E k + if actAt E k 0 = 2 then 1 else 0) := veil rfl
      have hcl := cntC_le E k
      generalize actAt E k = f at *
      generalize f 0 = p0 at x0 y0 HS
      generalize f 1 = p1 at x1 y1
      generalize f 2 = p2 at x2 y2
      generalize f 3 = p3 at x3 y3
      generalize f 4 = p4 at x4 y4
      generalize f 5 = p5 at x5 y5
      generalize f 6 = p6 at x6 y6
      generalize f 7 = p7 at x7 y7
      generalize f 8 = p8 at x8 y8
      generalize f 9 = p9 at x9 y9
      generalize f 10 = p10 at x10 y10
      have HX : Hid (∀ q, (V4.drewN q).cell? ⟨b, off + k * 11, none⟩ = some (.int .i64 p0)) := veil fun q => x0
      generalize cntC E k = q0 at *
      clear h1 h3 f
      have hki : (k : Int) < (n : Int) := by omega
      go_wp2_with fail
      go_quiet (fail)
      clear x0 x1 x2 x3 x4 x5 x6 x7 x8 x9 x10 y0 y1 y2 y3 y4 y5 y6 y7 y8 y9 y10
      have hdr : (V4.drewN m).drewN nq = V4.drewN (m + nq) := by first | exact (World.drewN_add _ _ _).symm | exact World.drewN_add _ _ _ | exact World.drewN_drewN _ _ _ | rfl | simp
      rw [hdr]
      have x0 := unveil HX (m + nq)
      by_cases hp : p0 = 2
      · subst hp
        go_wp2
        go_roundw
        case rel => exact ⟨k + 1, m + nq, by omega, by go_num, by rw [unveil HS]; simp, rfl⟩
        case measure => simp [intOf]; omega
      · go_wp2
        go_roundw
        case rel => exact ⟨k + 1, m + nq, by omega, by go_num, by rw [unveil HS, if_neg hp]; simp, rfl⟩
        case measure => simp [intOf]; omega
    · have hk' : k = n := by omega
      subst hk'
      have eq : ((cntC E k : Int) == (cntC E k : Int)) = true := by simp
      go_wp2
      go_ret
      exact ⟨by simp, hb.trans ⟨rfl, rfl, rfl, Nat.le_refl _, fun _ _ => rfl⟩⟩
end Go.Proofs.YtekbdkppnjnaaaaDoor
