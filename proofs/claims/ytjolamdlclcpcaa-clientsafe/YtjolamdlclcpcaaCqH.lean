/- Walks of client.Done, New. -/
import Derived.Test.YtjolamdlclcpcaaCqG
namespace Go.Proofs.Ytjolamdlclcpcaa
open Go.RowKit

theorem ret_Done {W : World} {R : Nat} {p n : Int} {a : Option Addr} {m c : Nat} {wh : Nat → Int} {e : Int} {tmps : Array Value} (d : cBlock W R p n a m c wh) (t4 : tmps[4]? = some (.pointer (some ⟨R, 0, none⟩))) (t5 : tmps[5]? = some (.int .i64 e)) :
    (results Try.f21 tmps).run Try.prog W = .ok (.tuple #[cVal p n a m c wh, .int .i64 e]) W := by
  simp [results, Try.results21, t4, t5, asAddr, load_client d]
/-- what Done answers. -/
def DoneOut (w w' : World) (C : Cl) (id : Int) (x : Value) : Prop := ∃ D y e, x = .tuple #[y, .int .i64 e] ∧ DoneR C id D e ∧ COut w w' D y
theorem evFlat_take : ∀ (es : List Ev) (k : Nat), (evFlat es).take (6 * k) = evFlat (es.take k)
  | [], k => by simp [evFlat]
  | v :: es, 0 => by simp [evFlat]
  | v :: es, k + 1 => by
    have hl : (evCells v).length = 6 := rfl
    show (evCells v ++ evFlat es).take (6 * (k + 1)) = evCells v ++ evFlat (es.take k)
    rw [show 6 * (k + 1) = (evCells v).length + 6 * k by omega, List.take_length_add_append, evFlat_take es k]
theorem evFlat_drop6 : ∀ (es : List Ev) (k : Nat), (evFlat es).drop (6 * k) = evFlat (es.drop k)
  | [], k => by simp [evFlat]
  | v :: es, 0 => by simp [evFlat]
  | v :: es, k + 1 => by
    have hl : (evCells v).length = 6 := rfl
    show (evCells v ++ evFlat es).drop (6 * (k + 1)) = evFlat (es.drop k)
    rw [show 6 * (k + 1) = (evCells v).length + 6 * k by omega, List.drop_length_add_append, evFlat_drop6 es k]
theorem evFlat_erase (es : List Ev) (k : Nat) : (evFlat es).take (6 * k) ++ (evFlat es).drop (6 * k + 6) = evFlat (es.eraseIdx k) := by
  rw [show 6 * k + 6 = 6 * (k + 1) by omega, evFlat_take, evFlat_drop6, List.eraseIdx_eq_take_drop_succ]
  simp [evFlat]

set_option maxRecDepth 20000 in
set_option maxHeartbeats 4000000 in
theorem done_any (C : Cl) (a : Option Addr) (c : Nat) (id : Int) (w : World) (h : CIn w C a c) :
    Calls Try.prog 21 #[cVal C.p C.n a C.es.length c C.wh, .int .i64 id] w fun e w' => ∃ x, e = .returned x ∧ DoneOut w w' C id x ∧ Below w.heap.size w w' := by
  have HC : Hid (∀ W, Below w.heap.size w W → CIn W C a c) := veil fun W b => h.next b
  have hwf := h.row.wf
  clear h
  obtain ⟨W, hW, cb, zb, B0⟩ := two_cl w C.p C.n a C.es.length c C.wh
  have HC1 := ccheck_any C a c W (unveil HC W B0)
  have HB := veil (And.intro cb (And.intro zb B0))
  by_cases ok : C.Ok
  case neg =>
    rw [show clFault C = 6 from if_neg ok] at HC1
    clear HC
    go_enter Try.func21, Try.ntmps21
    go_upto_region 1 with fail
    rw [← hW]
    clear hW
    obtain ⟨c0, c1, c2, c3, c4, c5, c6⟩ := cb.cells
    clear cb zb B0
    go_wp2_with (go_at_call 13; refine HC1.mono ?_; rintro e W1 ⟨rfl, d1⟩; clear HC1 c0 c1 c2 c3 c4 c5 c6; obtain ⟨z0, z1, z2, z3, z4, z5, z6⟩ := ((unveil HB).2.1.next d1).cells; have zf := ((unveil HB).2.1.next d1).free)
    obtain ⟨W4, hW4, cb4, B4, tn4⟩ := c_stored ((unveil HB).2.1.next d1) (Below.next (unveil HB).2.2 d1) (by omega) 0 0 none 0 0 (fun _ => 0)
    rw [← hW4]
    exact bodyPost_ret (ret_Done cb4 rfl rfl) rfl ⟨_, rfl, ⟨Cl.zero, _, 6, rfl, .state ok, COut.zero _ _⟩, B4⟩
  case pos =>
  rw [show clFault C = 0 from if_pos ok] at HC1
  have HF : Hid (∀ W, Below w.heap.size w W → Calls Try.prog 41 #[cVal C.p C.n a C.es.length c C.wh, .int .i64 id] W fun e w' => e = .returned (.int .i64 (findOf id C.es)) ∧ Below W.heap.size W w') := veil fun W b => find_any C a c id W (unveil HC W b) (by have := ok.len; omega)
  have hl := ok.len
  rcases findOf_spec id C.es with ⟨e, hn⟩ | ⟨k, hk, e, hi⟩
  · rw [e] at HF
    have HN : Hid (DoneR C id Cl.zero 7) := veil (.none ok hn)
    clear HC hn e ok
    go_enter Try.func21, Try.ntmps21
    go_upto_region 1 with fail
    rw [← hW]
    clear hW
    obtain ⟨c0, c1, c2, c3, c4, c5, c6⟩ := cb.cells
    clear cb zb B0
    go_wp2_with (first
      | (go_at_call 13; refine HC1.mono ?_; rintro e W1 ⟨rfl, d1⟩; clear HC1 c0 c1 c2 c3 c4 c5 c6; obtain ⟨c0, c1, c2, c3, c4, c5, c6⟩ := ((unveil HB).1.next d1).cells)
      | (go_at_call 41; refine (unveil HF W1 (Below.next (unveil HB).2.2 d1)).mono ?_; rintro e W2 ⟨rfl, d2⟩; clear HF c0 c1 c2 c3 c4 c5 c6; obtain ⟨z0, z1, z2, z3, z4, z5, z6⟩ := (((unveil HB).2.1.next d1).next d2).cells; have zf := (((unveil HB).2.1.next d1).next d2).free))
    obtain ⟨W4, hW4, cb4, B4, tn4⟩ := c_stored (((unveil HB).2.1.next d1).next d2) (Below.next (Below.next (unveil HB).2.2 d1) d2) (by omega) 0 0 none 0 0 (fun _ => 0)
    rw [← hW4]
    exact bodyPost_ret (ret_Done cb4 rfl rfl) rfl ⟨_, rfl, ⟨Cl.zero, _, 7, rfl, unveil HN, COut.zero _ _⟩, B4⟩
  · rw [e] at HF
    have HN : Hid (DoneR C id ⟨C.p, C.n, C.es.eraseIdx k, C.wh⟩ 0) := veil (.done ok k hk hi)
    have HO : Hid (∀ W, Below w.heap.size w W → Calls Try.prog 40 #[cVal C.p C.n a C.es.length c C.wh] W fun e w' => ∃ a' c', e = .returned (cVal C.p C.n a' C.es.length c' C.wh) ∧ w'.ownsRow (W.heap.size + 2) 37 6 (.slice a' C.es.length c') C.es.length ((evFlat C.es).map (Value.int .i64)) ∧ Below W.heap.size W w') := veil fun W b => own_any C a c W (unveil HC W b)
    have HEND : Hid (∀ (W9 : World) (g c' : Nat), w.heap.size ≤ g → g < W9.heap.size → C.es.length ≤ c' → (∀ j, j < 6 * (C.es.length - 1) → W9.cell? ⟨g, j, none⟩ = some (.int .i64 (((evFlat C.es).take (6 * k) ++ (evFlat C.es).drop (6 * k + 6)).getD j 0))) → DoneOut w W9 C id (.tuple #[cVal C.p C.n (some ⟨g, 0, none⟩) (C.es.length - 1) c' C.wh, .int .i64 0])) := veil fun W9 g c' hg hg' hc hcell => by
      have hlen : (C.es.eraseIdx k).length = C.es.length - 1 := List.length_eraseIdx_of_lt hk
      refine ⟨_, _, _, rfl, unveil HN, ⟨some ⟨g, 0, none⟩, c', by rw [hlen], ⟨?_, ?_, (by intro h; cases h), ?_⟩, fun x hx => by cases hx; exact hg⟩⟩
      · show RowK .i64 W9 (some ⟨g, 0, none⟩) (6 * (C.es.eraseIdx k).length) (evFlat (C.es.eraseIdx k))
        refine ⟨evFlat_len _, fun u hu => ?_, fun i hi' => ⟨g, 0, rfl, hg', ?_⟩⟩
        · rw [← evFlat_erase] at hu
          rcases List.mem_append.1 hu with h | h
          · exact hwf u (List.mem_of_mem_take h)
          · exact hwf u (List.mem_of_mem_drop h)
        · rw [Nat.zero_add, hcell i (by rw [← hlen]; exact hi'), evFlat_erase]
      · show (C.es.eraseIdx k).length ≤ c'
        rw [hlen]; omega
      · show (C.es.eraseIdx k).length * 48 ≤ _
        rw [hlen]; omega
    clear HC e hi ok HN
    obtain ⟨p, n, es, wh⟩ := C
    simp only at *
    go_enter Try.func21, Try.ntmps21
    go_upto_region 1 with fail
    rw [← hW]
    have hsz : W.heap.size = w.heap.size + 2 := by rw [hW]; simp
    have HSZ := veil hsz
    clear hW hsz
    obtain ⟨c0, c1, c2, c3, c4, c5, c6⟩ := cb.cells
    clear cb zb B0
    go_upto_region 7 with (first
      | (go_at_call 13; refine HC1.mono ?_; rintro e W1 ⟨rfl, d1⟩; clear HC1 c0 c1 c2 c3 c4 c5 c6; obtain ⟨c0, c1, c2, c3, c4, c5, c6⟩ := ((unveil HB).1.next d1).cells)
      | (go_at_call 41; refine (unveil HF W1 (Below.next (unveil HB).2.2 d1)).mono ?_; rintro e W2 ⟨rfl, d2⟩; clear HF c0 c1 c2 c3 c4 c5 c6))
    have cb2 := ((unveil HB).1.next d1).next d2
    have zb2 := ((unveil HB).2.1.next d1).next d2
    have B2 := Below.next (Below.next (unveil HB).2.2 d1) d2
    have hs2 : w.heap.size + 2 ≤ W2.heap.size := by have := d1.size; have := d2.size; have := unveil HSZ; omega
    have HO1 := unveil HO W2 B2
    obtain ⟨c0, c1, c2, c3, c4, c5, c6⟩ := cb2.cells
    have cf := cb2.free
    have H2 := veil (And.intro cb2 (And.intro zb2 (And.intro B2 hs2)))
    clear cb2 zb2 B2 hs2 HO HB HSZ d1 d2
    go_upto_region 8 with (go_at_call 40; refine HO1.mono ?_; rintro e W3 ⟨a3, k3, rfl, o3, d3⟩; clear HO1 c0 c1 c2 c3 c4 c5 c6 cf; obtain ⟨c0, c1, c2, c3, c4, c5, c6⟩ := ((unveil H2).1.next d3).cells; have cf := ((unveil H2).1.next d3).free; have HO3 := veil o3; have HD3 := veil d3; clear o3 d3)
    obtain ⟨W4, hW4, cb4, B4, tn4⟩ := c_stored ((unveil H2).1.next (unveil HD3)) (Below.next (unveil H2).2.2.1 (unveil HD3)) (Nat.le_refl _) p n a3 es.length k3 wh
    rw [← hW4]
    have zb4 := ((unveil H2).2.1.next (unveil HD3)).turned tn4 (by omega)
    have O4 := tn4.own (unveil HO3) (by have := (unveil H2).2.2.2; omega)
    have hs2 := (unveil H2).2.2.2
    obtain ⟨g, hag, hgl, hcl⟩ : ∃ g, a3 = some ⟨g, 0, none⟩ ∧ (w.heap.size + 4 ≤ g ∧ g < W4.heap.size) ∧ es.length ≤ k3 := by
      rcases O4.2 with ⟨h0, h1⟩ | ⟨g, cap, cur, e, hg0, hg, hc, _⟩
      · omega
      · cases e
        exact ⟨g, rfl, ⟨by omega, block_lt hg⟩, hc⟩
    subst hag
    have HD : Hid (∀ z : Int, z = (k : Int) + 1 → Calls Try.prog 42 #[.slice (some ⟨g, 0, none⟩) es.length k3, .int .i64 k, .int .i64 z] W4 fun e w' => e = .returned (.slice (some ⟨g, 0, none⟩) (es.length - 1) k3) ∧ Turned g W4 w' ∧ ∀ j, j < 6 * (es.length - 1) → w'.cell? ⟨g, j, none⟩ = some (.int .i64 (((evFlat es).take (6 * k) ++ (evFlat es).drop (6 * k + 6)).getD j 0))) := veil fun z hz => by subst hz; exact delete_ev k O4 hk
    clear hW4 c0 c1 c2 c3 c4 c5 c6 cf HO3 HD3 O4
    obtain ⟨c0, c1, c2, c3, c4, c5, c6⟩ := cb4.cells
    have H4 := veil (And.intro cb4 (And.intro zb4 (And.intro B4 hgl)))
    clear cb4 zb4 B4 tn4 hgl H2
    go_upto_region 9 with (go_at_call 42; refine (unveil HD _ (by first | rfl | omega | (rw [IntKind.wrap_i64]; omega))).mono ?_; rintro e W5 ⟨rfl, tn5, hcell⟩; clear HD c0 c1 c2 c3 c4 c5 c6; have cb5 := (unveil H4).1.turned tn5 (by have := (unveil H4).2.2.2; omega); obtain ⟨c0, c1, c2, c3, c4, c5, c6⟩ := cb5.cells; have cf := cb5.free; have H5 := veil (And.intro cb5 (And.intro tn5 hcell)); clear cb5 tn5 hcell)
    obtain ⟨W6, hW6, cb6, tn6⟩ : ∃ W6, W6 = W5.setCell ⟨w.heap.size, 2, none⟩ (.slice (some ⟨g, 0, none⟩) (es.length - 1) k3) ∧ cBlock W6 w.heap.size p n (some ⟨g, 0, none⟩) (es.length - 1) k3 wh ∧ Turned w.heap.size W5 W6 :=
      ⟨_, rfl, (unveil H5).1.wait _ _ _, Turned.set _ _ _ _⟩
    rw [← hW6]
    have hgl := (unveil H4).2.2.2
    have zb6 := ((unveil H4).2.1.turned (unveil H5).2.1 (by omega)).turned tn6 (by omega)
    have B6 := tn6.under ((unveil H5).2.1.under (unveil H4).2.2.1 (by omega)) (Nat.le_refl _)
    have hcell6 : ∀ j, j < 6 * (es.length - 1) → W6.cell? ⟨g, j, none⟩ = some (.int .i64 (((evFlat es).take (6 * k) ++ (evFlat es).drop (6 * k + 6)).getD j 0)) := fun j hj => (World.cell?_of_block (w := W5) (tn6.block g (by omega))).trans ((unveil H5).2.2 j hj)
    have hg6 : g < W6.heap.size := by rw [tn6.size, (unveil H5).2.1.size]; exact hgl.2
    clear hW6 c0 c1 c2 c3 c4 c5 c6 cf
    obtain ⟨c0, c1, c2, c3, c4, c5, c6⟩ := cb6.cells
    obtain ⟨z0, z1, z2, z3, z4, z5, z6⟩ := zb6.cells
    have zf := zb6.free
    have H6 := veil (And.intro zb6 (And.intro B6 (And.intro hcell6 (And.intro hg6 hgl.1))))
    clear cb6 zb6 B6 hcell6 hg6 hgl tn6 H5 H4
    have HCL := veil hcl
    have HHK := veil hk
    clear hcl hk hs2
    go_wp2
    obtain ⟨W7, hW7, cb7, B7, tn7⟩ := c_stored (unveil H6).1 (unveil H6).2.1 (by omega) p n (some ⟨g, 0, none⟩) (es.length - 1) k3 wh
    rw [← hW7]
    have hgl := (unveil H6).2.2.2.2
    exact bodyPost_ret (ret_Done cb7 rfl rfl) rfl ⟨_, rfl, unveil HEND W7 g k3 (by omega) (by rw [tn7.size]; exact (unveil H6).2.2.2.1) (unveil HCL) (fun j hj => (World.cell?_of_block (w := W6) (tn7.block g (by omega))).trans ((unveil H6).2.2.1 j hj)), B7⟩
/-- what New answers. -/
inductive NewR (p : Int) : Cl → Int → Prop
  | range (h : ¬ (0 ≤ p ∧ p ≤ 3)) : NewR p Cl.zero 2
  | new (h : 0 ≤ p ∧ p ≤ 3) : NewR p ⟨p, 0, [], fun _ => -1⟩ 0
theorem NewR.det {p : Int} {D D' : Cl} {e e' : Int} (h : NewR p D e) (h' : NewR p D' e') : D = D' ∧ e = e' := by
  cases h <;> cases h' <;> first | exact ⟨rfl, rfl⟩ | contradiction
def NewOut (p : Int) (x : Value) : Prop := ∃ D e, x = .tuple #[cVal D.p D.n none 0 0 D.wh, .int .i64 e] ∧ NewR p D e ∧ D.es = []
theorem ret_New {W : World} {R : Nat} {p n : Int} {a : Option Addr} {m c : Nat} {wh : Nat → Int} {e : Int} {tmps : Array Value} (d : cBlock W R p n a m c wh) (t2 : tmps[2]? = some (.pointer (some ⟨R, 0, none⟩))) (t3 : tmps[3]? = some (.int .i64 e)) :
    (results Try.f16 tmps).run Try.prog W = .ok (.tuple #[cVal p n a m c wh, .int .i64 e]) W := by
  simp [results, Try.results16, t2, t3, asAddr, load_client d]
/-- four numbers in memory. -/
def aBlock (w : World) (R : Nat) (f : Nat → Int) : Prop := w.heap[R]? = some (.cells #[.int .i64 (f 0), .int .i64 (f 1), .int .i64 (f 2), .int .i64 (f 3)] 23 (0, 0))
theorem aBlock.cells {w : World} {R : Nat} {f : Nat → Int} (h : aBlock w R f) : ∀ k, k < 4 → w.cell? ⟨R, k, none⟩ = some (.int .i64 (f k)) := by
  unfold aBlock at h
  refine below4c ?_ ?_ ?_ ?_ <;> simp [World.cell?, h]
theorem aBlock.free {w : World} {R : Nat} {f : Nat → Int} (h : aBlock w R f) (o : Nat) : w.frozen? ⟨R, o, none⟩ = false := by
  unfold aBlock at h; simp [World.frozen?, h]
theorem aBlock.put {w : World} {R : Nat} {f : Nat → Int} (h : aBlock w R f) (k : Nat) (hk : k < 4) (x : Int) : aBlock (w.setCell ⟨R, k, none⟩ (.int .i64 x)) R (kput f k x) := by
  unfold aBlock at h ⊢
  rw [heap_setC h]
  have : ∀ k, k < 4 → (#[.int .i64 (f 0), .int .i64 (f 1), .int .i64 (f 2), .int .i64 (f 3)] : Array Value).set! k (.int .i64 x) = #[.int .i64 (kput f k x 0), .int .i64 (kput f k x 1), .int .i64 (kput f k x 2), .int .i64 (kput f k x 3)] := by
    refine below4c ?_ ?_ ?_ ?_ <;> simp [kput]
  rw [this k hk]
set_option maxRecDepth 20000 in
set_option maxHeartbeats 4000000 in
theorem new_any (p : Int) (w : World) : Calls Try.prog 16 #[.int .i64 p] w fun e w' => ∃ x, e = .returned x ∧ NewOut p x ∧ Below w.heap.size w w' := by
  have HP := fun w => isProducer_any p w
  by_cases hp : 0 ≤ p ∧ p ≤ 3
  case neg =>
    rw [decide_eq_false hp] at HP
    go_enter Try.func16, Try.ntmps16
    go_upto_region 1 with fail
    obtain ⟨W, hW, zb, B0⟩ : ∃ W, W = w.alloc (.cells (cCells 0 0 none 0 0 (fun _ => 0)) 25) ∧ cBlock W w.heap.size 0 0 none 0 0 (fun _ => 0) ∧ Below w.heap.size w W := ⟨_, rfl, cBlock.new _ _ _ _ _ _ _, below1 _ _⟩
    rw [← hW]
    clear hW
    obtain ⟨z0, z1, z2, z3, z4, z5, z6⟩ := zb.cells
    have zf := zb.free
    have HB := veil (And.intro zb B0)
    clear zb B0
    go_wp2_with (go_at_call 37; refine (HP _).mono ?_; rintro e w1 ⟨rfl, hw1⟩; subst w1; clear HP)
    obtain ⟨W4, hW4, cb4, B4, tn4⟩ := c_stored (unveil HB).1 (unveil HB).2 (Nat.le_refl _) 0 0 none 0 0 (fun _ => 0)
    rw [← hW4]
    exact bodyPost_ret (ret_New cb4 rfl rfl) rfl ⟨_, rfl, ⟨Cl.zero, 2, rfl, .range hp, rfl⟩, B4⟩
  case pos =>
  rw [decide_eq_true hp] at HP
  have HHP := veil hp
  clear hp
  go_enter Try.func16, Try.ntmps16
  go_upto_region 1 with fail
  obtain ⟨W, hW, zb, B0, hsz⟩ : ∃ W, W = w.alloc (.cells (cCells 0 0 none 0 0 (fun _ => 0)) 25) ∧ cBlock W w.heap.size 0 0 none 0 0 (fun _ => 0) ∧ Below w.heap.size w W ∧ W.heap.size = w.heap.size + 1 := ⟨_, rfl, cBlock.new _ _ _ _ _ _ _, below1 _ _, by simp⟩
  rw [← hW]
  clear hW
  have HB := veil (And.intro zb (And.intro B0 hsz))
  clear zb B0 hsz
  go_upto_region 4 with (go_at_call 37; refine (HP _).mono ?_; rintro e w1 ⟨rfl, hw1⟩; subst w1; clear HP)
  obtain ⟨W1, hW1, ab, zb, B1, hle⟩ : ∃ W1, W1 = W.alloc (.cells #[.int .i64 0, .int .i64 0, .int .i64 0, .int .i64 0] 23) ∧ aBlock W1 W.heap.size (fun q => if q < 0 then -1 else 0) ∧ cBlock W1 w.heap.size 0 0 none 0 0 (fun _ => 0) ∧ Below w.heap.size w W1 ∧ w.heap.size < W.heap.size :=
    ⟨_, rfl, heap_alloc_new W _, (unveil HB).1.next (below1 _ _), Below.next (unveil HB).2.1 (below1 _ _), by have := (unveil HB).2.2; omega⟩
  rw [← hW1]
  clear hW1 HB
  generalize W.heap.size = X at *
  have H1 := veil (And.intro ab (And.intro zb B1))
  clear ab zb B1
  go_upto_region 5 with fail
  go_loopw [10] (fun i wr => ∃ k : Nat, k ≤ 4 ∧ i = .int .i64 k ∧ Hid (aBlock wr X (fun q => if q < k then -1 else 0) ∧ cBlock wr w.heap.size 0 0 none 0 0 (fun _ => 0) ∧ Below w.heap.size w wr)) (fun i _ => 4 - (intOf i).toNat)
  case atStart => exact ⟨0, by omega, rfl, H1⟩
  case round =>
    obtain ⟨k, hk, rfl, HK⟩ := hrel
    clear H1
    by_cases hlt : k < 4
    · have ck := (unveil HK).1.cells k hlt
      have af := (unveil HK).1.free
      go_upto_region 8 with fail
      obtain ⟨W2, hW2, H2⟩ : ∃ W2, W2 = wr.setCell ⟨X, k, none⟩ (.int .i64 (-1)) ∧ Hid (aBlock W2 X (fun q => if q < k + 1 then -1 else 0) ∧ cBlock W2 w.heap.size 0 0 none 0 0 (fun _ => 0) ∧ Below w.heap.size w W2) := by
        refine ⟨_, rfl, veil ⟨?_, (unveil HK).2.1.turned (Turned.set _ _ _ _) (by omega), (Turned.set _ _ _ _).under (unveil HK).2.2 (by omega)⟩⟩
        have := (unveil HK).1.put k hlt (-1)
        have e : kput (fun q => if q < k then -1 else 0) k (-1) = (fun q => if q < k + 1 then (-1 : Int) else 0) := by
          funext q
          unfold kput
          by_cases h1 : q = k
          · rw [if_pos h1, if_pos (by omega)]
          · rw [if_neg h1]
            show (if q < k then (-1 : Int) else 0) = if q < k + 1 then -1 else 0
            by_cases h2 : q < k
            · rw [if_pos h2, if_pos (by omega)]
            · rw [if_neg h2, if_neg (by omega)]
        rw [e] at this
        exact this
      rw [← hW2]
      clear hW2 ck af
      go_wp2
      go_roundw
      case rel => exact ⟨k + 1, by omega, by go_num, H2⟩
      case measure => simp [intOf]; omega
    · obtain rfl : k = 4 := by omega
      have ab := (unveil HK).1
      have a0 : wr.cell? ⟨X, 0, none⟩ = some (.int .i64 (-1)) := ab.cells 0 (by omega)
      have a1 : wr.cell? ⟨X, 1, none⟩ = some (.int .i64 (-1)) := ab.cells 1 (by omega)
      have a2 : wr.cell? ⟨X, 2, none⟩ = some (.int .i64 (-1)) := ab.cells 2 (by omega)
      have a3 : wr.cell? ⟨X, 3, none⟩ = some (.int .i64 (-1)) := ab.cells 3 (by omega)
      obtain ⟨z0, z1, z2, z3, z4, z5, z6⟩ := (unveil HK).2.1.cells
      have zf := (unveil HK).2.1.free
      clear ab
      go_wp2
      obtain ⟨W4, hW4, cb4, B4, tn4⟩ := c_stored (unveil HK).2.1 (unveil HK).2.2 (Nat.le_refl _) p 0 none 0 0 (fun _ => -1)
      rw [← hW4]
      exact bodyPost_ret (ret_New cb4 rfl rfl) rfl ⟨_, rfl, ⟨⟨p, 0, [], fun _ => -1⟩, 0, rfl, .new (unveil HHP), rfl⟩, B4⟩
end Go.Proofs.Ytjolamdlclcpcaa
