/- Walk of lines.part. -/
import Derived.Test.YtekbdkppnjnaaaaDoorLnE
namespace Go.Proofs.YtekbdkppnjnaaaaDoor
open Go.RowKit

theorem pRow.at {w : World} {base : Nat} {v : Value} {B : Nat} {os : List Nat} (h : pRow w base v B os) (k : Nat) (hk : k < os.length) : ∃ G c, v = .slice (some ⟨G, 0, none⟩) os.length c ∧ base ≤ G ∧ G < w.heap.size ∧ w.cell? ⟨G, k, none⟩ = some (ptr B os[k]) ∧ os.length ≤ c := by
  obtain ⟨hl, h2⟩ := id h
  rcases h2 with ⟨_, h0⟩ | ⟨G, c, cur, rfl, hb, hg, hc, _, _, _⟩
  · omega
  · refine ⟨G, c, rfl, hb, block_lt hg, ?_, hc⟩
    rw [h.cellAt k (by omega), List.getElem?_map, List.getElem?_eq_getElem hk]
    rfl
/-- the boxes of part: the arguments, what the word has, what is left. -/
structure Pw (w wx : World) (f g h l : Nat → Int) : Prop where
  a : aBlock wx w.heap.size f
  b : aBlock wx (w.heap.size + 1) g
  h : aBlock wx (w.heap.size + 2) h
  l : aBlock wx (w.heap.size + 3) l
  bel : Below w.heap.size w wx
theorem Pw.next {w wx wy : World} {f g h l : Nat → Int} (p : Pw w wx f g h l) (b : Below wx.heap.size wx wy) : Pw w wy f g h l := ⟨p.a.next b, p.b.next b, p.h.next b, p.l.next b, Below.next p.bel b⟩
theorem Pw.has {w wx wy : World} {f g h l h' : Nat → Int} (p : Pw w wx f g h l) (t : Turned (w.heap.size + 2) wx wy) (d : aBlock wy (w.heap.size + 2) h') : Pw w wy f g h' l :=
  ⟨p.a.turned t (by omega), p.b.turned t (by omega), d, p.l.turned t (by omega), t.under p.bel (by omega)⟩
theorem Pw.left {w wx wy : World} {f g h l l' : Nat → Int} (p : Pw w wx f g h l) (t : Turned (w.heap.size + 3) wx wy) (d : aBlock wy (w.heap.size + 3) l') : Pw w wy f g h l' :=
  ⟨p.a.turned t (by omega), p.b.turned t (by omega), p.h.turned t (by omega), d, t.under p.bel (by omega)⟩
theorem Pw.first (w : World) (f g : Nat → Int) : Pw w ((((w.alloc (.cells (aCells f) 27)).alloc (.cells (aCells g) 27)).alloc (.cells (aCells fun _ => 0) 27)).alloc (.cells (aCells fun _ => 0) 27)) f g (fun _ => 0) (fun _ => 0) := by
  have h1 := aBlock.new (w.alloc (.cells (aCells f) 27)) g
  have h2 := aBlock.new ((w.alloc (.cells (aCells f) 27)).alloc (.cells (aCells g) 27)) (fun _ => 0)
  have h3 := aBlock.new (((w.alloc (.cells (aCells f) 27)).alloc (.cells (aCells g) 27)).alloc (.cells (aCells fun _ => 0) 27)) (fun _ => 0)
  simp only [World.size_alloc] at h1 h2 h3
  exact ⟨(((aBlock.new w f).next (below1 _ _)).next (below1 _ _)).next (below1 _ _), (h1.next (below1 _ _)).next (below1 _ _), h2.next (below1 _ _), h3, Below.next (below2 _ _ _) (below2 _ _ _)⟩
/-- the same while the two are being stored. -/
def Pz (w : World) (f g : Nat → Int) (u : World) : Prop := ∃ h l, Pw w u f g h l
theorem ret_part {W : World} {R S : Nat} {h l : Nat → Int} {tmps : Array Value} (d : aBlock W R h) (e : aBlock W S l) (t4 : tmps[4]? = some (.pointer (some ⟨R, 0, none⟩))) (t5 : tmps[5]? = some (.pointer (some ⟨S, 0, none⟩))) :
    (results Tryd.f23 tmps).run Tryd.prog W = .ok (.tuple #[aVal h, aVal l]) W := by
  simp [results, Tryd.results23, t4, t5, asAddr, load_act d, load_act e]
theorem over_next {os : List Nat} {g f : Nat → Int} {k : Nat} (hk : k < os.length) : ∀ i, put1 (over (os.take k) g f) os[k] (f os[k]) i = over (os.take (k + 1)) g f i := by
  intro i
  have e : (i ∈ os.take (k + 1)) = (i ∈ os.take k ∨ i = os[k]) := by
    rw [show os.take (k + 1) = os.take k ++ [os[k]] by rw [List.take_add_one, List.getElem?_eq_getElem hk]; rfl]
    simp only [List.mem_append, List.mem_singleton]
  unfold put1 over
  simp only [e]
  by_cases g : i = os[k]
  · subst g; simp
  · simp [g]
theorem less_next {os : List Nat} {f : Nat → Int} {k : Nat} (hk : k < os.length) : ∀ i, put1 (less (os.take k) f) os[k] 0 i = less (os.take (k + 1)) f i := by
  intro i
  have e : (i ∈ os.take (k + 1)) = (i ∈ os.take k ∨ i = os[k]) := by
    rw [show os.take (k + 1) = os.take k ++ [os[k]] by rw [List.take_add_one, List.getElem?_eq_getElem hk]; rfl]
    simp only [List.mem_append, List.mem_singleton]
  unfold put1 less
  simp only [e]
  by_cases g : i = os[k]
  · subst g; simp
  · simp [g]
theorem less_at {os : List Nat} {f : Nat → Int} {k : Nat} (hn : os.Nodup) (hk : k < os.length) : less (os.take k) f os[k] = f os[k] := by
  unfold less
  rw [if_neg]
  intro h
  obtain ⟨j, hj, e⟩ := List.mem_take_iff_getElem.1 h
  have hj' : j < os.length := by omega
  have := (List.pairwise_iff_getElem.1 hn) j k hj' hk (by omega)
  exact this e
set_option maxRecDepth 20000 in
set_option maxHeartbeats 4000000 in
theorem part_any (f g : Nat → Int) (os : List Nat) (w : World) (hf : offs (f 0) (f 5) = os) (hg : offs (g 0) (g 5) = os) :
    Calls Tryd.prog 23 #[aVal f, aVal g] w fun e w' => e = .returned (.tuple #[aVal (over os g f), aVal (less os f)]) ∧ Below w.heap.size w w' := by
  have hlen : os.length ≤ 5 := by rw [← hf]; exact offs_len _ _
  have HO : Hid (os.Nodup ∧ ∀ x ∈ os, x < 11) := veil (by rw [← hf]; exact ⟨offs_nodup _ _, offs_lt _ _⟩)
  have HF := veil hf
  have HG := veil hg
  clear hf hg
  have HP := veil (Pw.first w f g)
  go_enter Tryd.func23, Tryd.ntmps23
  go_upto_region 1 with fail
  obtain ⟨W1, hW1⟩ : ∃ W1, W1 = (((w.alloc (.cells (aCells f) 27)).alloc (.cells (aCells g) 27)).alloc (.cells (aCells fun _ => 0) 27)).alloc (.cells (aCells fun _ => 0) 27) := ⟨_, rfl⟩
  rw [← hW1] at HP ⊢
  clear hW1
  go_cut [] (fun wx => Hid (Pw w wx f g g f))
  case first =>
    refine wp_region_held_drew (S := Pz w f g) (by kernel_rfl) ⟨_, _, (unveil HP).next (below_drew W1)⟩ (fun hHeld => ?_)
    refine wpAnyH_take (i := 0) (v := aVal g) rfl (by kernel_rfl) (by kernel_rfl) (by kernel_rfl) (fun _ _ _ h => h) (Or.inl ⟨by rfl, fun u b => by obtain ⟨_, _, p⟩ := b; obtain ⟨z0, z1, z2, z3, z4, z5, z6, z7, z8, z9, z10⟩ := p.b.cells; clear p; go_simp⟩) hHeld ?_
    simp only [List.getElem_toArray, List.getElem_cons_zero, Act.put, List.setIfInBounds_toArray, List.set_cons_zero, List.set_cons_succ]
    refine wpAnyH_take (i := 1) (v := aVal f) rfl (by kernel_rfl) (by kernel_rfl) (by kernel_rfl) (fun _ _ _ h => h) (Or.inl ⟨by rfl, fun u b => by obtain ⟨_, _, p⟩ := b; obtain ⟨z0, z1, z2, z3, z4, z5, z6, z7, z8, z9, z10⟩ := p.a.cells; clear p; go_simp⟩) hHeld ?_
    simp only [List.getElem_toArray, List.getElem_cons_zero, List.getElem_cons_succ, Act.put, List.setIfInBounds_toArray, List.set_cons_zero, List.set_cons_succ]
    have p0 := (unveil HP).next (below_drew W1)
    obtain ⟨V0, hV0⟩ : ∃ V, V = W1.drew := ⟨_, rfl⟩
    rw [← hV0] at p0 hHeld ⊢
    clear hV0 HP
    refine wpAnyH_ready (rs := [2]) (by kernel_rfl) (by simp) ?_
    refine AllReadyH.cons rfl (fun K hK => ?_) AllReadyH.nil
    simp only [List.getElem_toArray, List.getElem_cons_zero, List.getElem_cons_succ]
    obtain ⟨z0, z1, z2, z3, z4, z5, z6, z7, z8, z9, z10⟩ := p0.h.cells
    have zf := p0.h.free
    go_simp
    obtain ⟨V1, hN, d, _, tn⟩ := a_stored p0.h p0.bel (by omega) (g 0) (g 1) (g 2) (g 3) (g 4) (g 5) (g 6) (g 7) (g 8) (g 9) (g 10)
    rw [← hN]
    have p1 := p0.has tn (d.ext (g := g) (below11 rfl rfl rfl rfl rfl rfl rfl rfl rfl rfl rfl))
    clear hN d tn z0 z1 z2 z3 z4 z5 z6 z7 z8 z9 z10 zf
    refine hK.out _ _ ⟨_, _, p1⟩ (fun hHeld => ?_)
    clear hK K
    refine wpAnyH_ready (rs := [3]) (by kernel_rfl) (by simp) ?_
    refine AllReadyH.cons rfl (fun K hK => ?_) AllReadyH.nil
    simp only [List.getElem_toArray, List.getElem_cons_zero, List.getElem_cons_succ]
    obtain ⟨z0, z1, z2, z3, z4, z5, z6, z7, z8, z9, z10⟩ := p1.l.cells
    have zf := p1.l.free
    go_simp
    obtain ⟨V2, hN, d, _, tn⟩ := a_stored p1.l p1.bel (by omega) (f 0) (f 1) (f 2) (f 3) (f 4) (f 5) (f 6) (f 7) (f 8) (f 9) (f 10)
    rw [← hN]
    have p2 := p1.left tn (d.ext (g := f) (below11 rfl rfl rfl rfl rfl rfl rfl rfl rfl rfl rfl))
    clear hN d tn z0 z1 z2 z3 z4 z5 z6 z7 z8 z9 z10 zf
    refine hK.out _ _ ⟨_, _, p2⟩ (fun hHeld => ?_)
    clear hK K
    refine wpAnyH_done (by kernel_rfl) ?_ _
    go_wp2_with fail
    go_meet
    exact veil p2
  case rest =>
    clear HP
    have HC1 := numbers_any (w.heap.size + 2) g wc (unveil hcut).h
    rw [unveil HG] at HC1
    have HC2 : Hid (∀ u, Below wc.heap.size wc u → Calls Tryd.prog 38 #[ptr (w.heap.size + 3) 0] u fun e w' => ∃ v, e = .returned v ∧ pRow w' u.heap.size v (w.heap.size + 3) os ∧ Below u.heap.size u w') := veil fun u b => by
      have := numbers_any (w.heap.size + 3) f u ((unveil hcut).l.next b)
      rw [unveil HF] at this
      exact this
    clear HF HG
    go_upto_region 3 with (go_at_call 38; refine HC1.mono ?_; rintro e V1 ⟨v1, rfl, o1, b1⟩; clear HC1)
    have HC3 := unveil HC2 V1 b1
    clear HC2
    have HO1 := veil (own_lower o1 (show w.heap.size + 4 ≤ wc.heap.size from (unveil hcut).l.lt))
    have HP1 := veil ((unveil hcut).next b1)
    obtain ⟨a1, c1, rfl⟩ := own_form o1
    clear o1 b1 hcut
    go_wp2_with (go_at_call 38; refine HC3.mono ?_; rintro e V2 ⟨v2, rfl, o2, b2⟩; clear HC3; have HO2 := veil (own_lower o2 (show w.heap.size + 4 ≤ V1.heap.size from (unveil HP1).l.lt)); have HO3 := veil (own_still (unveil HO1) (fun g _ hg => b2.block g hg)); have HP2 := veil ((unveil HP1).next b2); obtain ⟨a2, c2, rfl⟩ := own_form o2; clear o2 b2 HO1 HP1)
    go_loopw [14] (fun t wr => ∃ k : Nat, k ≤ os.length ∧ t = .int .i64 k ∧ Hid (Pw w wr f g (over (os.take k) g f) (less (os.take k) f) ∧ pRow wr (w.heap.size + 4) (.slice a1 os.length c1) (w.heap.size + 2) os ∧ pRow wr (w.heap.size + 4) (.slice a2 os.length c2) (w.heap.size + 3) os)) (fun t _ => os.length - (intOf t).toNat)
    case atStart => exact ⟨0, by omega, rfl, veil ⟨⟨(unveil HP2).a, (unveil HP2).b, (unveil HP2).h.ext (fun i _ => by simp [over]), (unveil HP2).l.ext (fun i _ => by simp [less]), (unveil HP2).bel⟩, unveil HO3, unveil HO2⟩⟩
    case round =>
      clear HP2 HO2 HO3
      obtain ⟨k, hk, rfl, HT⟩ := hrel
      by_cases hlt : k < os.length
      case neg =>
        obtain rfl : k = os.length := by omega
        have hP := (unveil HT).1
        rw [List.take_length] at hP
        clear HT
        have HP := veil hP
        obtain ⟨x0, x1, x2, x3, x4, x5, x6, x7, x8, x9, x10⟩ := hP.h.cells
        obtain ⟨y0, y1, y2, y3, y4, y5, y6, y7, y8, y9, y10⟩ := hP.l.cells
        have xf := hP.h.free
        have yf := hP.l.free
        clear hP
        go_wp2
        obtain ⟨W2, hW2, d2, b2, t2⟩ := a_stored (unveil HP).h (unveil HP).bel (by omega) (over os g f 0) (over os g f 1) (over os g f 2) (over os g f 3) (over os g f 4) (over os g f 5) (over os g f 6) (over os g f 7) (over os g f 8) (over os g f 9) (over os g f 10)
        rw [← hW2]
        clear hW2
        have p2 := (unveil HP).has t2 (d2.ext (g := over os g f) (below11 rfl rfl rfl rfl rfl rfl rfl rfl rfl rfl rfl))
        obtain ⟨W3, hW3, d3, b3, t3⟩ := a_stored p2.l p2.bel (by omega) (less os f 0) (less os f 1) (less os f 2) (less os f 3) (less os f 4) (less os f 5) (less os f 6) (less os f 7) (less os f 8) (less os f 9) (less os f 10)
        rw [← hW3]
        clear hW3
        have p3 := p2.left t3 (d3.ext (g := less os f) (below11 rfl rfl rfl rfl rfl rfl rfl rfl rfl rfl rfl))
        exact bodyPost_ret (ret_part p3.h p3.l rfl rfl) rfl ⟨rfl, p3.bel⟩
      case pos =>
        obtain ⟨G1, c1', e1, hG1, hG1l, y1, hc1⟩ := (unveil HT).2.1.at k hlt
        obtain ⟨G2, c2', e2, hG2, hG2l, y2, hc2⟩ := (unveil HT).2.2.at k hlt
        obtain ⟨rfl, rfl⟩ : a1 = some ⟨G1, 0, none⟩ ∧ c1 = c1' := by simpa using e1
        obtain ⟨rfl, rfl⟩ : a2 = some ⟨G2, 0, none⟩ ∧ c2 = c2' := by simpa using e2
        clear e1 e2
        have ho : os[k] < 11 := (unveil HO).2 _ (List.getElem_mem hlt)
        have z1 := (unveil HT).1.h.cell os[k] ho
        have z2 := (unveil HT).1.l.cell os[k] ho
        rw [less_at (unveil HO).1 hlt] at z2
        have f1 := (unveil HT).1.h.free os[k]
        have f2 := (unveil HT).1.l.free os[k]
        have HE : Hid (∀ W, W = ((wr.drew.setCell ⟨w.heap.size + 2, os[k], none⟩ (.int .i64 (f os[k]))).setCell ⟨w.heap.size + 3, os[k], none⟩ (.int .i64 0)) → Pw w W f g (over (os.take (k + 1)) g f) (less (os.take (k + 1)) f) ∧ pRow W (w.heap.size + 4) (.slice (some ⟨G1, 0, none⟩) os.length c1) (w.heap.size + 2) os ∧ pRow W (w.heap.size + 4) (.slice (some ⟨G2, 0, none⟩) os.length c2) (w.heap.size + 3) os) := veil (by
          rintro W rfl
          obtain ⟨p, r1, r2⟩ := unveil HT
          have p' := p.next (below_drew wr)
          have r1' := own_still (w' := wr.drew) r1 (fun g _ _ => rfl)
          have r2' := own_still (w' := wr.drew) r2 (fun g _ _ => rfl)
          have t1 := Turned.set (w.heap.size + 2) os[k] wr.drew (.int .i64 (f os[k]))
          have q1 := p'.has t1 ((p'.h.put os[k] ho (f os[k])).ext (fun i _ => over_next hlt i))
          have t2 := Turned.set (w.heap.size + 3) os[k] (wr.drew.setCell ⟨w.heap.size + 2, os[k], none⟩ (.int .i64 (f os[k]))) (.int .i64 0)
          have q2 := q1.left t2 ((q1.l.put os[k] ho 0).ext (fun i _ => less_next hlt i))
          exact ⟨q2, t2.own (t1.own r1' (by omega)) (by omega), t2.own (t1.own r2' (by omega)) (by omega)⟩)
        obtain ⟨ok, hok⟩ : ∃ o, o = os[k] := ⟨_, rfl⟩
        rw [← hok] at y1 y2 z1 z2 f1 f2 HE
        generalize over (os.take k) g f ok = ov at z1
        clear hok HT ho
        have n1 : w.heap.size + 2 ≠ G1 := by omega
        have n2 : w.heap.size + 3 ≠ G1 := by omega
        have n3 : w.heap.size + 2 ≠ G2 := by omega
        have n4 : w.heap.size + 3 ≠ G2 := by omega
        have hkc1 : (k : Int) < (c1 : Int) := by omega
        go_upto_region 6 with fail
        go_region
        go_wp2
        go_roundw <;> first | exact ⟨k + 1, by omega, by go_num, veil (unveil HE _ rfl)⟩ | (simp [intOf]; omega)
end Go.Proofs.YtekbdkppnjnaaaaDoor
