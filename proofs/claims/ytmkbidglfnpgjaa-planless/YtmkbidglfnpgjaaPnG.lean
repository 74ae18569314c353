/- Walks of the document's answer's In, LoadsFault, workAt, busiest and SpreadOf. -/
import Derived.Test.YtmkbidglfnpgjaaPnF
namespace Go.Proofs.Ytmkbidglfnpgjaa
open Go.RowKit

theorem In_any (x lo hi : Int) (w : World) : Calls Try.prog 29 #[.int .i64 x, .int .i64 lo, .int .i64 hi] w fun e w' => e = .returned (.bool (decide (lo ≤ x ∧ x ≤ hi))) ∧ w' = w := by
  by_cases h1 : lo ≤ x
  · by_cases h2 : x ≤ hi
    · rw [decide_eq_true (show lo ≤ x ∧ x ≤ hi from ⟨h1, h2⟩)]
      go_enter Try.func29, Try.ntmps29
      go_wp2
      go_ret
      exact ⟨rfl, rfl⟩
    · rw [decide_eq_false (show ¬ (lo ≤ x ∧ x ≤ hi) from fun h => h2 h.2)]
      go_enter Try.func29, Try.ntmps29
      go_wp2
      go_ret
      exact ⟨rfl, rfl⟩
  · rw [decide_eq_false (show ¬ (lo ≤ x ∧ x ≤ hi) from fun h => h1 h.1)]
    go_enter Try.func29, Try.ntmps29
    go_wp2
    go_ret
    exact ⟨rfl, rfl⟩
theorem In_yes {x lo hi : Int} (h : lo ≤ x ∧ x ≤ hi) (w : World) : Calls Try.prog 29 #[.int .i64 x, .int .i64 lo, .int .i64 hi] w fun e w' => e = .returned (.bool true) ∧ w' = w := by
  have := In_any x lo hi w; rwa [decide_eq_true h] at this
theorem In_no {x lo hi : Int} (h : ¬ (lo ≤ x ∧ x ≤ hi)) (w : World) : Calls Try.prog 29 #[.int .i64 x, .int .i64 lo, .int .i64 hi] w fun e w' => e = .returned (.bool false) ∧ w' = w := by
  have := In_any x lo hi w; rwa [decide_eq_false h] at this
def inB (x lo hi : Int) : Bool := decide (lo ≤ x ∧ x ≤ hi)
theorem inB_yes {x lo hi : Int} (h : lo ≤ x ∧ x ≤ hi) : inB x lo hi = true := decide_eq_true h
theorem inB_no {x lo hi : Int} (h : ¬ (lo ≤ x ∧ x ≤ hi)) : inB x lo hi = false := decide_eq_false h
theorem In_is {x lo hi : Int} {b : Bool} (h : inB x lo hi = b) (w : World) : Calls Try.prog 29 #[.int .i64 x, .int .i64 lo, .int .i64 hi] w fun e w' => e = .returned (.bool b) ∧ w' = w := by
  rw [← h]; exact In_any x lo hi w
set_option maxRecDepth 20000 in
set_option maxHeartbeats 4000000 in
theorem loadsFault_any (nodes : Int) (a : Option Addr) (c : Nat) (l : List Ld) (w : World) (hA : RowK .i64 w a (3 * l.length) (ldFlat l)) (hl : l.length ≤ 9223372036854775806) :
    Calls Try.prog 23 #[.slice a l.length c, .int .i64 nodes] w fun e w' => e = .returned (.int .i64 (loadsOf nodes l)) ∧ Below w.heap.size w w' := by
  by_cases h15 : 1 ≤ nodes ∧ nodes ≤ 5
  case neg =>
    rw [loadsOf_range h15]
    have HI := fun w => In_no (x := nodes) (lo := 1) (hi := 5) h15 w
    clear h15
    go_enter Try.func23, Try.ntmps23
    go_wp2_with (go_at_call 29; refine (HI _).mono ?_; rintro _ w ⟨rfl, rfl⟩)
    go_ret
    exact ⟨rfl, Below.refl _ _⟩
  have HI := fun w => In_yes (x := nodes) (lo := 1) (hi := 5) h15 w
  obtain ⟨h1, h5⟩ := h15
  have HY := veil (fun h => loadsOf_yes (l := l) h1 h5 h)
  have HX := veil (fun h => loadsOf_no (l := l) h1 h5 h)
  have HL := veil (fun k (hk : k < l.length) (h : Rise nodes l) => h.not_low hk)
  have HO := veil (fun k (hk : k < l.length) (h : Rise nodes l) => h.ok k hk)
  have HA := veil (fun (h : RiseTo nodes l l.length) => h.all)
  generalize loadsOf nodes l = res at *
  generalize hN : l.length = n at *
  clear hN
  go_enter Try.func23, Try.ntmps23
  go_wp2_with (go_at_call 29; refine (HI _).mono ?_; rintro _ w ⟨rfl, rfl⟩)
  clear HI
  go_loopw [5] (fun t wr => ∃ k : Nat, k ≤ n ∧ t = .int .i64 k ∧ Below w.heap.size w wr ∧ Hid (RiseTo nodes l k)) (fun t _ => n - (intOf t).toNat)
  case atStart => exact ⟨0, Nat.zero_le _, rfl, Below.refl _ _, veil (RiseTo.none _ _)⟩
  case round =>
    obtain ⟨k, hk, rfl, bel, HR⟩ := hrel
    have BL := veil bel
    by_cases hlt : k < n
    · obtain ⟨b, off, rfl⟩ := hA.form (by omega)
      have rA := hA.below bel
      obtain ⟨x0, x1, x2⟩ := rA.three k hlt
      have hprev : ∀ j, k = j + 1 → wr.cell? ⟨b, off + j * 3, none⟩ = some (.int .i64 (ldAt l j).q) := fun j hj => (rA.three j (by omega)).1
      have hab : ∀ j, k = j + 1 → aboveOf l k = (ldAt l j).q + 1 := fun j hj => by subst hj; rfl
      have hab0 : k = 0 → aboveOf l k = 0 := fun h => by subst h; rfl
      have HL1 := veil (unveil HL k hlt)
      have HO1 := veil (unveil HO k hlt)
      have HNX := veil (fun h1 h2 => (unveil HR).next h1 h2)
      clear hA rA bel
      generalize ldAt l k = x at *
      generalize aboveOf l k = ab at *
      have HNX' := veil (fun (h : LdOk nodes x) (h2 : ¬ x.q < ab) => unveil HNX h h2)
      obtain ⟨xq, xn, xw⟩ := x
      dsimp only at *
      by_cases hq : 0 ≤ xq ∧ xq ≤ 3
      case neg =>
        have HRES : Hid (res = 6) := veil (unveil HX (fun h => hq ⟨(unveil HO1 h).q0, (unveil HO1 h).q3⟩))
        have Hq := inB_no hq
        clear HL HO HA HX HY hprev hab hab0
        go_wp2_with fail
        go_quiet (first | (go_at_call 29; refine Calls.quiet_of_same (In_is (by assumption) _)))
        go_wp2
        go_ret
        exact ⟨congrArg (fun z => Ending.returned (.int .i64 z)) (unveil HRES).symm, below_n (unveil BL) _⟩
      case pos =>
      have Hq := inB_yes hq
      by_cases hn : 0 ≤ xn ∧ xn ≤ nodes - 1
      case neg =>
        have HRES : Hid (res = 6) := veil (unveil HX (fun h => hn ⟨(unveil HO1 h).n0, by have : xn < nodes := (unveil HO1 h).n4; omega⟩))
        have Hn := inB_no hn
        clear HL HO HA HX HY hprev hab hab0
        go_wp2_with fail
        go_quiet (first | (go_at_call 29; refine Calls.quiet_of_same (In_is (by assumption) _)))
        go_wp2
        go_ret
        exact ⟨congrArg (fun z => Ending.returned (.int .i64 z)) (unveil HRES).symm, below_n (unveil BL) _⟩
      case pos =>
      have Hn := inB_yes hn
      by_cases hw : 0 ≤ xw ∧ xw ≤ 1073741824
      case neg =>
        have HRES : Hid (res = 6) := veil (unveil HX (fun h => hw ⟨(unveil HO1 h).w0, (unveil HO1 h).w1⟩))
        have Hw := inB_no hw
        clear HL HO HA HX HY hprev hab hab0
        go_wp2_with fail
        go_quiet (first | (go_at_call 29; refine Calls.quiet_of_same (In_is (by assumption) _)))
        go_wp2
        go_ret
        exact ⟨congrArg (fun z => Ending.returned (.int .i64 z)) (unveil HRES).symm, below_n (unveil BL) _⟩
      case pos =>
      have Hw := inB_yes hw
      have ho : LdOk nodes ⟨xq, xn, xw⟩ := ⟨hq.1, hq.2, hn.1, by show xn < nodes; omega, hw.1, hw.2⟩
      cases k with
      | zero =>
        simp only [Nat.zero_mul, Nat.add_zero] at x0 x1 x2
        have HR1 := veil (unveil HNX' ho (by rw [hab0 rfl]; omega))
        clear HL HO HA HX HY hprev hab hab0 HL1 HO1 HNX' ho hq hn hw
        go_wp2_with fail
        go_quiet (first | (go_at_call 29; refine Calls.quiet_of_same (In_is (by assumption) _)))
        go_wp2
        go_roundw
        case rel => exact ⟨1, by omega, by go_num, below_n (unveil BL) _, HR1⟩
        case measure => simp [intOf]; omega
      | succ j =>
        have p0 := hprev j rfl
        have ea := hab j rfl
        generalize (ldAt l j).q = qp at *
        by_cases hqp : xq ≤ qp
        · have HRES : Hid (res = 6) := veil (unveil HX (fun h => by have := unveil HL1 h; omega))
          clear HL HO HA HX HY hprev hab hab0 HL1 HO1 HNX' ho hq hn hw ea
          go_wp2_with fail
          go_quiet (first | (go_at_call 29; refine Calls.quiet_of_same (In_is (by assumption) _)))
          go_wp2
          go_ret
          exact ⟨congrArg (fun z => Ending.returned (.int .i64 z)) (unveil HRES).symm, below_n (unveil BL) _⟩
        · have HR1 := veil (unveil HNX' ho (by omega))
          clear HL HO HA HX HY hprev hab hab0 HL1 HO1 HNX' ho hq hn hw ea
          go_wp2_with fail
          go_quiet (first | (go_at_call 29; refine Calls.quiet_of_same (In_is (by assumption) _)))
          go_wp2
          go_roundw
          case rel => exact ⟨j + 2, by omega, by go_num, below_n (unveil BL) _, HR1⟩
          case measure => simp [intOf]; omega
    · have HRES : Hid (res = 0) := veil (unveil HY (unveil HA (by have : k = n := by omega
                                                                  rw [← this]; exact unveil HR)))
      clear hA HY HX HL HO HA bel
      go_wp2
      go_ret
      exact ⟨congrArg (fun z => Ending.returned (.int .i64 z)) (unveil HRES).symm, unveil BL⟩
set_option maxRecDepth 20000 in
set_option maxHeartbeats 2000000 in
theorem workAt_any (node : Int) (nodes : Int) (a : Option Addr) (c : Nat) (l : List Ld) (w : World) (hA : RowK .i64 w a (3 * l.length) (ldFlat l)) (hr : Rise nodes l) :
    Calls Try.prog 25 #[.slice a l.length c, .int .i64 node] w fun e w' => e = .returned (.int .i64 (workAt l node)) ∧ w' = w := by
  have hl4 := hr.len
  have HB := veil (fun k => hr.workTo node k)
  have HO := veil (fun k (hk : k < l.length) => hr.ok k hk)
  have HS := veil (fun k (hk : k < l.length) => workAt_take l k node hk)
  have HT : Hid (workAt (l.take l.length) node = workAt l node) := veil (by rw [List.take_length])
  clear hr
  obtain ⟨res, hres⟩ : ∃ r, r = workAt l node := ⟨_, rfl⟩
  rw [← hres] at HT ⊢
  clear hres
  generalize hN : l.length = n at *
  clear hN
  go_enter Try.func25, Try.ntmps25
  go_wp2
  go_loop [5, 6] (fun s t => ∃ k : Nat, k ≤ n ∧ t = .int .i64 k ∧ s = .int .i64 (workAt (l.take k) node)) (fun _ t => n - (intOf t).toNat)
  case atStart => exact ⟨0, Nat.zero_le _, rfl, by simp [workAt]⟩
  case round =>
    obtain ⟨k, hk, rfl, rfl⟩ := hrel
    by_cases hlt : k < n
    · obtain ⟨b, off, rfl⟩ := hA.form (by omega)
      obtain ⟨x0, x1, x2⟩ := hA.three k hlt
      have ho := unveil HO k hlt
      have hb0 := unveil HB k
      have hs := unveil HS k hlt
      have hw0 := ho.w0
      have hw1 := ho.w1
      clear hA ho
      generalize workAt (l.take k) node = y at *
      generalize (ldAt l k).q = q at *
      generalize (ldAt l k).n = nd at *
      generalize (ldAt l k).w = wk at *
      by_cases hn : nd = node
      · subst hn
        rw [if_pos rfl] at hs
        have HE := veil hs
        clear hs
        go_wp2
        exact ⟨⟨k + 1, by omega, by go_num, by rw [unveil HE]⟩, by simp [intOf]; omega⟩
      · rw [if_neg hn, Int.add_zero] at hs
        have HE := veil hs
        have hb : (nd == node) = false := by simpa using hn
        clear hs
        go_wp2
        exact ⟨⟨k + 1, by omega, by go_num, by rw [unveil HE]⟩, by simp [intOf]; omega⟩
    · have HR : Hid (workAt (l.take k) node = res) := veil (by have : k = n := by omega
                                                               rw [this]; exact unveil HT)
      clear hA
      go_wp2
      go_ret
      exact ⟨congrArg (fun z => Ending.returned (.int .i64 z)) (unveil HR), rfl⟩
end Go.Proofs.Ytmkbidglfnpgjaa
