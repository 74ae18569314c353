/- Digits: walk of the document's Dec; an act's line, as a list of bytes; walk of ActLine. -/
import Derived.Test.YtekbdkppnjnaaaaDoorLnN
import Derived.Lib.ItoaMem
namespace Go.Proofs.YtekbdkppnjnaaaaDoor
open Go.RowKit

/-- a list of bytes as a string. -/
def str (l : List UInt8) : ByteArray := ⟨l.toArray⟩
theorem str_app (a b : List UInt8) : str a ++ str b = str (a ++ b) := by
  simp [str, ByteArray.ext_iff, ByteArray.data_append]
theorem str_size (l : List UInt8) : (str l).size = l.length := by simp [str, ByteArray.size]
theorem dec_len (n : Nat) : ∀ k, n < 10 ^ (k + 1) → (Lib.decDigits n).length ≤ k + 1 := by
  intro k
  induction k generalizing n with
  | zero => intro h; rw [Lib.decDigits_one (by omega)]; simp
  | succ k ih =>
    intro h
    by_cases h10 : n < 10
    · rw [Lib.decDigits_one h10]; simp
    · rw [Lib.decDigits, dif_neg h10, List.length_append]
      have := ih (n / 10) (by rw [Nat.pow_succ] at h; omega)
      simp
      omega
theorem one_byte (w : World) (z : Int) (h0 : 0 ≤ z) (h1 : z ≤ 255) : RowK .u8 (w.alloc (.cells #[.int .u8 z] 5)) (some ⟨w.heap.size, 0, none⟩) 1 [z] := by
  have h := heap_alloc_new w (.cells #[.int .u8 z] 5)
  generalize w.alloc (.cells #[.int .u8 z] 5) = W' at h ⊢
  refine ⟨rfl, fun u hu => ?_, fun j hj => ⟨w.heap.size, 0, rfl, block_lt h, ?_⟩⟩
  · rw [List.mem_singleton.1 hu]
    simp [Lit.wf, IntKind.min, IntKind.max, IntKind.signed, IntKind.bits]
    omega
  · obtain rfl : j = 0 := by omega
    simp [World.cell?, h]
theorem str_one (z : Nat) : strOfNums [(z : Int)] = str [UInt8.ofNat z] := by
  simp [strOfNums, str]
set_option maxRecDepth 20000 in
set_option maxHeartbeats 2000000 in
theorem dec_any : ∀ (n : Nat), (n : Int) ≤ 9223372036854775807 → ∀ (w : World), Calls Tryd.prog 43 #[.int .i64 n] w fun e w' => e = .returned (.string (str (Lib.decDigits n))) ∧ Below w.heap.size w w' := by
  intro n
  induction n using Nat.strongRecOn with
  | _ n ih =>
    intro hn w
    by_cases h : n < 10
    case pos =>
      rw [Lib.decDigits_one h]
      have HS := run_string_row (P := Tryd.prog) 62 5 Tryd.underlying62 Tryd.underlying5 (cap := 1) (one_byte w (48 + n) (by omega) (by omega)) 9 Tryd.underlying9
      have e1 := str_one (48 + n)
      rw [show ((48 + n : Nat) : Int) = 48 + (n : Int) by omega] at e1
      rw [e1] at HS
      generalize str [UInt8.ofNat (48 + n)] = s at HS ⊢
      clear e1 ih
      have hw8 : IntKind.u8.wrap (48 + (n : Int)) = 48 + (n : Int) := by simp [IntKind.wrap, IntKind.signed, IntKind.bits]; omega
      go_enter Tryd.func43, Tryd.ntmps43
      go_wp2
      go_ret
      exact ⟨rfl, below1 _ _⟩
    case neg =>
      have HI : Hid (∀ u, Calls Tryd.prog 43 #[.int .i64 ((n / 10 : Nat) : Int)] u fun e w' => e = .returned (.string (str (Lib.decDigits (n / 10)))) ∧ Below u.heap.size u w') := veil fun u => ih (n / 10) (by omega) (by omega) u
      clear ih
      have HD : Hid (str (Lib.decDigits (n / 10)) ++ str [UInt8.ofNat (48 + n % 10)] = str (Lib.decDigits n)) := veil (by rw [str_app, ← Lib.decDigits.eq_1 n |>.trans (dif_neg h)])
      have hlen : (str (Lib.decDigits (n / 10))).size ≤ 30 := by rw [str_size]; have := dec_len (n / 10) 18 (by omega); omega
      have HSt : Hid (∀ u X, RowK .u8 u (some ⟨X, 0, none⟩) 1 [48 + ((n % 10 : Nat) : Int)] → (convert 62 9 (.slice (some ⟨X, 0, none⟩) 1 1)).run Tryd.prog u = .ok (.string (str [UInt8.ofNat (48 + n % 10)])) u) := veil fun u X r => by
        have := run_string_row (P := Tryd.prog) 62 5 Tryd.underlying62 Tryd.underlying5 (cap := 1) r 9 Tryd.underlying9
        rw [show (48 + ((n % 10 : Nat) : Int)) = ((48 + n % 10 : Nat) : Int) by omega, str_one (48 + n % 10)] at this
        exact this
      have HRw : Hid (∀ u : World, RowK .u8 (u.alloc (.cells #[.int .u8 (48 + ((n % 10 : Nat) : Int))] 5)) (some ⟨u.heap.size, 0, none⟩) 1 [48 + ((n % 10 : Nat) : Int)]) := veil fun u => one_byte u _ (by omega) (by omega)
      obtain ⟨q, hq⟩ : ∃ q : Nat, q = n / 10 := ⟨_, rfl⟩
      obtain ⟨m, hm⟩ : ∃ m : Nat, m = n % 10 := ⟨_, rfl⟩
      have hm9 : m ≤ 9 := by omega
      have hqb : (q : Int) ≤ 9223372036854775807 := by omega
      have HQ : Hid ((n : Int).tdiv 10 = q ∧ (n : Int).tmod 10 = m ∧ (n : Int) / 10 = q ∧ (n : Int) % 10 = m) := veil (by
        refine ⟨?_, ?_, by omega, by omega⟩
        · rw [Int.tdiv_eq_ediv_of_nonneg (by omega)]; omega
        · rw [Int.tmod_eq_emod_of_nonneg (by omega)]; omega)
      rw [← hq] at HI HD hlen
      rw [← hm] at HD HSt HRw
      clear hq hm
      have h' : ¬ (n : Int) < 10 := by omega
      generalize str (Lib.decDigits q) = s1 at HI HD hlen
      have hl2 : (str [UInt8.ofNat (48 + m)]).size = 1 := by rw [str_size]; rfl
      generalize str [UInt8.ofNat (48 + m)] = s2 at HD HSt hl2
      go_enter Tryd.func43, Tryd.ntmps43
      go_upto_region 3 with fail
      refine wp_region_held_drew (S := Below w.heap.size w) (by kernel_rfl) (below_drew w) (fun hHeld => ?_)
      refine wpAnyH_take (i := 0) (v := .int .i64 n) rfl (by kernel_rfl) (by kernel_rfl) (by kernel_rfl) (fun _ _ _ h => h) (Or.inl ⟨by rfl, fun _ _ => by go_simp⟩) hHeld ?_
      simp only [List.getElem_toArray, List.getElem_cons_zero, Act.put, List.setIfInBounds_toArray, List.set_cons_zero, List.set_cons_succ]
      refine wpAnyH_take (i := 1) (v := .int .i64 q) rfl (by kernel_rfl) (by kernel_rfl) (by kernel_rfl) (fun _ _ _ h => h) (Or.inl ⟨by rfl, fun _ _ => by obtain ⟨q1, q2, q3, q4⟩ := unveil HQ; go_simp; rw [IntKind.wrap_i64]; omega⟩) hHeld ?_
      simp only [List.getElem_toArray, List.getElem_cons_zero, List.getElem_cons_succ, Act.put, List.setIfInBounds_toArray, List.set_cons_zero, List.set_cons_succ]
      refine wpAnyH_take (i := 3) (v := .int .i64 n) rfl (by kernel_rfl) (by kernel_rfl) (by kernel_rfl) (fun _ _ _ h => h) (Or.inl ⟨by rfl, fun _ _ => by go_simp⟩) hHeld ?_
      simp only [List.getElem_toArray, List.getElem_cons_zero, List.getElem_cons_succ, Act.put, List.setIfInBounds_toArray, List.set_cons_zero, List.set_cons_succ]
      refine wpAnyH_take (i := 4) (v := .int .i64 m) rfl (by kernel_rfl) (by kernel_rfl) (by kernel_rfl) (fun _ _ _ h => h) (Or.inl ⟨by rfl, fun _ _ => by obtain ⟨q1, q2, q3, q4⟩ := unveil HQ; go_simp⟩) hHeld ?_
      simp only [List.getElem_toArray, List.getElem_cons_zero, List.getElem_cons_succ, Act.put, List.setIfInBounds_toArray, List.set_cons_zero, List.set_cons_succ]
      refine wpAnyH_take (i := 5) (v := .int .i64 (48 + (m : Int))) rfl (by kernel_rfl) (by kernel_rfl) (by kernel_rfl) (fun _ _ _ h => h) (Or.inl ⟨by rfl, fun _ _ => by go_simp; rw [IntKind.wrap_i64]; omega⟩) hHeld ?_
      simp only [List.getElem_toArray, List.getElem_cons_zero, List.getElem_cons_succ, Act.put, List.setIfInBounds_toArray, List.set_cons_zero, List.set_cons_succ]
      refine wpAnyH_take (i := 6) (v := .int .u8 (48 + (m : Int))) rfl (by kernel_rfl) (by kernel_rfl) (by kernel_rfl) (fun _ _ _ h => h) (Or.inl ⟨by rfl, fun _ _ => by have h8 : IntKind.u8.wrap (48 + (m : Int)) = 48 + (m : Int) := by { simp [IntKind.wrap, IntKind.signed, IntKind.bits]; omega }; go_simp⟩) hHeld ?_
      simp only [List.getElem_toArray, List.getElem_cons_zero, List.getElem_cons_succ, Act.put, List.setIfInBounds_toArray, List.set_cons_zero, List.set_cons_succ]
      have bW0 := below_drew w
      obtain ⟨W0, hW0⟩ : ∃ W0, W0 = w.drew := ⟨_, rfl⟩
      rw [← hW0] at bW0  hHeld ⊢
      clear hW0
      refine wpAnyH_ready (rs := [2, 7]) (by kernel_rfl) (by simp) ?_
      refine AllReadyH.cons rfl (fun K hK => ?_) (AllReadyH.cons rfl (fun K hK => ?_) AllReadyH.nil)
      · simp only [List.getElem_toArray, List.getElem_cons_zero, List.getElem_cons_succ]
        go_simp
        refine (unveil HI W0).mono ?_
        rintro e W1 ⟨rfl, bn⟩
        have bW1 := Below.next bW0 bn
        clear bn
        refine hK.out _ _ bW1 (fun hHeld => ?_)
        clear hK K
        refine wpAnyH_ready (rs := [7]) (by kernel_rfl) (by simp) ?_
        refine AllReadyH.cons rfl (fun K hK => ?_) AllReadyH.nil
        simp only [List.getElem_toArray, List.getElem_cons_zero, List.getElem_cons_succ]
        go_simp
        obtain ⟨W2, hN, r7, bn⟩ : ∃ W, W = W1.alloc (.cells #[.int .u8 (48 + (m : Int))] 5) ∧ RowK .u8 W (some ⟨W1.heap.size, 0, none⟩) 1 [48 + (m : Int)] ∧ Below W1.heap.size W1 W := ⟨_, rfl, unveil HRw W1, below1 _ _⟩
        rw [← hN]
        clear hN
        obtain ⟨X, hX⟩ : ∃ X, X = W1.heap.size := ⟨_, rfl⟩
        rw [← hX] at r7 ⊢
        clear hX
        have bW2 := Below.next bW1 bn
        clear bn
        refine hK.out _ _ bW2 (fun hHeld => ?_)
        clear hK K
        refine wpAnyH_ready (rs := [8]) (by kernel_rfl) (by simp) ?_
        refine AllReadyH.cons rfl (fun K hK => ?_) AllReadyH.nil
        simp only [List.getElem_toArray, List.getElem_cons_zero, List.getElem_cons_succ]
        have hs := unveil HSt W2 X r7
        go_simp
        refine hK.out _ _ bW2 (fun hHeld => ?_)
        clear hK K
        refine wpAnyH_take (i := 9) (v := .string (s1 ++ s2)) rfl (by kernel_rfl) (by kernel_rfl) (by kernel_rfl) (fun _ _ _ h => h) (Or.inl ⟨by rfl, fun _ _ => by go_simp; omega⟩) hHeld ?_
        simp only [List.getElem_toArray, List.getElem_cons_zero, List.getElem_cons_succ, Act.put, List.setIfInBounds_toArray, List.set_cons_zero, List.set_cons_succ]
        refine wpAnyH_take (i := 10) (v := .string (s1 ++ s2)) rfl (by kernel_rfl) (by kernel_rfl) (by kernel_rfl) (fun _ _ _ h => h) (Or.inl ⟨by rfl, fun _ _ => by go_simp⟩) hHeld ?_
        simp only [List.getElem_toArray, List.getElem_cons_zero, List.getElem_cons_succ, Act.put, List.setIfInBounds_toArray, List.set_cons_zero, List.set_cons_succ]
        refine wpAnyH_done (by kernel_rfl) ?_ _
        go_wp2_with fail
        go_ret
        exact ⟨congrArg (fun s => Ending.returned (Value.string s)) (unveil HD), by assumption⟩
      · simp only [List.getElem_toArray, List.getElem_cons_zero, List.getElem_cons_succ]
        go_simp
        obtain ⟨W1, hN, r7, bn⟩ : ∃ W, W = W0.alloc (.cells #[.int .u8 (48 + (m : Int))] 5) ∧ RowK .u8 W (some ⟨W0.heap.size, 0, none⟩) 1 [48 + (m : Int)] ∧ Below W0.heap.size W0 W := ⟨_, rfl, unveil HRw W0, below1 _ _⟩
        rw [← hN]
        clear hN
        obtain ⟨X, hX⟩ : ∃ X, X = W0.heap.size := ⟨_, rfl⟩
        rw [← hX] at r7 ⊢
        clear hX
        have bW1 := Below.next bW0 bn
        clear bn
        refine hK.out _ _ bW1 (fun hHeld => ?_)
        clear hK K
        refine wpAnyH_ready (rs := [2, 8]) (by kernel_rfl) (by simp) ?_
        refine AllReadyH.cons rfl (fun K hK => ?_) (AllReadyH.cons rfl (fun K hK => ?_) AllReadyH.nil)
        · simp only [List.getElem_toArray, List.getElem_cons_zero, List.getElem_cons_succ]
          go_simp
          refine (unveil HI W1).mono ?_
          rintro e W2 ⟨rfl, bn⟩
          have bW2 := Below.next bW1 bn
          have r7 := r7.below bn
          clear bn
          refine hK.out _ _ bW2 (fun hHeld => ?_)
          clear hK K
          refine wpAnyH_ready (rs := [8]) (by kernel_rfl) (by simp) ?_
          refine AllReadyH.cons rfl (fun K hK => ?_) AllReadyH.nil
          simp only [List.getElem_toArray, List.getElem_cons_zero, List.getElem_cons_succ]
          have hs := unveil HSt W2 X r7
          go_simp
          refine hK.out _ _ bW2 (fun hHeld => ?_)
          clear hK K
          refine wpAnyH_take (i := 9) (v := .string (s1 ++ s2)) rfl (by kernel_rfl) (by kernel_rfl) (by kernel_rfl) (fun _ _ _ h => h) (Or.inl ⟨by rfl, fun _ _ => by go_simp; omega⟩) hHeld ?_
          simp only [List.getElem_toArray, List.getElem_cons_zero, List.getElem_cons_succ, Act.put, List.setIfInBounds_toArray, List.set_cons_zero, List.set_cons_succ]
          refine wpAnyH_take (i := 10) (v := .string (s1 ++ s2)) rfl (by kernel_rfl) (by kernel_rfl) (by kernel_rfl) (fun _ _ _ h => h) (Or.inl ⟨by rfl, fun _ _ => by go_simp⟩) hHeld ?_
          simp only [List.getElem_toArray, List.getElem_cons_zero, List.getElem_cons_succ, Act.put, List.setIfInBounds_toArray, List.set_cons_zero, List.set_cons_succ]
          refine wpAnyH_done (by kernel_rfl) ?_ _
          go_wp2_with fail
          go_ret
          exact ⟨congrArg (fun s => Ending.returned (Value.string s)) (unveil HD), by assumption⟩
        · simp only [List.getElem_toArray, List.getElem_cons_zero, List.getElem_cons_succ]
          have hs := unveil HSt W1 X r7
          go_simp
          refine hK.out _ _ bW1 (fun hHeld => ?_)
          clear hK K
          refine wpAnyH_ready (rs := [2]) (by kernel_rfl) (by simp) ?_
          refine AllReadyH.cons rfl (fun K hK => ?_) AllReadyH.nil
          simp only [List.getElem_toArray, List.getElem_cons_zero, List.getElem_cons_succ]
          go_simp
          refine (unveil HI W1).mono ?_
          rintro e W2 ⟨rfl, bn⟩
          have bW2 := Below.next bW1 bn
          have r7 := r7.below bn
          clear bn
          refine hK.out _ _ bW2 (fun hHeld => ?_)
          clear hK K
          refine wpAnyH_take (i := 9) (v := .string (s1 ++ s2)) rfl (by kernel_rfl) (by kernel_rfl) (by kernel_rfl) (fun _ _ _ h => h) (Or.inl ⟨by rfl, fun _ _ => by go_simp; omega⟩) hHeld ?_
          simp only [List.getElem_toArray, List.getElem_cons_zero, List.getElem_cons_succ, Act.put, List.setIfInBounds_toArray, List.set_cons_zero, List.set_cons_succ]
          refine wpAnyH_take (i := 10) (v := .string (s1 ++ s2)) rfl (by kernel_rfl) (by kernel_rfl) (by kernel_rfl) (fun _ _ _ h => h) (Or.inl ⟨by rfl, fun _ _ => by go_simp⟩) hHeld ?_
          simp only [List.getElem_toArray, List.getElem_cons_zero, List.getElem_cons_succ, Act.put, List.setIfInBounds_toArray, List.set_cons_zero, List.set_cons_succ]
          refine wpAnyH_done (by kernel_rfl) ?_ _
          go_wp2_with fail
          go_ret
          exact ⟨congrArg (fun s => Ending.returned (Value.string s)) (unveil HD), by assumption⟩
end Go.Proofs.YtekbdkppnjnaaaaDoor
