/- Walk of the document's whole. -/
import Derived.Test.YtekbdkppnjnaaaaDoorLoF
namespace Go.Proofs.YtekbdkppnjnaaaaDoor
open Go.RowKit

/-- a number's digits, without noughts ahead, ten at most; -1: none. -/
def wholeI (l : List UInt8) : Int := if l.length = 0 ∨ 10 < l.length ∨ (l.head? = some 48 ∧ 1 < l.length) then -1 else match Lib.decFrom 0 l with
  | some n => (n : Int)
  | none => -1
theorem str_at (l : List UInt8) (i : Nat) (h : i < l.length) : (str l)[i]'(by rw [str_size]; exact h) = l[i] := by
  simp [str, ByteArray.getElem_eq_getElem_data]
theorem dec_take_next {l : List UInt8} {k m d : Nat} (hk : k < l.length) (h : Lib.decFrom 0 (l.take k) = some m) (hd : Lib.digitVal l[k] = some d) : Lib.decFrom 0 (l.take (k + 1)) = some (m * 10 + d) := by
  rw [List.take_add_one, List.getElem?_eq_getElem hk, decFrom_app, h]
  simp [Lib.decFrom, hd]
theorem dec_take_none {l : List UInt8} {k m : Nat} (hk : k < l.length) (h : Lib.decFrom 0 (l.take k) = some m) (hd : Lib.digitVal l[k] = none) : Lib.decFrom 0 l = none := by
  have e : l = l.take k ++ l.drop k := (List.take_append_drop k l).symm
  rw [e, decFrom_app, h, List.drop_eq_getElem_cons hk]
  simp [Lib.decFrom, hd]
theorem wholeI_is {l : List UInt8} (h1 : ¬ l.length = 0) (h2 : ¬ 10 < l.length) (h3 : ¬ (l[0]'(by omega)).toNat = 48 ∨ l.length ≤ 1) : wholeI l = match Lib.decFrom 0 l with
    | some n => (n : Int)
    | none => -1 := by
  refine if_neg fun e => ?_
  rcases e with e | e | ⟨e, e'⟩
  · exact h1 e
  · exact h2 e
  · rcases h3 with h3 | h3
    · refine h3 ?_
      rw [List.head?_eq_getElem?, List.getElem?_eq_getElem (by omega)] at e
      rw [Option.some.inj e]
      rfl
    · omega
set_option maxRecDepth 20000 in
set_option maxHeartbeats 4000000 in
theorem whole_any (l : List UInt8) (hl : l.length ≤ 4000000) (w : World) : Calls Tryd.prog 51 #[.string (str l)] w fun e w' => e = .returned (.int .i64 (wholeI l)) ∧ w' = w := by
  have hs : (str l).size = l.length := str_size l
  by_cases h1 : l.length = 0
  · have e : wholeI l = -1 := if_pos (.inl h1)
    rw [e]
    rw [h1] at hs
    go_enter Tryd.func51, Tryd.ntmps51
    go_wp2
    go_ret
    exact ⟨rfl, rfl⟩
  by_cases h2 : 10 < l.length
  · have e : wholeI l = -1 := if_pos (.inr (.inl h2))
    rw [e]
    go_enter Tryd.func51, Tryd.ntmps51
    go_wp2
    go_ret
    exact ⟨rfl, rfl⟩
  have hat : ∀ i (h : i < l.length), (str l)[i]'(by rw [str_size]; exact h) = l[i] := fun i h => str_at l i h
  have h0 : 0 < l.length := by omega
  by_cases h3 : (l[0].toNat = 48) ∧ 1 < l.length
  · have e : wholeI l = -1 := if_pos (.inr (.inr ⟨by
      rw [List.head?_eq_getElem?, List.getElem?_eq_getElem h0]
      congr 1
      exact UInt8.toNat_inj.1 h3.1, h3.2⟩))
    rw [e]
    have h3' : (l[0].toNat : Int) = 48 := by omega
    have h4' : (1 : Int) < l.length := by omega
    have h5' : ((l.length : Int) == 0) = false := beq_eq_false_iff_ne.2 (by omega)
    have h6' : (l.length : Int) ≤ 10 := by omega
    go_enter Tryd.func51, Tryd.ntmps51
    go_wp2
    go_ret
    exact ⟨rfl, rfl⟩
  have HW : Hid (wholeI l = match Lib.decFrom 0 l with
    | some n => (n : Int)
    | none => -1) := veil (wholeI_is h1 h2 (by omega))
  have h5' : ((l.length : Int) == 0) = false := beq_eq_false_iff_ne.2 (by omega)
  have h6' : (l.length : Int) ≤ 10 := by omega
  have h3' : ((l[0].toNat : Int) = 48 ∧ (l.length : Int) ≤ 1) ∨ ¬ ((l[0].toNat : Int) = 48) := by omega
  obtain ⟨r, hr⟩ : ∃ r, r = wholeI l := ⟨_, rfl⟩
  rw [← hr] at HW ⊢
  clear hr h3
  rcases h3' with ⟨h3, h4⟩ | h3
  all_goals
    go_enter Tryd.func51, Tryd.ntmps51
    go_wp2
    go_loopw [3, 4] (fun nv t wr => ∃ k m : Nat, k ≤ l.length ∧ t = .int .i64 k ∧ nv = .int .i64 m ∧ m < 10 ^ k ∧ Hid (Lib.decFrom 0 (l.take k) = some m) ∧ wr = w) (fun _ t _ => l.length - (intOf t).toNat)
    case atStart => exact ⟨0, 0, Nat.zero_le _, rfl, rfl, by decide, veil rfl, rfl⟩
    case round =>
      obtain ⟨k, m, hk, rfl, rfl, hm, HD, rfl⟩ := hrel
      by_cases hlt : k < l.length
      case neg =>
        obtain rfl : k = l.length := by omega
        have er : r = (m : Int) := by
          have := unveil HD
          rw [List.take_length] at this
          rw [unveil HW, this]
        subst er
        go_wp2
        go_ret
        exact ⟨rfl, rfl⟩
      case pos =>
        have hm2 : m < 10000000000 := by
          have : (10 : Nat) ^ k ≤ 10 ^ 10 := Nat.pow_le_pow_right (by decide) (by omega)
          have e10 : (10 : Nat) ^ 10 = 10000000000 := by decide
          omega
        have hck := hat k hlt
        have hki : (k : Int) < (l.length : Int) := by omega
        have HN : Hid (¬ (48 ≤ l[k].toNat ∧ l[k].toNat ≤ 57) → r = -1) := veil fun h => by
          have hd : Lib.digitVal l[k] = none := if_neg h
          rw [unveil HW, dec_take_none hlt (unveil HD) hd]
        have HY : Hid (48 ≤ l[k].toNat ∧ l[k].toNat ≤ 57 → Lib.decFrom 0 (l.take (k + 1)) = some (m * 10 + (l[k].toNat - 48))) := veil fun h => dec_take_next hlt (unveil HD) (if_pos h)
        obtain ⟨z, hz⟩ : ∃ z, z = l[k].toNat := ⟨_, rfl⟩
        rw [← hz] at HN HY
        by_cases c1 : z < 48
        case pos =>
          obtain rfl : r = -1 := unveil HN (by omega)
          have c1' : (l[k].toNat : Int) < 48 := by omega
          clear HN HY HD hz
          go_wp2
          go_ret
          exact ⟨rfl, rfl⟩
        case neg =>
          by_cases c2 : 57 < z
          case pos =>
            obtain rfl : r = -1 := unveil HN (by omega)
            have c1' : ¬ ((l[k].toNat : Int) < 48) := by omega
            have c2' : (57 : Int) < (l[k].toNat : Int) := by omega
            clear HN HY HD hz
            go_wp2
            go_ret
            exact ⟨rfl, rfl⟩
          case neg =>
            have HY2 := veil (unveil HY (by omega))
            have c1' : ¬ ((l[k].toNat : Int) < 48) := by omega
            have c2' : ¬ ((57 : Int) < (l[k].toNat : Int)) := by omega
            obtain ⟨d, hd⟩ : ∃ d : Nat, z = d + 48 := ⟨z - 48, by omega⟩
            have hd2 : (l[k].toNat : Int) = (d : Int) + 48 := by omega
            clear HN HY HD hz
            go_wp2
            refine ⟨⟨k + 1, m * 10 + d, by omega, congrArg (Value.int .i64) (by omega), congrArg (Value.int .i64) (by omega), by rw [Nat.pow_succ]; omega, veil ?_, trivial⟩, by simp [intOf]; omega⟩
            have := unveil HY2
            rwa [hd, Nat.add_sub_cancel] at this
end Go.Proofs.YtekbdkppnjnaaaaDoor
