/- What the bound of the second form gives: how long a slice of it may be. -/
import Derived.Test.YtbhlpiomoookcaaGreatRows
namespace Go.Proofs.YtbhlpiomoookcaaGreat

theorem bulk_pos {H : Type} (d : DataW H) : 0 < Rows.uptoBulk d := by
  cases d with
  | lit l => cases l <;> simp [Rows.uptoBulk]
  | _ => simp [Rows.uptoBulk]
theorem bulk_many {H : Type} (l : List (DataW H)) : l.length ≤ Rows.uptoBulkAll l := by
  induction l with
  | nil => exact Nat.zero_le _
  | cons d l ih =>
    have := bulk_pos d
    simp only [Rows.uptoBulkAll, List.length_cons]
    omega
theorem bulk_mem {H : Type} {d : DataW H} : ∀ {l : List (DataW H)}, d ∈ l → Rows.uptoBulk d ≤ Rows.uptoBulkAll l
  | x :: l, h => by
    simp only [Rows.uptoBulkAll]
    rcases List.mem_cons.1 h with rfl | h
    · omega
    · have := bulk_mem h
      omega
/-- a slice that came in, where all that came in is small. -/
theorem bulk_row {H : Type} {ds : List (DataW H)} {d : DataW H} {cap : Nat} (hu : Rows.uptoBulkAll ds ≤ 1048576) (hm : d ∈ ds)
    (hc : (d = .nil ∧ cap = 0) ∨ ∃ es sp, d = .slice es sp ∧ es.length + sp.length = cap) : cap ≤ 1048576 := by
  rcases hc with ⟨_, rfl⟩ | ⟨es, sp, rfl, rfl⟩
  · exact Nat.zero_le _
  · have h1 := bulk_mem hm
    have h2 := bulk_many es
    have h3 := bulk_many sp
    simp only [Rows.uptoBulk] at h1
    omega
end Go.Proofs.YtbhlpiomoookcaaGreat
