/- The law package's sameQueue, at two boxes. -/
import Derived.Test.YtbhlpiomoookcaaLsGz
namespace Go.Proofs.Ytbhlpiomoookcaa
open Go.RowKit

theorem sameBx {w : World} {R R' : Nat} {s : St} {a1 : Option Addr} {c1 : Nat} {a2 : Option Addr} {c2 : Nat} {ws : Nat → Value} {b1 : Option Addr} {d1 : Nat} {b2 : Option Addr} {d2 : Nat} {vs : Nat → Value} (h : Bx w R s a1 c1 a2 c2 ws) (h' : Bx w R' s b1 d1 b2 d2 vs) (hr : s.rn ≤ 9000000000000) (hl : s.ln ≤ 9000000000000) :
    Calls Try.prog 15 #[qVal s.ep s.nx s.gv (.slice a1 s.rn c1) (.slice a2 s.ln c2) ws, qVal s.ep s.nx s.gv (.slice b1 s.rn d1) (.slice b2 s.ln d2) vs] w fun e w' => e = .returned (.bool true) ∧ Below w.heap.size w w' :=
  sameQueueL_yes s a1 c1 a2 c2 ws b1 d1 b2 d2 vs w h.r1 h.r2 h'.r1 h'.r2 h.wins h'.wins hr hl
end Go.Proofs.Ytbhlpiomoookcaa
