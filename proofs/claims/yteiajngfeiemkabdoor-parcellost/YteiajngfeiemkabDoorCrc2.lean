/-
  Walks of layer 2: Crc, Xor and the document's More, Crc, Xor.
-/
import Derived.Test.YteiajngfeiemkabDoorCrc
namespace Go.Proofs.YteiajngfeiemkabDoor
open Go.RowKit

theorem crc_any (s : ByteArray) (w : World) (hs : s.size ≤ maxLen) :
    Calls Tryd.prog 7 #[.string s] w fun e w' => e = .returned (.int .i64 (Chk.more 0 s.data.toList)) ∧ w' = w := by
  have HA := more_any 0 s w hs
  go_enter Tryd.func7, Tryd.ntmps7
  go_wp2_with (go_at_call 15; refine HA.mono ?_; rintro e w' ⟨rfl, rfl⟩)
  go_ret
  exact ⟨rfl, rfl⟩

end Go.Proofs.YteiajngfeiemkabDoor
