/-
  The document's System (after Nam5, for seats without numbers' texts).
-/
import Derived.Test.YtpndcbilnbihaabDoorNam2
namespace Go.Proofs.YtpndcbilnbihaabDoor
open Go.RowKit

namespace Nam
theorem okc_dg {c : UInt8} (h0 : 48 ≤ (c.toNat : Int)) (h1 : (c.toNat : Int) ≤ 57) : okc c = true := by simp [okc, dg, h0, h1]
theorem okc_sm {c : UInt8} (h0 : 97 ≤ (c.toNat : Int)) (h1 : (c.toNat : Int) ≤ 122) : okc c = true := by simp [okc, sm, h0, h1]
theorem dg_sm {c : UInt8} (h0 : 97 ≤ (c.toNat : Int)) : dg (c.toNat : Int) = false := by
  have : ¬ (c.toNat : Int) ≤ 57 := by omega
  unfold dg; rw [decide_eq_false this, Bool.and_false]
theorem okc_bad {c : UInt8} (h : (c.toNat : Int) < 48 ∨ (57 < (c.toNat : Int) ∧ (c.toNat : Int) < 97) ∨ 122 < (c.toNat : Int)) : okc c = false := by
  cases e : okc c with
  | false => rfl
  | true => simp [okc, dg, sm] at e; omega
theorem system_head {s : ByteArray} (hp : 0 < s.size) (h : (s[0].toNat : Int) < 97 ∨ 122 < (s[0].toNat : Int)) : system s.data.toList = false := by
  by_cases hd : dg (s[0].toNat : Int) = true
  · exact system_dig (by rw [Oct.headD_at s hp]; exact hd)
  · refine system_not (Oct.mem_at s 0 hp) ?_
    apply okc_bad
    simp [dg] at hd
    omega
end Nam

end Go.Proofs.YtpndcbilnbihaabDoor
