/-
  Layer 8: Tick.
-/
import Derived.Test.YtpggnhnpphbaeaaDoorCh29
namespace Go.Proofs.YtpggnhnpphbaeaaDoor
open Go.RowKit

namespace Ch
theorem run_len (B : Nat) : ∀ (n : Nat) (c : Co) (out : List UInt8), (∀ x ∈ c.steps, x.send.size ≤ B) → (run n c out).2.length ≤ out.length + n * B
  | 0, c, out, _ => by simp [run]
  | n + 1, c, out, h => by
    unfold run
    split
    · split
      · split
        · have ih := run_len B n { c with seen := (Lib.cut c.seen (wanted c).data.toList).2.1, step := c.step + 1, want := 0, wait := 0 } (out ++ (at_ c).send.data.toList) h
          have hs : (at_ c).send.data.toList.length ≤ B := by
            show (at_ c).send.size ≤ B
            unfold at_
            rw [List.getD_eq_getElem?_getD]
            cases hh : c.steps[c.step.toNat]? with
            | none => exact Nat.zero_le _
            | some y => exact h y (List.mem_of_getElem? hh)
          rw [List.length_append] at ih
          rw [Nat.succ_mul]
          omega
        · simp
      · simp
    · simp
/-- a tick -/
def tick (c : Co) : Co × List UInt8 := if c.over = true ∨ c.failed = true then (c, []) else if c.wait + 1 ≤ c.pat then ({ c with wait := c.wait + 1 }, []) else match nudgeOf c with
    | none => ({ c with wait := c.wait + 1, failed := true }, [])
    | some s => ((goOn { c with want := c.want + 1, wait := 0 }).1, s.data.toList ++ (goOn { c with want := c.want + 1, wait := 0 }).2)
end Ch
/-- what a tick asks of a chat -/
structure TOk (c : Ch.Co) : Prop where
  ok : COk c
  wait : 0 ≤ c.wait ∧ c.wait ≤ 1000000
  want : -1000000 ≤ c.want ∧ c.want ≤ 1000000
  nudge : ∀ x ∈ c.steps, ∀ s ∈ x.nudge, s.size ≤ 100000
theorem nudge_size {c : Ch.Co} (h : TOk c) {s : ByteArray} (hs : Ch.nudgeOf c = some s) : s.size ≤ 100000 := by
  unfold Ch.nudgeOf at hs
  split at hs
  · rename_i h1
    split at hs
    · rename_i h2
      cases hs
      have hk : c.step.toNat < c.steps.length := by omega
      have hat : Ch.at_ c = c.steps[c.step.toNat] := by
        unfold Ch.at_
        rw [List.getD_eq_getElem?_getD, List.getElem?_eq_getElem hk]
        rfl
      rw [hat] at h2 ⊢
      have hm : c.want.toNat < c.steps[c.step.toNat].nudge.length := by omega
      rw [List.getD_eq_getElem?_getD, List.getElem?_eq_getElem hm]
      exact h.nudge _ (List.getElem_mem hk) _ (List.getElem_mem hm)
    · cases hs
  · cases hs
end Go.Proofs.YtpggnhnpphbaeaaDoor
