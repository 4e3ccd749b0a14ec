/-
  Layer 8: Tick.
-/
import Derived.Test.YteepfifglafjmaaDoorCh29
namespace Go.Proofs.YteepfifglafjmaaDoor
open Go.RowKit

namespace Ch
theorem run_len (B : Nat) : ∀ (n : Nat) (c : Co) (out : List UInt8), (∀ x ∈ c.steps, x.send.size ≤ B) → (run n c out).2.length ≤ out.length + n * B
  | 0, c, out, _ => by simp [run]
  | n + 1, c, out, h => by
    unfold run
    split
    · split
      · split
        · have ih := run_len B n { c with seen := (Lib.cut c.seen (wanted c).data.toList).2.1, step := c.step + 1, want := 0, wait := 0 } (out ++ (at_ c).send.data.toList) h
          have hs : (at_ c).send.data.toList.length ≤ B := by
            show (at_ c).send.size ≤ B
            unfold at_
            rw [List.getD_eq_getElem?_getD]
            cases hh : c.steps[c.step.toNat]? with
            | none => exact Nat.zero_le _
            | some y => exact h y (List.mem_of_getElem? hh)
          rw [List.length_append] at ih
          rw [Nat.succ_mul]
          omega
        · simp
      · simp
    · simp
/-- a tick -/
def tick (c : Co) : Co × List UInt8 := if c.over = true ∨ c.failed = true then (c, []) else if c.wait + 1 ≤ c.pat then ({ c with wait := c.wait + 1 }, []) else match nudgeOf c with
    | none => ({ c with wait := c.wait + 1, failed := true }, [])
    | some s => ((goOn { c with want := c.want + 1, wait := 0 }).1, s.data.toList ++ (goOn { c with want := c.want + 1, wait := 0 }).2)
end Ch
/-- what a tick asks of a chat -/
structure TOk (c : Ch.Co) : Prop where
  ok : COk c
  wait : 0 ≤ c.wait ∧ c.wait ≤ 1000000
  want : -1000000 ≤ c.want ∧ c.want ≤ 1000000
  nudge : ∀ x ∈ c.steps, ∀ s ∈ x.nudge, s.size ≤ 100000
theorem nudge_size {c : Ch.Co} (h : TOk c) {s : ByteArray} (hs : Ch.nudgeOf c = some s) : s.size ≤ 100000 := by
  unfold Ch.nudgeOf at hs
  split at hs
  · rename_i h1
    split at hs
    · rename_i h2
      cases hs
      have hk : c.step.toNat < c.steps.length := by omega
      have hat : Ch.at_ c = c.steps[c.step.toNat] := by
        unfold Ch.at_
        rw [List.getD_eq_getElem?_getD, List.getElem?_eq_getElem hk]
        rfl
      rw [hat] at h2 ⊢
      have hm : c.want.toNat < c.steps[c.step.toNat].nudge.length := by omega
      rw [List.getD_eq_getElem?_getD, List.getElem?_eq_getElem hm]
      exact h.nudge _ (List.getElem_mem hk) _ (List.getElem_mem hm)
    · cases hs
  · cases hs
theorem tick_any (v0 : Value) (c0 : Ch.Co) (w : World) (hm : MaxIn w) (hc : TOk c0) (hA : CAt w v0 c0) : Calls Tryd.prog 14 #[v0] w fun e w' => GPost w (Ch.tick c0) e w' := by
  unfold Ch.tick
  have hA0 := hA
  obtain ⟨sa, sc, vs, rfl, hrow, hsts, hsc⟩ := hA
  by_cases hd : c0.over = true ∨ c0.failed = true
  · rw [if_pos hd]
    exact tick_done sa _ sc c0.step c0.want _ c0.wait c0.pat c0.over c0.failed c0 w (Rg.hid hA0) (by rcases hd with h | h <;> simp [h])
  · rw [if_neg hd]
    have hd2 : (c0.over || c0.failed) = false := by
      simp only [not_or, Bool.not_eq_true] at hd
      rw [hd.1, hd.2]; rfl
    have hw := hc.wait
    have hw1 : IntKind.i64.wrap (c0.wait + 1) = c0.wait + 1 := by rw [IntKind.wrap_i64]; omega
    by_cases hle : c0.wait + 1 ≤ c0.pat
    · rw [if_pos hle]
      exact tick_wait sa _ sc c0.step c0.want _ c0.wait c0.pat c0.over c0.failed (c0.wait + 1) { c0 with wait := c0.wait + 1 } w hd2 hw1 hle (Rg.hid ⟨sa, sc, vs, rfl, hrow, hsts, hsc⟩)
    · rw [if_neg hle]
      have HN0 : ∀ W, Below w.heap.size w W → Calls Tryd.prog 28 #[.agg #[.slice sa c0.steps.length sc, .int .i64 c0.step, .int .i64 c0.want, .string ⟨c0.seen.toArray⟩, .int .i64 (c0.wait + 1), .int .i64 c0.pat, .bool c0.over, .bool c0.failed]] W fun e w' => NPost W (Ch.nudgeOf c0) e w' := fun W hW => nudge_any sa sc vs { c0 with wait := c0.wait + 1 } W (hrow.below hW) (hsts.below hW)
      cases hn : Ch.nudgeOf c0 with
      | none =>
        rw [hn] at HN0
        exact tick_fail sa _ sc c0.step c0.want _ c0.wait c0.pat c0.over c0.failed (c0.wait + 1) { c0 with wait := c0.wait + 1, failed := true } w hd2 hw1 hle (fun W hW => (HN0 W hW).mono fun e w' h => ⟨h.2, h.1⟩) (Rg.hid ⟨sa, sc, vs, rfl, hrow, hsts, hsc⟩)
      | some s =>
        rw [hn] at HN0
        have hs := nudge_size hc hn
        have hwt := hc.want
        have hlen : (Ch.goOn { c0 with want := c0.want + 1, wait := 0 }).2.length ≤ (c0.steps.length + 1) * 100000 := by
          have := Ch.run_len 100000 (c0.steps.length + 1) { c0 with want := c0.want + 1, wait := 0 } [] hc.ok.send
          simpa [Ch.goOn] using this
        have hl := hc.ok.len
        exact tick_go sa _ sc c0.step c0.want _ c0.wait c0.pat c0.over c0.failed (c0.wait + 1) (c0.want + 1) s (Ch.goOn { c0 with want := c0.want + 1, wait := 0 }) w hd2 hw1 hle (fun W hW => (HN0 W hW).mono fun e w' h => ⟨h.2, h.1⟩) (by rw [IntKind.wrap_i64]; omega) (by omega) (fun W hW => (goon_any _ { c0 with want := c0.want + 1, wait := 0 } W (hm.below hW) ⟨sa, sc, vs, rfl, hrow.below hW, hsts.below hW, hsc⟩ hc.ok.len (by have := hc.ok.seen; show c0.seen.length ≤ _; omega) hc.ok.send hc.ok.step).mono fun e w' q => q.ex)
end Go.Proofs.YteepfifglafjmaaDoor
