/-
  Layer 6: the document's disk: burn.
-/
import Derived.Test.YtempiajepomajaaRf7
namespace Go.Proofs.Ytempiajepomajaa
open Go.RowKit

set_option maxHeartbeats 1000000 in
theorem rburn_any (sa : Option Addr) (sn sc : Nat) (oa : Option Addr) (on oc : Nat) (cap fuse : Int) (down : Bool) (w : World) (hf : -1 ≤ fuse) (hf' : fuse ≤ 9223372036854775807) :
    Calls Try.prog 56 #[.agg #[.slice sa sn sc, .slice oa on oc, .int .i64 cap, .int .i64 fuse, .bool down]] w fun e w' =>
      e = .returned (.tuple #[.agg #[.slice sa sn sc, .slice oa on oc, .int .i64 cap, .int .i64 (if fuse > 0 then fuse - 1 else fuse), .bool (down || decide (fuse = 0))], .bool (!decide (fuse = 0))]) ∧ Below w.heap.size w w' := by
  by_cases h0 : fuse = 0
  · subst h0
    go_enter Try.func56, Try.ntmps56
    go_wp2
    exact bodyPost_ret (v := .tuple #[.agg #[.slice sa sn sc, .slice oa on oc, .int .i64 cap, .int .i64 0, .bool true], .bool false]) (by simp [results, Try.results56, go_sem]) rfl ⟨rfl, Rg.al2 _ _ _⟩
  · have d0 : (fuse == 0) = false := by simp [h0]
    by_cases h1 : 0 < fuse
    · have d1 : decide (0 < fuse) = true := by simp [h1]
      have e1 : Hid ((if fuse > 0 then fuse - 1 else fuse) = fuse - 1) := if_pos h1
      have e2 : Hid ((down || decide (fuse = 0)) = down) := by show _ = _; simp [h0]
      have e3 : Hid ((!decide (fuse = 0)) = true) := by show _ = _; simp [h0]
      rw [e1.out, e2.out, e3.out]
      go_enter Try.func56, Try.ntmps56
      go_wp2
      exact bodyPost_ret (v := .tuple #[.agg #[.slice sa sn sc, .slice oa on oc, .int .i64 cap, .int .i64 (fuse - 1), .bool down], .bool true]) (by simp [results, Try.results56, go_sem]) rfl ⟨rfl, Rg.al2 _ _ _⟩
    · have d1 : decide (0 < fuse) = false := by simp; omega
      have e1 : Hid ((if fuse > 0 then fuse - 1 else fuse) = fuse) := if_neg h1
      have e2 : Hid ((down || decide (fuse = 0)) = down) := by show _ = _; simp [h0]
      have e3 : Hid ((!decide (fuse = 0)) = true) := by show _ = _; simp [h0]
      rw [e1.out, e2.out, e3.out]
      go_enter Try.func56, Try.ntmps56
      go_wp2
      exact bodyPost_ret (v := .tuple #[.agg #[.slice sa sn sc, .slice oa on oc, .int .i64 cap, .int .i64 fuse, .bool down], .bool true]) (by simp [results, Try.results56, go_sem]) rfl ⟨rfl, Rg.al2 _ _ _⟩

end Go.Proofs.Ytempiajepomajaa
