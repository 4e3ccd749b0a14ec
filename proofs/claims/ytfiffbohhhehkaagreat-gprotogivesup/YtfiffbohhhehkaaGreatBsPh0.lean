/-
  Layer 15: what happens to two ends, in memory; Right over a drive by its cells.
-/
import Derived.Test.YtfiffbohhhehkaaGreatBuLawA
import Derived.Test.YtfiffbohhhehkaaGreatBsMathGk
namespace Go.Proofs.YtfiffbohhhehkaaGreat
open Go.RowKit
namespace Gp
/-- What happens. -/
structure Op5 where
  k : Int
  y : Int
  n : Int
  b : Int
  s : ByteArray
end Gp
/-- its cells -/
def goE : Rg.El Gp.Op5 := { enc := fun o => [.int .i64 o.k, .int .i64 o.y, .int .i64 o.n, .int .i64 o.b, .string o.s], m := 5, hm := fun _ => rfl, pos := by decide, one := fun x u hu => by simp at hu; rcases hu with rfl | rfl | rfl | rfl | rfl <;> rfl, ty := 58 }
theorem go_at {W : World} {b o : Nat} {p : Gp.Op5} (h : Rg.At W b o (goE.enc p)) : W.cell? ⟨b, o, none⟩ = some (.int .i64 p.k) ∧ W.cell? ⟨b, o + 1, none⟩ = some (.int .i64 p.y) ∧ W.cell? ⟨b, o + 2, none⟩ = some (.int .i64 p.n) ∧ W.cell? ⟨b, o + 3, none⟩ = some (.int .i64 p.b) ∧ W.cell? ⟨b, o + 4, none⟩ = some (.string p.s) := ⟨h 0 _ rfl, h 1 _ rfl, h 2 _ rfl, h 3 _ rfl, h 4 _ rfl⟩
theorem hright {Kp : Nat → Prop} {w : World} {d : Gp.Dr} {CS : Array Value} (h : DH Kp w d CS) (hr : Gp.right d) : Calls Tryz.prog 21 #[.agg CS] w fun e w' => e = .returned (.bool true) ∧ Below w.heap.size w w' := by
  obtain ⟨p, rfl, h⟩ := h
  exact right_yes d p w hr h.at_.win h.at_.queue h.ql
theorem dh_buf {Kp : Nat → Prop} {W W2 : World} {d : Gp.Dr} {CS : Array Value} {B : Nat} (h : DH Kp W d CS) (k : Rg.Bk B CS.toList 29 W2) : W2.cell? ⟨B, 12, none⟩ = some (.string ⟨d.buf.toArray⟩) := by
  obtain ⟨p, rfl, _⟩ := h
  exact k.cell 12
end Go.Proofs.YtfiffbohhhehkaaGreat
