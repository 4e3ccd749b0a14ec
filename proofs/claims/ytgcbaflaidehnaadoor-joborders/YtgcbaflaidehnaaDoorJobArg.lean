/-
  An argument api.Job by value: what the row says of it, in the walk's words.
-/
import Derived.Test.YtgcbaflaidehnaaDoorLayJ
import Derived.Test.YtgcbaflaidehnaaDoorJb9
import Derived.Lib.SmallJoins
import Derived.Carry
namespace Go.Proofs.YtgcbaflaidehnaaDoor
open Go.ChangeShapes Go.WideShapes Go.ChangeAt Go.RowKit

theorem laidOutP : laidOutB Tryd.prog = true := by kernel_rfl
theorem jobCells : Tryd.prog.cellsOf 29 = 8 := by kernel_rfl
theorem idCells : Tryd.prog.cellsOf 27 = 2 := by kernel_rfl
theorem intCells : Tryd.prog.cellsOf 3 = 1 := by kernel_rfl
theorem strCells : Tryd.prog.cellsOf 9 = 1 := by kernel_rfl
/-- the sizes of a job's texts -/
def Fits (j : Job.Jb) : Prop := j.u.size ≤ maxLen ∧ j.f.size ≤ maxLen ∧ j.t.size ≤ maxLen ∧ j.c.size ≤ maxLen
def cellsJ (j : Job.Jb) : List Value := [.int .i64 j.g, .int .i64 j.n, .int .i64 j.k, .string j.u, .string j.f, .string j.t, .string j.c, .int .i64 j.z]

theorem list8 {α : Type} {l : List α} (h : l.length = 8) : ∃ a b c d e f g k, l = [a, b, c, d, e, f, g, k] := by
  match l, h with
  | [a, b, c, d, e, f, g, k], _ => exact ⟨a, b, c, d, e, f, g, k, rfl⟩
theorem list7 {α : Type} {l : List α} (h : l.length = 7) : ∃ a b c d e f g, l = [a, b, c, d, e, f, g] := by
  match l, h with
  | [a, b, c, d, e, f, g], _ => exact ⟨a, b, c, d, e, f, g, rfl⟩
theorem list2 {α : Type} {l : List α} (h : l.length = 2) : ∃ a b, l = [a, b] := by
  match l, h with
  | [a, b], _ => exact ⟨a, b, rfl⟩

section
variable {H : Type} {enc : TypeId × Value → H} {w : World} {base : Nat} {spare : Nat → Bool} {held : Bool}
set_option maxRecDepth 100000 in
theorem open_jobc {fuel : Nat} {cs : List Value} {x : DataW H × List MemPlace} (h : DataW.trod enc Tryd.prog w base spare held fuel 29 cs = some x) :
    ∃ j : Job.Jb, cs = cellsJ j ∧ x.2 = [] ∧ Fits j := by
  obtain ⟨xs, n, _, rfl, hl, hlen, hf⟩ := DataW.trod_struct Tryd.underlying29 h
  rw [jobCells] at hl
  obtain ⟨c0, c1, c2, c3, c4, c5, c6, c7, rfl⟩ := list8 hl
  obtain ⟨x0, x1, x2, x3, x4, x5, x6, rfl⟩ := list7 (by simpa using hlen)
  have g0 : DataW.trod enc Tryd.prog w base spare held n 27 (([c0, c1, c2, c3, c4, c5, c6, c7].drop 0).take (Tryd.prog.cellsOf 27)) = some x0 := hf 0 _ rfl
  have g1 : DataW.trod enc Tryd.prog w base spare held n 3 (([c0, c1, c2, c3, c4, c5, c6, c7].drop 2).take (Tryd.prog.cellsOf 3)) = some x1 := hf 1 _ rfl
  have g2 : DataW.trod enc Tryd.prog w base spare held n 9 (([c0, c1, c2, c3, c4, c5, c6, c7].drop 3).take (Tryd.prog.cellsOf 9)) = some x2 := hf 2 _ rfl
  have g3 : DataW.trod enc Tryd.prog w base spare held n 9 (([c0, c1, c2, c3, c4, c5, c6, c7].drop 4).take (Tryd.prog.cellsOf 9)) = some x3 := hf 3 _ rfl
  have g4 : DataW.trod enc Tryd.prog w base spare held n 9 (([c0, c1, c2, c3, c4, c5, c6, c7].drop 5).take (Tryd.prog.cellsOf 9)) = some x4 := hf 4 _ rfl
  have g5 : DataW.trod enc Tryd.prog w base spare held n 9 (([c0, c1, c2, c3, c4, c5, c6, c7].drop 6).take (Tryd.prog.cellsOf 9)) = some x5 := hf 5 _ rfl
  have g6 : DataW.trod enc Tryd.prog w base spare held n 3 (([c0, c1, c2, c3, c4, c5, c6, c7].drop 7).take (Tryd.prog.cellsOf 3)) = some x6 := hf 6 _ rfl
  rw [idCells] at g0
  rw [intCells] at g1 g6
  rw [strCells] at g2 g3 g4 g5
  simp only [List.drop_zero, List.drop_succ_cons, List.take_succ_cons, List.take_zero] at g0 g1 g2 g3 g4 g5 g6
  obtain ⟨ys, n', _, rfl, hl', hlen', hf'⟩ := DataW.trod_struct Tryd.underlying27 g0
  obtain ⟨y0, y1, rfl⟩ := list2 (by simpa using hlen')
  have k0 : DataW.trod enc Tryd.prog w base spare held n' 3 (([c0, c1].drop 0).take (Tryd.prog.cellsOf 3)) = some y0 := hf' 0 _ rfl
  have k1 : DataW.trod enc Tryd.prog w base spare held n' 3 (([c0, c1].drop 1).take (Tryd.prog.cellsOf 3)) = some y1 := hf' 1 _ rfl
  rw [intCells] at k0 k1
  simp only [List.drop_zero, List.drop_succ_cons, List.take_succ_cons, List.take_zero] at k0 k1
  obtain ⟨a0, e0, p0, _⟩ := DataW.trod_int Tryd.underlying3 k0
  obtain ⟨a1, e1, p1, _⟩ := DataW.trod_int Tryd.underlying3 k1
  obtain ⟨a2, e2, p2, _⟩ := DataW.trod_int Tryd.underlying3 g1
  obtain ⟨a3, e3, p3, s3⟩ := DataW.trod_string Tryd.underlying9 g2
  obtain ⟨a4, e4, p4, s4⟩ := DataW.trod_string Tryd.underlying9 g3
  obtain ⟨a5, e5, p5, s5⟩ := DataW.trod_string Tryd.underlying9 g4
  obtain ⟨a6, e6, p6, s6⟩ := DataW.trod_string Tryd.underlying9 g5
  obtain ⟨a7, e7, p7, _⟩ := DataW.trod_int Tryd.underlying3 g6
  simp only [List.cons.injEq, and_true] at e0 e1 e2 e3 e4 e5 e6 e7
  subst e0 e1 e2 e3 e4 e5 e6 e7 p0 p1 p2 p3 p4 p5 p6 p7
  exact ⟨⟨a0, a1, a2, a3, a4, a5, a6, a7⟩, rfl, by simp, s3, s4, s5, s6⟩
set_option maxRecDepth 100000 in
theorem open_job {r : Reach} {b0 : Nat} {v : Value} {d : DataW H} {p : List MemPlace} (hv : Value.okWide Tryd.prog w r b0 29 v) (h : DataW.Trod enc Tryd.prog w base spare held 29 v d p) :
    ∃ j : Job.Jb, v = jv j ∧ p = [] ∧ Fits j := by
  obtain ⟨cs, rfl, _⟩ := okWide_struct Tryd.underlying29 hv
  obtain ⟨fuel, hf⟩ := h
  obtain ⟨j, e, e2, hj⟩ := open_jobc hf
  refine ⟨j, ?_, e2, hj⟩
  have : cs.toList = cellsJ j := by simpa [Value.cells] using e
  unfold jv
  congr 1
  apply Array.toList_inj.1
  rw [this]; rfl
end
end Go.Proofs.YtgcbaflaidehnaaDoor
