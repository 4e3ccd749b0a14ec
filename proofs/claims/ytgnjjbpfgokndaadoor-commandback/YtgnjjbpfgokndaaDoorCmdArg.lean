/-
  An argument api.Cmd by value: what the row says of it, in the walk's words.
-/
import Derived.Test.YtgnjjbpfgokndaaDoorJobArg
import Derived.Test.YtgnjjbpfgokndaaDoorCmdE
namespace Go.Proofs.YtgnjjbpfgokndaaDoor
open Go.ChangeShapes Go.WideShapes Go.ChangeAt Go.RowKit

theorem cmdCells : Tryd.prog.cellsOf 27 = 10 := by kernel_rfl
theorem list10 {α : Type} {l : List α} (h : l.length = 10) : ∃ a b c d e f g k m n, l = [a, b, c, d, e, f, g, k, m, n] := by
  match l, h with
  | [a, b, c, d, e, f, g, k, m, n], _ => exact ⟨a, b, c, d, e, f, g, k, m, n, rfl⟩
theorem list3 {α : Type} {l : List α} (h : l.length = 3) : ∃ a b c, l = [a, b, c] := by
  match l, h with
  | [a, b, c], _ => exact ⟨a, b, c, rfl⟩

section
variable {H : Type} {enc : TypeId × Value → H} {w : World} {base : Nat} {spare : Nat → Bool} {held : Bool}
set_option maxRecDepth 100000 in
theorem open_cmdc {fuel : Nat} {cs : List Value} {x : DataW H × List MemPlace} (h : DataW.trod enc Tryd.prog w base spare held fuel 27 cs = some x) :
    ∃ c : Cmd.Cw, cs = cl c ∧ x.2 = [] ∧ Fits c.j := by
  obtain ⟨xs, n, _, rfl, hl, hlen, hf⟩ := DataW.trod_struct Tryd.underlying27 h
  rw [cmdCells] at hl
  obtain ⟨c0, c1, c2, c3, c4, c5, c6, c7, c8, c9, rfl⟩ := list10 hl
  obtain ⟨x0, x1, x2, rfl⟩ := list3 (by simpa using hlen)
  have g0 : DataW.trod enc Tryd.prog w base spare held n 3 (([c0, c1, c2, c3, c4, c5, c6, c7, c8, c9].drop 0).take (Tryd.prog.cellsOf 3)) = some x0 := hf 0 _ rfl
  have g1 : DataW.trod enc Tryd.prog w base spare held n 25 (([c0, c1, c2, c3, c4, c5, c6, c7, c8, c9].drop 1).take (Tryd.prog.cellsOf 25)) = some x1 := hf 1 _ rfl
  have g2 : DataW.trod enc Tryd.prog w base spare held n 3 (([c0, c1, c2, c3, c4, c5, c6, c7, c8, c9].drop 9).take (Tryd.prog.cellsOf 3)) = some x2 := hf 2 _ rfl
  rw [jobCells] at g1
  rw [intCells] at g0 g2
  simp only [List.drop_zero, List.drop_succ_cons, List.take_succ_cons, List.take_zero] at g0 g1 g2
  obtain ⟨a0, e0, p0, _⟩ := DataW.trod_int Tryd.underlying3 g0
  obtain ⟨j, e1, p1, s1⟩ := open_jobc g1
  obtain ⟨a2, e2, p2, _⟩ := DataW.trod_int Tryd.underlying3 g2
  unfold cellsJ at e1
  simp only [List.cons.injEq, and_true] at e0 e1 e2
  obtain ⟨rfl, rfl, rfl, rfl, rfl, rfl, rfl, rfl⟩ := e1
  subst e0 e2 p0 p2
  exact ⟨⟨a0, j, a2⟩, rfl, by simp [p1], s1⟩
set_option maxRecDepth 100000 in
theorem open_cmd {r : Reach} {b0 : Nat} {v : Value} {d : DataW H} {p : List MemPlace} (hv : Value.okWide Tryd.prog w r b0 27 v) (h : DataW.Trod enc Tryd.prog w base spare held 27 v d p) :
    ∃ c : Cmd.Cw, v = cv c ∧ p = [] ∧ Fits c.j := by
  obtain ⟨cs, rfl, _⟩ := okWide_struct Tryd.underlying27 hv
  obtain ⟨fuel, hf⟩ := h
  obtain ⟨c, e, e2, hc⟩ := open_cmdc hf
  refine ⟨c, ?_, e2, hc⟩
  have : cs.toList = cl c := by simpa [Value.cells] using e
  unfold cv
  congr 1
  apply Array.toList_inj.1
  rw [this]
end
end Go.Proofs.YtgnjjbpfgokndaaDoor
