/-
  For rows that lay no package variable: the world for the witness. An argument of the statements of layers 15 and 16: a slice of what happens: what the row says of it, in the walk's words.
-/
import Derived.Test.YtlclfkogbfigbaaGreatRows
import Derived.WalkKit
import Derived.ProofKit
import Derived.OpenShut
import Derived.Deep.DeepHandedRow
import Derived.Lay
import Derived.MakeChecks
import Derived.Test.YtlclfkogbfigbaaGreatCuBN
import Derived.Lib.SmallJoins
import Derived.Carry
import Derived.Deep.Slices
import Derived.SizedLaws
namespace Go.Proofs.YtlclfkogbfigbaaGreat
open Go.ChangeShapes Go.WideShapes Go.ChangeAt Go.RowKit

theorem own : ownKnob Tryz.prog.godebug = none := by kernel_rfl
def laidL : List (String × DataW Unit) := []
theorem laid_met (os : Os) (args : Array Value) : laidMet Tryz.prog laidL ((World.laidAll Tryz.prog os laidL).forCall (fun _ _ => 0) ⟨#[], args, []⟩).memory :=
  laidMet_laidAll args (by kernel_rfl) (by kernel_rfl)
end Go.Proofs.YtlclfkogbfigbaaGreat

namespace Go.Proofs.YtlclfkogbfigbaaGreat
open Go.ChangeShapes Go.WideShapes Go.ChangeAt Go.RowKit

theorem laidOutP : laidOutB Tryz.prog = true := by kernel_rfl
theorem gopCells : Tryz.prog.cellsOf 58 = 5 := by kernel_rfl
theorem gopBytes : Tryz.prog.bytesOf 58 = 48 := by kernel_rfl
theorem intCells : Tryz.prog.cellsOf 3 = 1 := by kernel_rfl
theorem strCells : Tryz.prog.cellsOf 9 = 1 := by kernel_rfl
theorem list5 {α : Type} {l : List α} (h : l.length = 5) : ∃ a b c d e, l = [a, b, c, d, e] := by
  match l, h with
  | [a, b, c, d, e], _ => exact ⟨a, b, c, d, e, rfl⟩

section
variable {H : Type} {enc : TypeId × Value → H} {w : World} {base : Nat} {spare : Nat → Bool} {held : Bool}
set_option maxRecDepth 100000 in
theorem open_gopc {fuel : Nat} {cs : List Value} {x : DataW H × List MemPlace} (h : DataW.trod enc Tryz.prog w base spare held fuel 58 cs = some x) :
    ∃ c : Ip.Op6, cs = ioE.enc c ∧ x.2 = [] := by
  obtain ⟨xs, n, _, rfl, hl, hlen, hf⟩ := DataW.trod_struct Tryz.underlying58 h
  rw [gopCells] at hl
  obtain ⟨c0, c1, c2, c3, c4, rfl⟩ := list5 hl
  obtain ⟨x0, x1, x2, x3, x4, rfl⟩ := list5 (by simpa using hlen)
  have g0 : DataW.trod enc Tryz.prog w base spare held n 3 (([c0, c1, c2, c3, c4].drop 0).take (Tryz.prog.cellsOf 3)) = some x0 := hf 0 _ rfl
  have g1 : DataW.trod enc Tryz.prog w base spare held n 3 (([c0, c1, c2, c3, c4].drop 1).take (Tryz.prog.cellsOf 3)) = some x1 := hf 1 _ rfl
  have g2 : DataW.trod enc Tryz.prog w base spare held n 3 (([c0, c1, c2, c3, c4].drop 2).take (Tryz.prog.cellsOf 3)) = some x2 := hf 2 _ rfl
  have g3 : DataW.trod enc Tryz.prog w base spare held n 3 (([c0, c1, c2, c3, c4].drop 3).take (Tryz.prog.cellsOf 3)) = some x3 := hf 3 _ rfl
  have g4 : DataW.trod enc Tryz.prog w base spare held n 9 (([c0, c1, c2, c3, c4].drop 4).take (Tryz.prog.cellsOf 9)) = some x4 := hf 4 _ rfl
  rw [intCells] at g0 g1 g2 g3
  rw [strCells] at g4
  simp only [List.drop_zero, List.drop_succ_cons, List.take_succ_cons, List.take_zero] at g0 g1 g2 g3 g4
  obtain ⟨a0, e0, p0, _⟩ := DataW.trod_int Tryz.underlying3 g0
  obtain ⟨a1, e1, p1, _⟩ := DataW.trod_int Tryz.underlying3 g1
  obtain ⟨a2, e2, p2, _⟩ := DataW.trod_int Tryz.underlying3 g2
  obtain ⟨a3, e3, p3, _⟩ := DataW.trod_int Tryz.underlying3 g3
  obtain ⟨a4, e4, p4, _⟩ := DataW.trod_string Tryz.underlying9 g4
  simp only [List.cons.injEq, and_true] at e0 e1 e2 e3 e4
  subst e0 e1 e2 e3 e4 p0 p1 p2 p3 p4
  exact ⟨⟨a0, a1, a2, a3, a4⟩, rfl, by simp⟩
end

theorem iop_flat {W : World} {b off : Nat} {l : List Ip.Op6} (h : ∀ (i : Nat) (hi : i < l.length), Rg.At W b (off + i * 5) (ioE.enc l[i])) : Rg.At W b off (ioE.flat l) := by
  intro t u ht
  have hlt : t < l.length * 5 := by
    rw [show l.length * 5 = (ioE.flat l).length from (ioE.flat_length l).symm]
    rcases Nat.lt_or_ge t (ioE.flat l).length with h' | h'
    · exact h'
    · rw [List.getElem?_eq_none h'] at ht; cases ht
  have hi : t / 5 < l.length := by omega
  have e := ioE.flat_get hi (t := t % 5) (Nat.mod_lt _ (by decide)) []
  rw [List.append_nil, show t / 5 * ioE.m + t % 5 = t by show t / 5 * 5 + t % 5 = t; omega, ht] at e
  have := h (t / 5) hi (t % 5) u e.symm
  rw [show off + t / 5 * 5 + t % 5 = off + t by omega] at this
  exact this
theorem open_gops {H : Type} {enc : TypeId × Value → H} {W : World} {a : Option Addr} {len cap : Nat} {d : DataW H} {ps : List MemPlace}
    (h : DataW.Trod enc Tryz.prog W 0 (fun _ => true) true 46 (.slice a len cap) d ps) :
    ∃ l : List Ip.Op6, l.length = len ∧ ERow ioE W a l ∧ (a = none → cap = 0) ∧ len ≤ cap ∧ (len = 0 ∨ ∃ elems spare, d = .slice elems spare ∧ elems.length = len) := by
  obtain ⟨fuel, hf⟩ := h
  rcases Go.Deep.open_slice Tryz.underlying46 hf with ⟨hcs, _⟩ | ⟨ad, len', cap', m, n, D, Pl, hcs, _, hlc, hcm, hmm, hd, hx⟩
  · simp [Value.cells] at hcs
    obtain ⟨rfl, rfl, rfl⟩ := hcs
    exact ⟨[], rfl, .inl rfl, (fun _ => rfl), Nat.le_refl _, .inl rfl⟩
  · simp [Value.cells] at hcs
    obtain ⟨rfl, rfl, rfl⟩ := hcs
    simp only [if_true] at hmm
    by_cases h0 : len = 0
    · subst h0
      exact ⟨[], rfl, .inl rfl, (fun h => by cases h), hlc, .inl rfl⟩
    · rw [gopCells] at hx
      have each : ∀ i, i < len → ∃ c : Ip.Op6, ∀ o, o < 5 → W.cell? ((ad.add (i * 5)).add o) = (ioE.enc c)[o]? := fun i hi => by
        obtain ⟨cs', h1, h2⟩ := hx i (by omega)
        obtain ⟨c, rfl, _⟩ := open_gopc h2
        obtain ⟨_, _, hcell⟩ := World.cells?_some h1
        exact ⟨c, fun o ho => hcell o ho⟩
      obtain ⟨b, off, spot⟩ := ad
      have hspot : spot = none := by
        obtain ⟨c, hc⟩ := each 0 (by omega)
        have := hc 0 (by omega)
        simpa [Addr.add] using World.cell?_spot (show W.cell? ⟨b, off, spot⟩ = some _ by simpa [Addr.add, ioE] using this)
      subst hspot
      have each2 : ∀ i, i < len → ∃ c : Ip.Op6, Rg.At W b (off + i * 5) (ioE.enc c) := fun i hi => by
        obtain ⟨c, hcell⟩ := each i hi
        refine ⟨c, fun t u ht => ?_⟩
        have ht5 : t < 5 := by
          rcases Nat.lt_or_ge t (ioE.enc c).length with h' | h'
          · exact h'
          · rw [List.getElem?_eq_none h'] at ht; cases ht
        rw [← ht, ← hcell t ht5]
        rw [Addr.add_lit, Addr.add_lit]
      have hf' : ∃ f : Nat → Ip.Op6, ∀ i, i < len → Rg.At W b (off + i * 5) (ioE.enc (f i)) := by
        refine ⟨fun i => if h : i < len then (each2 i h).choose else ⟨0, 0, 0, 0, ByteArray.empty⟩, fun i hi => ?_⟩
        simp only [hi, dif_pos]
        exact (each2 i hi).choose_spec
      obtain ⟨f, hf'⟩ := hf'
      refine ⟨(List.range len).map f, by simp, .inr ⟨b, off, rfl, ?_, iop_flat fun i hi => ?_⟩, (fun h => by cases h), hlc, .inr ⟨_, _, congrArg Prod.fst hd, by simp⟩⟩
      · exact World.block_lt_of_cell? _ _ ((hf' 0 (by omega)) 0 _ rfl)
      · have hi' : i < len := by simpa using hi
        rw [List.getElem_map, List.getElem_range]
        exact hf' i hi'
theorem gops_len {H : Type} {ts : List TypeId} {ds : List (DataW H)} (hz : (DataW.weightsEach Tryz.prog ts ds).all (· ≤ reachBytes) = true) {j : Nat} {d : DataW H} {len : Nat} (ht : ts[j]? = some 46) (hd : ds[j]? = some d)
    (h : len = 0 ∨ ∃ elems spare, d = .slice elems spare ∧ elems.length = len) : len * 48 ≤ 140737488351232 := by
  rcases h with rfl | ⟨elems, spare, rfl, rfl⟩
  · omega
  · have := sized_slice hz ht hd Tryz.underlying46
    rw [gopBytes] at this
    have e : reachBytes = 140737488351232 := by decide
    rw [e] at this
    omega
end Go.Proofs.YtlclfkogbfigbaaGreat
