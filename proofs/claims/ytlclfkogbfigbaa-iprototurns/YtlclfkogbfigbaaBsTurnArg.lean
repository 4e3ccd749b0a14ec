/-
  An argument of IprotoTurns: a slice of ints: what the row says of it, in the walk's words.
-/
import Derived.Test.YtlclfkogbfigbaaBsIqP
import Derived.Test.YtlclfkogbfigbaaCuBO
import Derived.Lib.SmallJoins
import Derived.Carry
import Derived.Deep.Slices
import Derived.SizedLaws
namespace Go.Proofs.Ytlclfkogbfigbaa
open Go.ChangeShapes Go.WideShapes Go.ChangeAt Go.RowKit

theorem laidOutP : laidOutB Try.prog = true := by kernel_rfl
theorem intCells : Try.prog.cellsOf 3 = 1 := by kernel_rfl
theorem ints_flat {W : World} {b off : Nat} {l : List Int} (h : ∀ (i : Nat) (hi : i < l.length), Rg.At W b (off + i * 1) (intE.enc l[i])) : Rg.At W b off (intE.flat l) := by
  intro t u ht
  have hlt : t < l.length * 1 := by
    rw [show l.length * 1 = (intE.flat l).length from (intE.flat_length l).symm]
    rcases Nat.lt_or_ge t (intE.flat l).length with h' | h'
    · exact h'
    · rw [List.getElem?_eq_none h'] at ht; cases ht
  have hi : t < l.length := by omega
  have e := intE.flat_get hi (t := 0) (by decide) []
  rw [List.append_nil, show t * intE.m + 0 = t by show t * 1 + 0 = t; omega, ht] at e
  have := h t hi 0 u e.symm
  rw [show off + t * 1 + 0 = off + t by omega] at this
  exact this
theorem open_ints {H : Type} {enc : TypeId × Value → H} {W : World} {a : Option Addr} {len cap : Nat} {d : DataW H} {ps : List MemPlace}
    (h : DataW.Trod enc Try.prog W 0 (fun _ => true) true 22 (.slice a len cap) d ps) :
    ∃ l : List Int, l.length = len ∧ ERow intE W a l ∧ (a = none → cap = 0) ∧ len ≤ cap ∧ (len = 0 ∨ ∃ elems spare, d = .slice elems spare ∧ elems.length = len) := by
  obtain ⟨fuel, hf⟩ := h
  rcases Go.Deep.open_slice Try.underlying22 hf with ⟨hcs, _⟩ | ⟨ad, len', cap', m, n, D, Pl, hcs, _, hlc, hcm, hmm, hd, hx⟩
  · simp [Value.cells] at hcs
    obtain ⟨rfl, rfl, rfl⟩ := hcs
    exact ⟨[], rfl, .inl rfl, (fun _ => rfl), Nat.le_refl _, .inl rfl⟩
  · simp [Value.cells] at hcs
    obtain ⟨rfl, rfl, rfl⟩ := hcs
    simp only [if_true] at hmm
    by_cases h0 : len = 0
    · subst h0
      exact ⟨[], rfl, .inl rfl, (fun h => by cases h), hlc, .inl rfl⟩
    · rw [intCells] at hx
      have each : ∀ i, i < len → ∃ c : Int, ∀ o, o < 1 → W.cell? ((ad.add (i * 1)).add o) = (intE.enc c)[o]? := fun i hi => by
        obtain ⟨cs', h1, h2⟩ := hx i (by omega)
        obtain ⟨c, rfl, _⟩ : ∃ c : Int, cs' = intE.enc c ∧ True := by
          obtain ⟨a0, e0, _⟩ := DataW.trod_int Try.underlying3 h2
          exact ⟨a0, e0, trivial⟩
        obtain ⟨_, _, hcell⟩ := World.cells?_some h1
        exact ⟨c, fun o ho => hcell o ho⟩
      obtain ⟨b, off, spot⟩ := ad
      have hspot : spot = none := by
        obtain ⟨c, hc⟩ := each 0 (by omega)
        have := hc 0 (by omega)
        simpa [Addr.add] using World.cell?_spot (show W.cell? ⟨b, off, spot⟩ = some _ by simpa [Addr.add, intE] using this)
      subst hspot
      have each2 : ∀ i, i < len → ∃ c : Int, Rg.At W b (off + i * 1) (intE.enc c) := fun i hi => by
        obtain ⟨c, hcell⟩ := each i hi
        refine ⟨c, fun t u ht => ?_⟩
        have ht1 : t < 1 := by
          rcases Nat.lt_or_ge t (intE.enc c).length with h' | h'
          · exact h'
          · rw [List.getElem?_eq_none h'] at ht; cases ht
        rw [← ht, ← hcell t ht1]
        rw [Addr.add_lit, Addr.add_lit]
      have hf' : ∃ f : Nat → Int, ∀ i, i < len → Rg.At W b (off + i * 1) (intE.enc (f i)) := by
        refine ⟨fun i => if h : i < len then (each2 i h).choose else 0, fun i hi => ?_⟩
        simp only [hi, dif_pos]
        exact (each2 i hi).choose_spec
      obtain ⟨f, hf'⟩ := hf'
      refine ⟨(List.range len).map f, by simp, .inr ⟨b, off, rfl, ?_, ints_flat fun i hi => ?_⟩, (fun h => by cases h), hlc, .inr ⟨_, _, congrArg Prod.fst hd, by simp⟩⟩
      · exact World.block_lt_of_cell? _ _ ((hf' 0 (by omega)) 0 _ rfl)
      · have hi' : i < len := by simpa using hi
        rw [List.getElem_map, List.getElem_range]
        exact hf' i hi'
end Go.Proofs.Ytlclfkogbfigbaa
