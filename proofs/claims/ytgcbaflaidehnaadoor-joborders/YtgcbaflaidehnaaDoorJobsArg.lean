/-
  An argument []api.Job: what the row says of it, in the walk's words.
-/
import Derived.Test.YtgcbaflaidehnaaDoorJobArg
import Derived.Test.YtgcbaflaidehnaaDoorJLong
import Derived.Deep.Slices
namespace Go.Proofs.YtgcbaflaidehnaaDoor
open Go.ChangeShapes Go.WideShapes Go.ChangeAt Go.RowKit

/-- none, or a row of jobs -/
def JRow0 (W : World) (a : Option Addr) (l : List Job.Jb) : Prop := l = [] ∨ JRow W a l
theorem open_jobs {H : Type} {enc : TypeId × Value → H} {W : World} {a : Option Addr} {len cap : Nat} {d : DataW H} {ps : List MemPlace}
    (h : DataW.Trod enc Tryd.prog W 0 (fun _ => true) true 22 (.slice a len cap) d ps) :
    ∃ l : List Job.Jb, l.length = len ∧ (∀ j ∈ l, Fits j) ∧ len ≤ maxLen ∧ (a = none → cap = 0) ∧ JRow0 W a l := by
  obtain ⟨fuel, hf⟩ := h
  rcases Go.Deep.open_slice Tryd.underlying22 hf with ⟨hcs, _⟩ | ⟨ad, len', cap', m, n, D, Pl, hcs, _, hlc, hcm, hmm, _, hx⟩
  · simp [Value.cells] at hcs
    obtain ⟨rfl, rfl, rfl⟩ := hcs
    exact ⟨[], rfl, (fun _ h => by cases h), Nat.zero_le _, (fun _ => rfl), .inl rfl⟩
  · simp [Value.cells] at hcs
    obtain ⟨rfl, rfl, rfl⟩ := hcs
    simp only [if_true] at hmm
    by_cases h0 : len = 0
    · subst h0
      exact ⟨[], rfl, (fun _ h => by cases h), Nat.zero_le _, (fun h => by cases h), .inl rfl⟩
    · rw [jobCells] at hx
      have each : ∀ i, i < len → ∃ j : Job.Jb, Fits j ∧ ∀ o, o < 8 → W.cell? ((ad.add (i * 8)).add o) = (cellsJ j)[o]? := fun i hi => by
        obtain ⟨cs', h1, h2⟩ := hx i (by omega)
        obtain ⟨j, rfl, _, hj⟩ := open_jobc h2
        obtain ⟨_, _, hcell⟩ := World.cells?_some h1
        exact ⟨j, hj, fun o ho => hcell o ho⟩
      obtain ⟨b, off, spot⟩ := ad
      have hspot : spot = none := by
        obtain ⟨j, _, hc⟩ := each 0 (by omega)
        have := hc 0 (by omega)
        simpa [Addr.add] using World.cell?_spot (show W.cell? ⟨b, off, spot⟩ = some _ by simpa [Addr.add, cellsJ] using this)
      subst hspot
      have each2 : ∀ i, i < len → ∃ j : Job.Jb, Fits j ∧ JAt W b (off + i * 8) j := fun i hi => by
        obtain ⟨j, hj, hc⟩ := each i hi
        refine ⟨j, hj, ?_⟩
        have e (o : Nat) (ho : o < 8) : W.cell? ⟨b, off + i * 8 + o, none⟩ = (cellsJ j)[o]? := by rw [← hc o ho, add_plain, add_plain]
        exact ⟨e 0 (by omega), e 1 (by omega), e 2 (by omega), e 3 (by omega), e 4 (by omega), e 5 (by omega), e 6 (by omega), e 7 (by omega)⟩
      have hf' : ∃ f : Nat → Job.Jb, ∀ i, i < len → Fits (f i) ∧ JAt W b (off + i * 8) (f i) := by
        refine ⟨fun i => if h : i < len then (each2 i h).choose else Job.zero, fun i hi => ?_⟩
        simp only [hi, dif_pos]
        exact (each2 i hi).choose_spec
      obtain ⟨f, hf'⟩ := hf'
      refine ⟨(List.range len).map f, by simp, ?_, by omega, (fun h => by cases h), .inr (.inr ⟨b, off, rfl, ?_, fun i hi => ?_⟩)⟩
      · intro j hj
        rw [List.mem_map] at hj
        obtain ⟨i, hi, rfl⟩ := hj
        exact (hf' i (List.mem_range.1 hi)).1
      · exact World.block_lt_of_cell? _ _ (hf' 0 (by omega)).2.1
      · have hi' : i < len := by simpa using hi
        rw [List.getElem_map, List.getElem_range]
        exact (hf' i hi').2
end Go.Proofs.YtgcbaflaidehnaaDoor
