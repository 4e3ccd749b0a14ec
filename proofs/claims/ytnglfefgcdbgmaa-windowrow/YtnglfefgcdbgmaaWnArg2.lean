/-
  An argument of the statements of layer 14: a slice of calls: what the row says of it, in the walk's words.
-/
import Derived.Test.YtnglfefgcdbgmaaWnK
import Derived.Test.YtnglfefgcdbgmaaWnArg
namespace Go.Proofs.Ytnglfefgcdbgmaa
open Go.ChangeShapes Go.WideShapes Go.ChangeAt Go.RowKit
section
variable {H : Type} {enc : TypeId × Value → H} {w : World} {base : Nat} {spare : Nat → Bool} {held : Bool}
set_option maxRecDepth 100000 in
theorem open_opc {fuel : Nat} {cs : List Value} {x : DataW H × List MemPlace} (h : DataW.trod enc Try.prog w base spare held fuel 45 cs = some x) :
    ∃ c : Wn.Op, cs = opE.enc c := by
  obtain ⟨xs, n, _, rfl, hl, hlen, hf⟩ := DataW.trod_struct Try.underlying45 h
  rw [opCells] at hl
  obtain ⟨c0, c1, c2, rfl⟩ := list3 hl
  obtain ⟨x0, x1, x2, rfl⟩ := list3 (by simpa using hlen)
  have g0 : DataW.trod enc Try.prog w base spare held n 3 (([c0, c1, c2].drop 0).take (Try.prog.cellsOf 3)) = some x0 := hf 0 _ rfl
  have g1 : DataW.trod enc Try.prog w base spare held n 3 (([c0, c1, c2].drop 1).take (Try.prog.cellsOf 3)) = some x1 := hf 1 _ rfl
  have g2 : DataW.trod enc Try.prog w base spare held n 9 (([c0, c1, c2].drop 2).take (Try.prog.cellsOf 9)) = some x2 := hf 2 _ rfl
  rw [intCells] at g0 g1
  rw [strCells] at g2
  simp only [List.drop_zero, List.drop_succ_cons, List.take_succ_cons, List.take_zero] at g0 g1 g2
  obtain ⟨a0, e0, _, _⟩ := DataW.trod_int Try.underlying3 g0
  obtain ⟨a1, e1, _, _⟩ := DataW.trod_int Try.underlying3 g1
  obtain ⟨a2, e2, _, _⟩ := DataW.trod_string Try.underlying9 g2
  simp only [List.cons.injEq, and_true] at e0 e1 e2
  subst e0 e1 e2
  exact ⟨⟨a0, a1, a2⟩, rfl⟩
end
theorem op_flat {W : World} {b off : Nat} {l : List Wn.Op} (h : ∀ (i : Nat) (hi : i < l.length), Rg.At W b (off + i * 3) (opE.enc l[i])) : Rg.At W b off (opE.flat l) := by
  intro t u ht
  have hlt : t < l.length * 3 := by
    rw [← opE_len]
    rcases Nat.lt_or_ge t (opE.flat l).length with h' | h'
    · exact h'
    · rw [List.getElem?_eq_none h'] at ht; cases ht
  have hi : t / 3 < l.length := by omega
  have e := opE.flat_get hi (t := t % 3) (Nat.mod_lt _ (by decide)) []
  rw [List.append_nil, show t / 3 * opE.m + t % 3 = t by show t / 3 * 3 + t % 3 = t; omega, ht] at e
  have := h (t / 3) hi (t % 3) u e.symm
  rw [show off + t / 3 * 3 + t % 3 = off + t by omega] at this
  exact this
theorem open_ops {H : Type} {enc : TypeId × Value → H} {W : World} {a : Option Addr} {len cap : Nat} {d : DataW H} {ps : List MemPlace}
    (h : DataW.Trod enc Try.prog W 0 (fun _ => true) true 42 (.slice a len cap) d ps) :
    ∃ l : List Wn.Op, l.length = len ∧ ORow W a l := by
  obtain ⟨fuel, hf⟩ := h
  rcases Go.Deep.open_slice Try.underlying42 hf with ⟨hcs, _⟩ | ⟨ad, len', cap', m, n, D, Pl, hcs, _, hlc, hcm, hmm, hd, hx⟩
  · simp [Value.cells] at hcs
    obtain ⟨rfl, rfl, rfl⟩ := hcs
    exact ⟨[], rfl, .inl rfl⟩
  · simp [Value.cells] at hcs
    obtain ⟨rfl, rfl, rfl⟩ := hcs
    simp only [if_true] at hmm
    by_cases h0 : len = 0
    · subst h0
      exact ⟨[], rfl, .inl rfl⟩
    · rw [opCells] at hx
      have each : ∀ i, i < len → ∃ c : Wn.Op, ∀ o, o < 3 → W.cell? ((ad.add (i * 3)).add o) = (opE.enc c)[o]? := fun i hi => by
        obtain ⟨cs', h1, h2⟩ := hx i (by omega)
        obtain ⟨c, rfl⟩ := open_opc h2
        obtain ⟨_, _, hcell⟩ := World.cells?_some h1
        exact ⟨c, fun o ho => hcell o ho⟩
      obtain ⟨b, off, spot⟩ := ad
      have hspot : spot = none := by
        obtain ⟨c, hc⟩ := each 0 (by omega)
        have := hc 0 (by omega)
        simpa [Addr.add] using World.cell?_spot (show W.cell? ⟨b, off, spot⟩ = some _ by simpa [Addr.add, opE] using this)
      subst hspot
      have each2 : ∀ i, i < len → ∃ c : Wn.Op, Rg.At W b (off + i * 3) (opE.enc c) := fun i hi => by
        obtain ⟨c, hcell⟩ := each i hi
        refine ⟨c, fun t u ht => ?_⟩
        have ht3 : t < 3 := by
          rcases Nat.lt_or_ge t (opE.enc c).length with h' | h'
          · exact h'
          · rw [List.getElem?_eq_none h'] at ht; cases ht
        rw [← ht, ← hcell t ht3]
        rw [Addr.add_lit, Addr.add_lit]
      have hf' : ∃ f : Nat → Wn.Op, ∀ i, i < len → Rg.At W b (off + i * 3) (opE.enc (f i)) := by
        refine ⟨fun i => if h : i < len then (each2 i h).choose else ⟨0, 0, ByteArray.empty⟩, fun i hi => ?_⟩
        simp only [hi, dif_pos]
        exact (each2 i hi).choose_spec
      obtain ⟨f, hf'⟩ := hf'
      refine ⟨(List.range len).map f, by simp, .inr ⟨b, off, rfl, ?_, op_flat fun i hi => ?_⟩⟩
      · exact World.block_lt_of_cell? _ _ ((hf' 0 (by omega)) 0 _ rfl)
      · have hi' : i < len := by simpa using hi
        rw [List.getElem_map, List.getElem_range]
        exact hf' i hi'
end Go.Proofs.Ytnglfefgcdbgmaa
