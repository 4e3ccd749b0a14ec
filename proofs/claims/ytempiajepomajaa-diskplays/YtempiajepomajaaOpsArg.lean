/-
  Arguments of the statements of layer 6: a call by value, a slice of calls: what the row says of them, in the walk's words.
-/
import Derived.Test.YtempiajepomajaaDk21
import Derived.Test.YtempiajepomajaaLay0
import Derived.Lib.SmallJoins
import Derived.Carry
import Derived.Deep.Slices
import Derived.SizedLaws
namespace Go.Proofs.Ytempiajepomajaa
open Go.ChangeShapes Go.WideShapes Go.ChangeAt Go.RowKit

theorem laidOutP : laidOutB Try.prog = true := by kernel_rfl
theorem callCells : Try.prog.cellsOf 31 = 5 := by kernel_rfl
theorem callBytes : Try.prog.bytesOf 31 = 64 := by kernel_rfl
theorem intCells : Try.prog.cellsOf 3 = 1 := by kernel_rfl
theorem strCells : Try.prog.cellsOf 9 = 1 := by kernel_rfl
theorem list5 {α : Type} {l : List α} (h : l.length = 5) : ∃ a b c d e, l = [a, b, c, d, e] := by
  match l, h with
  | [a, b, c, d, e], _ => exact ⟨a, b, c, d, e, rfl⟩

section
variable {H : Type} {enc : TypeId × Value → H} {w : World} {base : Nat} {spare : Nat → Bool} {held : Bool}
set_option maxRecDepth 100000 in
theorem open_callc {fuel : Nat} {cs : List Value} {x : DataW H × List MemPlace} (h : DataW.trod enc Try.prog w base spare held fuel 31 cs = some x) :
    ∃ c : Dsk.Cl, cs = callE.enc c ∧ x.2 = [] ∧ CFits c := by
  obtain ⟨xs, n, _, rfl, hl, hlen, hf⟩ := DataW.trod_struct Try.underlying31 h
  rw [callCells] at hl
  obtain ⟨c0, c1, c2, c3, c4, rfl⟩ := list5 hl
  obtain ⟨x0, x1, x2, x3, x4, rfl⟩ := list5 (by simpa using hlen)
  have g0 : DataW.trod enc Try.prog w base spare held n 3 (([c0, c1, c2, c3, c4].drop 0).take (Try.prog.cellsOf 3)) = some x0 := hf 0 _ rfl
  have g1 : DataW.trod enc Try.prog w base spare held n 9 (([c0, c1, c2, c3, c4].drop 1).take (Try.prog.cellsOf 9)) = some x1 := hf 1 _ rfl
  have g2 : DataW.trod enc Try.prog w base spare held n 9 (([c0, c1, c2, c3, c4].drop 2).take (Try.prog.cellsOf 9)) = some x2 := hf 2 _ rfl
  have g3 : DataW.trod enc Try.prog w base spare held n 9 (([c0, c1, c2, c3, c4].drop 3).take (Try.prog.cellsOf 9)) = some x3 := hf 3 _ rfl
  have g4 : DataW.trod enc Try.prog w base spare held n 3 (([c0, c1, c2, c3, c4].drop 4).take (Try.prog.cellsOf 3)) = some x4 := hf 4 _ rfl
  rw [intCells] at g0 g4
  rw [strCells] at g1 g2 g3
  simp only [List.drop_zero, List.drop_succ_cons, List.take_succ_cons, List.take_zero] at g0 g1 g2 g3 g4
  obtain ⟨a0, e0, p0, _⟩ := DataW.trod_int Try.underlying3 g0
  obtain ⟨a1, e1, p1, s1⟩ := DataW.trod_string Try.underlying9 g1
  obtain ⟨a2, e2, p2, s2⟩ := DataW.trod_string Try.underlying9 g2
  obtain ⟨a3, e3, p3, s3⟩ := DataW.trod_string Try.underlying9 g3
  obtain ⟨a4, e4, p4, s4⟩ := DataW.trod_int Try.underlying3 g4
  simp only [List.cons.injEq, and_true] at e0 e1 e2 e3 e4
  subst e0 e1 e2 e3 e4 p0 p1 p2 p3 p4
  exact ⟨⟨a0, a1, a2, a3, a4⟩, rfl, by simp, s1, s2, s3, (bounds_i64 s4).2⟩
set_option maxRecDepth 100000 in
theorem open_call {r : Reach} {b0 : Nat} {v : Value} {d : DataW H} {p : List MemPlace} (hv : Value.okWide Try.prog w r b0 31 v) (h : DataW.Trod enc Try.prog w base spare held 31 v d p) :
    ∃ c : Dsk.Cl, v = .agg #[.int .i64 c.k, .string c.n, .string c.t, .string c.x, .int .i64 c.m] ∧ CFits c := by
  obtain ⟨cs, rfl, _⟩ := okWide_struct Try.underlying31 hv
  obtain ⟨fuel, hf⟩ := h
  obtain ⟨c, e, _, hc⟩ := open_callc hf
  refine ⟨c, ?_, hc⟩
  have : cs.toList = callE.enc c := by simpa [Value.cells] using e
  congr 1
  apply Array.toList_inj.1
  rw [this]; rfl
end

theorem at_flat {W : World} {b off : Nat} {l : List Dsk.Cl} (h : ∀ (i : Nat) (hi : i < l.length), Rg.At W b (off + i * 5) (callE.enc l[i])) : Rg.At W b off (callE.flat l) := by
  intro t u ht
  have hlt : t < l.length * 5 := by
    rw [show l.length * 5 = (callE.flat l).length from (callE.flat_length l).symm]
    rcases Nat.lt_or_ge t (callE.flat l).length with h' | h'
    · exact h'
    · rw [List.getElem?_eq_none h'] at ht; cases ht
  have hi : t / 5 < l.length := by omega
  have e := callE.flat_get hi (t := t % 5) (Nat.mod_lt _ (by decide)) []
  rw [List.append_nil, show t / 5 * callE.m + t % 5 = t by show t / 5 * 5 + t % 5 = t; omega, ht] at e
  have := h (t / 5) hi (t % 5) u e.symm
  rw [show off + t / 5 * 5 + t % 5 = off + t by omega] at this
  exact this
theorem open_calls {H : Type} {enc : TypeId × Value → H} {W : World} {a : Option Addr} {len cap : Nat} {d : DataW H} {ps : List MemPlace}
    (h : DataW.Trod enc Try.prog W 0 (fun _ => true) true 22 (.slice a len cap) d ps) :
    ∃ l : List Dsk.Cl, l.length = len ∧ (∀ c ∈ l, CFits c) ∧ CRow0 W a l ∧ (a = none → cap = 0) ∧ len ≤ cap ∧ (len = 0 ∨ ∃ elems spare, d = .slice elems spare ∧ elems.length = len) := by
  obtain ⟨fuel, hf⟩ := h
  rcases Go.Deep.open_slice Try.underlying22 hf with ⟨hcs, _⟩ | ⟨ad, len', cap', m, n, D, Pl, hcs, _, hlc, hcm, hmm, hd, hx⟩
  · simp [Value.cells] at hcs
    obtain ⟨rfl, rfl, rfl⟩ := hcs
    exact ⟨[], rfl, (fun _ h => by cases h), .inl rfl, (fun _ => rfl), Nat.le_refl _, .inl rfl⟩
  · simp [Value.cells] at hcs
    obtain ⟨rfl, rfl, rfl⟩ := hcs
    simp only [if_true] at hmm
    by_cases h0 : len = 0
    · subst h0
      exact ⟨[], rfl, (fun _ h => by cases h), .inl rfl, (fun h => by cases h), hlc, .inl rfl⟩
    · rw [callCells] at hx
      have each : ∀ i, i < len → ∃ c : Dsk.Cl, CFits c ∧ ∀ o, o < 5 → W.cell? ((ad.add (i * 5)).add o) = (callE.enc c)[o]? := fun i hi => by
        obtain ⟨cs', h1, h2⟩ := hx i (by omega)
        obtain ⟨c, rfl, _, hc⟩ := open_callc h2
        obtain ⟨_, _, hcell⟩ := World.cells?_some h1
        exact ⟨c, hc, fun o ho => hcell o ho⟩
      obtain ⟨b, off, spot⟩ := ad
      have hspot : spot = none := by
        obtain ⟨c, _, hc⟩ := each 0 (by omega)
        have := hc 0 (by omega)
        simpa [Addr.add] using World.cell?_spot (show W.cell? ⟨b, off, spot⟩ = some _ by simpa [Addr.add, callE] using this)
      subst hspot
      have each2 : ∀ i, i < len → ∃ c : Dsk.Cl, CFits c ∧ Rg.At W b (off + i * 5) (callE.enc c) := fun i hi => by
        obtain ⟨c, hc, hcell⟩ := each i hi
        refine ⟨c, hc, fun t u ht => ?_⟩
        have ht5 : t < 5 := by
          rcases Nat.lt_or_ge t (callE.enc c).length with h' | h'
          · exact h'
          · rw [List.getElem?_eq_none h'] at ht; cases ht
        rw [← ht, ← hcell t ht5]
        rw [Addr.add_lit, Addr.add_lit]
      have hf' : ∃ f : Nat → Dsk.Cl, ∀ i, i < len → CFits (f i) ∧ Rg.At W b (off + i * 5) (callE.enc (f i)) := by
        refine ⟨fun i => if h : i < len then (each2 i h).choose else ⟨0, ByteArray.empty, ByteArray.empty, ByteArray.empty, 0⟩, fun i hi => ?_⟩
        simp only [hi, dif_pos]
        exact (each2 i hi).choose_spec
      obtain ⟨f, hf'⟩ := hf'
      refine ⟨(List.range len).map f, by simp, ?_, .inr ⟨b, off, rfl, ?_, at_flat fun i hi => ?_⟩, (fun h => by cases h), hlc, .inr ⟨_, _, congrArg Prod.fst hd, by simp⟩⟩
      · intro c hc
        rw [List.mem_map] at hc
        obtain ⟨i, hi, rfl⟩ := hc
        exact (hf' i (List.mem_range.1 hi)).1
      · exact World.block_lt_of_cell? _ _ ((hf' 0 (by omega)).2 0 _ rfl)
      · have hi' : i < len := by simpa using hi
        rw [List.getElem_map, List.getElem_range]
        exact (hf' i hi').2
theorem calls_len {H : Type} {ts : List TypeId} {ds : List (DataW H)} (hz : (DataW.weightsEach Try.prog ts ds).all (· ≤ reachBytes) = true) {j : Nat} {d : DataW H} {len : Nat} (ht : ts[j]? = some 22) (hd : ds[j]? = some d)
    (h : len = 0 ∨ ∃ elems spare, d = .slice elems spare ∧ elems.length = len) : len * 64 ≤ 140737488351232 := by
  rcases h with rfl | ⟨elems, spare, rfl, rfl⟩
  · omega
  · have := sized_slice hz ht hd Try.underlying22
    rw [callBytes] at this
    have e : reachBytes = 140737488351232 := by decide
    rw [e] at this
    omega
end Go.Proofs.Ytempiajepomajaa
