/-
  An argument []api.ChatStep: what the row says of it, in the walk's words.
-/
import Derived.Test.YtpggnhnpphbaeaaDoorCh23
import Derived.Lib.SmallJoins
import Derived.Carry
import Derived.Deep.Slices
import Derived.SizedLaws
import Derived.SliceStrings
import Derived.ProofKit
import Derived.OpenShut
namespace Go.Proofs.YtpggnhnpphbaeaaDoor
open Go.ChangeShapes Go.WideShapes Go.ChangeAt Go.RowKit

theorem laidOutP : laidOutB Tryd.prog = true := by kernel_rfl
theorem stepCells : Tryd.prog.cellsOf 28 = 3 := by kernel_rfl
theorem stepBytes : Tryd.prog.bytesOf 28 = 64 := by kernel_rfl
theorem strsCells : Tryd.prog.cellsOf 26 = 1 := by kernel_rfl
theorem strCells : Tryd.prog.cellsOf 9 = 1 := by kernel_rfl
theorem list3 {α : Type} {l : List α} (h : l.length = 3) : ∃ a b c, l = [a, b, c] := by
  match l, h with
  | [a, b, c], _ => exact ⟨a, b, c, rfl⟩
theorem flat_at {α : Type} {E : Rg.El α} {W : World} {b off : Nat} {l : List α} (h : ∀ (i : Nat) (hi : i < l.length), Rg.At W b (off + i * E.m) (E.enc l[i])) : Rg.At W b off (E.flat l) := by
  intro t u ht
  have hp := E.pos
  have hlt : t < l.length * E.m := by
    rw [show l.length * E.m = (E.flat l).length from (E.flat_length l).symm]
    rcases Nat.lt_or_ge t (E.flat l).length with h' | h'
    · exact h'
    · rw [List.getElem?_eq_none h'] at ht; cases ht
  have hi : t / E.m < l.length := Nat.div_lt_of_lt_mul (by rw [Nat.mul_comm]; exact hlt)
  have e := E.flat_get hi (t := t % E.m) (Nat.mod_lt _ hp) []
  rw [List.append_nil, show t / E.m * E.m + t % E.m = t from by rw [Nat.mul_comm]; exact Nat.div_add_mod t E.m, ht] at e
  have := h (t / E.m) hi (t % E.m) u e.symm
  rw [show off + t / E.m * E.m + t % E.m = off + t by rw [Nat.add_assoc, Nat.mul_comm (t / E.m), Nat.div_add_mod]] at this
  exact this

section
variable {H : Type} {enc : TypeId × Value → H} {w : World}
theorem open_strsc {fuel : Nat} {cs : List Value} {x : DataW H × List MemPlace} (h : DataW.trod enc Tryd.prog w 0 (fun _ => true) true fuel 26 cs = some x) :
    ∃ (a : Option Addr) (cap : Nat) (l : List ByteArray), cs = [.slice a l.length cap] ∧ Row0 strE w a l ∧ l.length ≤ cap ∧ (a = none → cap = 0) ∧ cap ≤ maxLen ∧ (∀ s ∈ l, s.size ≤ maxLen) := by
  rcases open_strings Tryd.underlying26 Tryd.underlying9 strCells h with ⟨hcs, _⟩ | ⟨ad, len, cap, ss, hcs, _, hlc, hcm, hsl, _, hcell, hsz⟩
  · exact ⟨none, 0, [], hcs, .inl rfl, Nat.zero_le _, fun _ => rfl, Nat.zero_le _, (fun _ h => by cases h)⟩
  · simp only [if_true] at hsl
    have hl : (ss.take len).length = len := by rw [List.length_take]; omega
    refine ⟨some ad, cap, ss.take len, by rw [hl]; exact hcs, ?_, by rw [hl]; exact hlc, (fun h => by cases h), hcm, fun s hs => hsz s (List.mem_of_mem_take hs)⟩
    by_cases h0 : len = 0
    · left; rw [h0]; rfl
    · right
      obtain ⟨b, off, spot⟩ := ad
      have hspot : spot = none := by simpa [Addr.add] using World.cell?_spot (hcell 0 (by omega))
      subst hspot
      have hc : ∀ j, j < ss.length → w.cell? ⟨b, off + j, none⟩ = some (.string (ss.getD j ByteArray.empty)) := fun j hj => by rw [← Addr.add_lit]; exact hcell j hj
      refine .inr ⟨b, off, rfl, World.block_lt_of_cell? _ _ (hc 0 (by omega)), flat_at fun i hi => ?_⟩
      rw [List.length_take] at hi
      intro t u ht
      have ht0 : t = 0 := by
        rcases t with _ | t
        · rfl
        · cases ht
      subst ht0
      cases ht
      rw [show strE.m = 1 from rfl, Nat.mul_one, Nat.add_zero, hc i (by omega)]
      simp [List.getD, List.getElem?_eq_getElem (show i < ss.length by omega)]
set_option maxRecDepth 100000 in
theorem open_stepc {fuel : Nat} {cs : List Value} {x : DataW H × List MemPlace} (h : DataW.trod enc Tryd.prog w 0 (fun _ => true) true fuel 28 cs = some x) :
    ∃ (v : SV) (y : Ch.St), cs = stepE.enc v ∧ ISt w v y ∧ v.c ≤ maxLen ∧ v.d ≤ maxLen ∧ y.send.size ≤ maxLen := by
  obtain ⟨xs, n, _, rfl, hl, hlen, hf⟩ := DataW.trod_struct Tryd.underlying28 h
  rw [stepCells] at hl
  obtain ⟨c0, c1, c2, rfl⟩ := list3 hl
  obtain ⟨x0, x1, x2, rfl⟩ := list3 (by simpa using hlen)
  have g0 : DataW.trod enc Tryd.prog w 0 (fun _ => true) true n 26 (([c0, c1, c2].drop 0).take (Tryd.prog.cellsOf 26)) = some x0 := hf 0 _ rfl
  have g1 : DataW.trod enc Tryd.prog w 0 (fun _ => true) true n 26 (([c0, c1, c2].drop 1).take (Tryd.prog.cellsOf 26)) = some x1 := hf 1 _ rfl
  have g2 : DataW.trod enc Tryd.prog w 0 (fun _ => true) true n 9 (([c0, c1, c2].drop 2).take (Tryd.prog.cellsOf 9)) = some x2 := hf 2 _ rfl
  rw [strsCells] at g0 g1
  rw [strCells] at g2
  simp only [List.drop_zero, List.drop_succ_cons, List.take_succ_cons, List.take_zero] at g0 g1 g2
  obtain ⟨a, c, ws, e0, r0, l0, n0, m0, _⟩ := open_strsc g0
  obtain ⟨b, d, ns, e1, r1, l1, n1, m1, _⟩ := open_strsc g1
  obtain ⟨s, e2, _, hs⟩ := DataW.trod_string Tryd.underlying9 g2
  simp only [List.cons.injEq, and_true] at e0 e1 e2
  subst e0 e1 e2
  exact ⟨⟨a, ws.length, c, b, ns.length, d, s⟩, ⟨ws, ns, s⟩, rfl, ⟨rfl, r0, l0, n0, rfl, r1, l1, n1, rfl⟩, m0, m1, hs⟩
end
theorem open_steps {H : Type} {enc : TypeId × Value → H} {W : World} {a : Option Addr} {len cap : Nat} {d : DataW H} {ps : List MemPlace}
    (h : DataW.Trod enc Tryd.prog W 0 (fun _ => true) true 22 (.slice a len cap) d ps) :
    ∃ (vs : List SV) (xs : List Ch.St), vs.length = len ∧ ISts W vs xs ∧ Row0 stepE W a vs ∧ (a = none → cap = 0) ∧ len ≤ cap ∧ cap ≤ maxLen ∧ (∀ x ∈ xs, x.wants.length ≤ maxLen ∧ x.nudge.length ≤ maxLen ∧ x.send.size ≤ maxLen) := by
  obtain ⟨fuel, hf⟩ := h
  rcases Go.Deep.open_slice Tryd.underlying22 hf with ⟨hcs, _⟩ | ⟨ad, len', cap', m, n, D, Pl, hcs, _, hlc, hcm, hmm, hd, hx⟩
  · simp [Value.cells] at hcs
    obtain ⟨rfl, rfl, rfl⟩ := hcs
    exact ⟨[], [], rfl, ⟨rfl, fun i h => by simp at h⟩, .inl rfl, (fun _ => rfl), Nat.le_refl _, Nat.zero_le _, (fun _ h => by cases h)⟩
  · simp [Value.cells] at hcs
    obtain ⟨rfl, rfl, rfl⟩ := hcs
    simp only [if_true] at hmm
    by_cases h0 : len = 0
    · subst h0
      exact ⟨[], [], rfl, ⟨rfl, fun i h => by simp at h⟩, .inl rfl, (fun h => by cases h), hlc, hcm, (fun _ h => by cases h)⟩
    · rw [stepCells] at hx
      have each : ∀ i, i < len → ∃ q : SV × Ch.St, (∀ o, o < 3 → W.cell? ((ad.add (i * 3)).add o) = (stepE.enc q.1)[o]?) ∧ ISt W q.1 q.2 ∧ q.1.c ≤ maxLen ∧ q.1.d ≤ maxLen ∧ q.2.send.size ≤ maxLen := fun i hi => by
        obtain ⟨cs', h1, h2⟩ := hx i (by omega)
        obtain ⟨v, y, rfl, h3⟩ := open_stepc h2
        obtain ⟨_, _, hcell⟩ := World.cells?_some h1
        exact ⟨(v, y), fun o ho => hcell o ho, h3⟩
      obtain ⟨b, off, spot⟩ := ad
      have hspot : spot = none := by
        obtain ⟨c, hc, _⟩ := each 0 (by omega)
        have := hc 0 (by omega)
        simpa [Addr.add] using World.cell?_spot (show W.cell? ⟨b, off, spot⟩ = some _ by simpa [Addr.add, stepE] using this)
      subst hspot
      have each2 : ∀ i, i < len → ∃ q : SV × Ch.St, Rg.At W b (off + i * 3) (stepE.enc q.1) ∧ ISt W q.1 q.2 ∧ q.1.c ≤ maxLen ∧ q.1.d ≤ maxLen ∧ q.2.send.size ≤ maxLen := fun i hi => by
        obtain ⟨c, hcell, hr⟩ := each i hi
        refine ⟨c, fun t u ht => ?_, hr⟩
        have ht3 : t < 3 := by
          rcases Nat.lt_or_ge t (stepE.enc c.1).length with h' | h'
          · exact h'
          · rw [List.getElem?_eq_none h'] at ht; cases ht
        rw [← ht, ← hcell t ht3]
        rw [Addr.add_lit, Addr.add_lit]
      have hf' : ∃ f : Nat → SV × Ch.St, ∀ i, i < len → Rg.At W b (off + i * 3) (stepE.enc (f i).1) ∧ ISt W (f i).1 (f i).2 ∧ (f i).1.c ≤ maxLen ∧ (f i).1.d ≤ maxLen ∧ (f i).2.send.size ≤ maxLen := by
        refine ⟨fun i => if h : i < len then (each2 i h).choose else (⟨none, 0, 0, none, 0, 0, ByteArray.empty⟩, ⟨[], [], ByteArray.empty⟩), fun i hi => ?_⟩
        simp only [hi, dif_pos]
        exact (each2 i hi).choose_spec
      obtain ⟨f, hf'⟩ := hf'
      refine ⟨(List.range len).map (fun i => (f i).1), (List.range len).map (fun i => (f i).2), by simp, ⟨by simp, fun i h1 h2 => ?_⟩, .inr (.inr ⟨b, off, rfl, ?_, flat_at fun i hi => ?_⟩), (fun h => by cases h), hlc, hcm, fun x hx => ?_⟩
      · have hi' : i < len := by simpa using h1
        rw [List.getElem_map, List.getElem_map, List.getElem_range]
        exact (hf' i hi').2.1
      · exact World.block_lt_of_cell? _ _ ((hf' 0 (by omega)).1 0 _ rfl)
      · have hi' : i < len := by simpa using hi
        rw [List.getElem_map, List.getElem_range]
        exact (hf' i hi').1
      · rw [List.mem_map] at hx
        obtain ⟨i, hi, rfl⟩ := hx
        obtain ⟨_, h2, h3, h4, h5⟩ := hf' i (List.mem_range.1 hi)
        refine ⟨?_, ?_, h5⟩
        · have := h2.n; have := h2.nc; omega
        · have := h2.m; have := h2.md; omega
end Go.Proofs.YtpggnhnpphbaeaaDoor
