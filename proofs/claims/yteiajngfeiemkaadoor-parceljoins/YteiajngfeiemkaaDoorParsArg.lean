/-
  An argument []api.Parcel: what the row says of it, in the walk's words.
-/
import Derived.Test.YteiajngfeiemkaaDoorParArg
import Derived.Test.YteiajngfeiemkaaDoorPa6
import Derived.Deep.Slices
namespace Go.Proofs.YteiajngfeiemkaaDoor
open Go.ChangeShapes Go.WideShapes Go.ChangeAt Go.RowKit
theorem intCells : Tryd.prog.cellsOf 3 = 1 := by kernel_rfl
theorem strCells1 : Tryd.prog.cellsOf 9 = 1 := by kernel_rfl
theorem list2 {α : Type} {l : List α} (h : l.length = 2) : ∃ a b, l = [a, b] := by
  match l, h with
  | [a, b], _ => exact ⟨a, b, rfl⟩
theorem add_plain (b o k : Nat) : (⟨b, o, none⟩ : Addr).add k = ⟨b, o + k, none⟩ := by cases k <;> simp [Addr.add]
set_option maxRecDepth 100000 in
theorem open_parc {H : Type} {enc : TypeId × Value → H} {w : World} {base : Nat} {spare : Nat → Bool} {held : Bool} {fuel : Nat} {cs : List Value} {x : DataW H × List MemPlace} (h : DataW.trod enc Tryd.prog w base spare held fuel 23 cs = some x) :
    ∃ p : Pa.Pc, cs = [.int .i64 p.tg, .string ⟨p.data.toArray⟩] ∧ p.data.length ≤ maxLen := by
  obtain ⟨xs, n, _, rfl, hl, hlen, hf⟩ := DataW.trod_struct Tryd.underlying23 h
  rw [parCells] at hl
  obtain ⟨c0, c1, rfl⟩ := list2 hl
  obtain ⟨x0, x1, rfl⟩ := list2 (by simpa using hlen)
  have g0 : DataW.trod enc Tryd.prog w base spare held n 3 (([c0, c1].drop 0).take (Tryd.prog.cellsOf 3)) = some x0 := hf 0 _ rfl
  have g1 : DataW.trod enc Tryd.prog w base spare held n 9 (([c0, c1].drop 1).take (Tryd.prog.cellsOf 9)) = some x1 := hf 1 _ rfl
  rw [intCells] at g0
  rw [strCells1] at g1
  simp only [List.drop_zero, List.drop_succ_cons, List.take_succ_cons, List.take_zero] at g0 g1
  obtain ⟨a0, e0, _, _⟩ := DataW.trod_int Tryd.underlying3 g0
  obtain ⟨a1, e1, _, s1⟩ := DataW.trod_string Tryd.underlying9 g1
  simp only [List.cons.injEq, and_true] at e0 e1
  subst e0 e1
  exact ⟨⟨a0, a1.data.toList⟩, rfl, by rw [If.len_eq]; exact s1⟩
theorem open_pars {H : Type} {enc : TypeId × Value → H} {W : World} {a : Option Addr} {len cap : Nat} {d : DataW H} {ps : List MemPlace}
    (h : DataW.Trod enc Tryd.prog W 0 (fun _ => true) true 32 (.slice a len cap) d ps) :
    ∃ l : List Pa.Pc, l.length = len ∧ (∀ p ∈ l, p.data.length ≤ maxLen) ∧ len ≤ maxLen ∧ PRow W a l := by
  obtain ⟨fuel, hf⟩ := h
  rcases Go.Deep.open_slice Tryd.underlying32 hf with ⟨hcs, _⟩ | ⟨ad, len', cap', m, n, D, Pl, hcs, _, hlc, hcm, hmm, _, hx⟩
  · simp [Value.cells] at hcs
    obtain ⟨rfl, rfl, rfl⟩ := hcs
    exact ⟨[], rfl, (fun _ h => by cases h), Nat.zero_le _, .inl rfl⟩
  · simp [Value.cells] at hcs
    obtain ⟨rfl, rfl, rfl⟩ := hcs
    simp only [if_true] at hmm
    by_cases h0 : len = 0
    · subst h0
      exact ⟨[], rfl, (fun _ h => by cases h), Nat.zero_le _, .inl rfl⟩
    · rw [parCells] at hx
      have each : ∀ i, i < len → ∃ p : Pa.Pc, p.data.length ≤ maxLen ∧ ∀ o, o < 2 → W.cell? ((ad.add (i * 2)).add o) = ([.int .i64 p.tg, .string ⟨p.data.toArray⟩] : List Value)[o]? := fun i hi => by
        obtain ⟨cs', h1, h2⟩ := hx i (by omega)
        obtain ⟨p, rfl, hp⟩ := open_parc h2
        obtain ⟨_, _, hcell⟩ := World.cells?_some h1
        exact ⟨p, hp, fun o ho => hcell o ho⟩
      obtain ⟨b, off, spot⟩ := ad
      have hspot : spot = none := by
        obtain ⟨p, _, hc⟩ := each 0 (by omega)
        have := hc 0 (by omega)
        simpa [Addr.add] using World.cell?_spot (show W.cell? ⟨b, off, spot⟩ = some _ by simpa [Addr.add] using this)
      subst hspot
      have each2 : ∀ i, i < len → ∃ p : Pa.Pc, p.data.length ≤ maxLen ∧ ∀ o, o < 2 → W.cell? ⟨b, off + i * 2 + o, none⟩ = ([.int .i64 p.tg, .string ⟨p.data.toArray⟩] : List Value)[o]? := fun i hi => by
        obtain ⟨p, hp, hc⟩ := each i hi
        refine ⟨p, hp, fun o ho => ?_⟩
        rw [← hc o ho, add_plain, add_plain]
      have hf' : ∃ f : Nat → Pa.Pc, ∀ i, i < len → (f i).data.length ≤ maxLen ∧ ∀ o, o < 2 → W.cell? ⟨b, off + i * 2 + o, none⟩ = ([.int .i64 (f i).tg, .string ⟨(f i).data.toArray⟩] : List Value)[o]? := by
        refine ⟨fun i => if h : i < len then (each2 i h).choose else Pa.zero, fun i hi => ?_⟩
        simp only [hi, dif_pos]
        exact (each2 i hi).choose_spec
      obtain ⟨f, hf'⟩ := hf'
      refine ⟨(List.range len).map f, by simp, ?_, by omega, .inr ⟨b, off, rfl, ?_, ?_⟩⟩
      · intro p hp
        rw [List.mem_map] at hp
        obtain ⟨i, hi, rfl⟩ := hp
        exact (hf' i (List.mem_range.1 hi)).1
      · exact World.block_lt_of_cell? _ _ ((hf' 0 (by omega)).2 0 (by omega))
      · intro t u ht
        have hlt : t < len * 2 := by
          rcases Nat.lt_or_ge t (len * 2) with c | c
          · exact c
          · rw [List.getElem?_eq_none (by rw [parE.flat_length]; simpa [parE] using c)] at ht; cases ht
        have hi : t / 2 < ((List.range len).map f).length := by simp; omega
        have e := parE.flat_get (t := t % 2) hi (Nat.mod_lt _ (by decide)) []
        rw [List.append_nil, show t / 2 * parE.m + t % 2 = t by show t / 2 * 2 + t % 2 = t; omega] at e
        rw [e] at ht
        have := (hf' (t / 2) (by omega)).2 (t % 2) (Nat.mod_lt _ (by decide))
        rw [show off + t / 2 * 2 + t % 2 = off + t by omega] at this
        rw [this]
        simpa [parE] using ht
end Go.Proofs.YteiajngfeiemkaaDoor
