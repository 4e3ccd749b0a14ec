/-
  An argument []string beside steps: what the row says of it, in the walk's words.
-/
import Derived.Test.YteepfifglafjmaaDoorCq7
import Derived.Test.YteepfifglafjmaaDoorStepsArg
import Derived.SliceStrings
import Derived.ChangeSlices
namespace Go.Proofs.YteepfifglafjmaaDoor
open Go.ChangeShapes Go.WideShapes Go.ChangeAt Go.RowKit

theorem cellsS8 : Tryd.prog.cellsOf 9 = 1 := by kernel_rfl
theorem add_flat8 (b o j : Nat) : (⟨b, o, none⟩ : Addr).add j = ⟨b, o + j, none⟩ := by cases j <;> simp [Addr.add]
theorem open_texts8 {H : Type} {enc : TypeId × Value → H} {W : World} {a : Option Addr} {len cap : Nat} {d : DataW H} {ps : List MemPlace}
    (h : DataW.Trod enc Tryd.prog W 0 (fun _ => true) true 28 (.slice a len cap) d ps) :
    ∃ l : List ByteArray, l.length = len ∧ len ≤ maxLen ∧ Row0 strE W a l := by
  obtain ⟨fuel, hf⟩ := h
  rcases open_strings Tryd.underlying28 Tryd.underlying9 cellsS8 hf with ⟨hcs, _⟩ | ⟨ad, len', cap', ss, hcs, _, hlc, hcm, hsl, _, hcell, hsz⟩
  · simp [Value.cells] at hcs
    obtain ⟨rfl, rfl, rfl⟩ := hcs
    exact ⟨[], rfl, Nat.zero_le _, .inl rfl⟩
  · simp [Value.cells] at hcs
    obtain ⟨rfl, rfl, rfl⟩ := hcs
    simp only [if_true] at hsl
    refine ⟨ss.take len, by rw [List.length_take]; omega, by omega, ?_⟩
    by_cases h0 : len = 0
    · left; rw [h0]; rfl
    · right
      obtain ⟨b, off, spot⟩ := ad
      have hspot : spot = none := by simpa [Addr.add] using World.cell?_spot (hcell 0 (by omega))
      subst hspot
      have hc : ∀ j, j < ss.length → W.cell? ⟨b, off + j, none⟩ = some (.string (ss.getD j ByteArray.empty)) := fun j hj => by rw [← add_flat8]; exact hcell j hj
      refine .inr ⟨b, off, rfl, World.block_lt_of_cell? _ _ (hc 0 (by omega)), fun t u ht => ?_⟩
      rw [str_flat, List.getElem?_map] at ht
      obtain ⟨y, hy, rfl⟩ := Option.map_eq_some_iff.1 ht
      have hlt := (List.getElem?_eq_some_iff.1 hy).1
      rw [List.length_take] at hlt
      rw [hc t (by omega)]
      rw [List.getElem?_take_of_lt (by omega)] at hy
      simp [List.getD, hy]
theorem plays_card (a : Option Addr) (c : Nat) (vs : List SV) (xs : List Ch.St) (p : Int) (_lo : -9223372036854775808 ≤ p) (_hi : p ≤ 9223372036854775807) (b : Option Addr) (cb : Nat) (l : List ByteArray) (w : World) (h : StepsIn w a c vs xs) (hn : Row0 strE w b l) (hE : Env w) :
    Calls Tryd.prog 4 #[.slice a vs.length c, .int .i64 p, .slice b l.length cb] w fun e w' => e = .returned (.bool true) ∧ Below w.heap.size w w' := by
  rw [h.sts.1]
  exact plays8_walk a c vs xs p b cb l w h.row h.sts (fun x hx => (h.bd x hx).2.2) hn hE
end Go.Proofs.YteepfifglafjmaaDoor
