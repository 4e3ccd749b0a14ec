/-
  An argument []int: what the row says of it, in the walk's words.
-/
import Derived.Test.YtpggnhnpphbaeaaDoorCp1
import Derived.Test.YtpggnhnpphbaeaaDoorStepsArg
import Derived.ChangeSlices
namespace Go.Proofs.YtpggnhnpphbaeaaDoor
open Go.ChangeShapes Go.WideShapes Go.ChangeAt Go.RowKit

theorem cellsI9 : Tryd.prog.cellsOf 3 = 1 := by kernel_rfl
theorem add_flat9 (b o j : Nat) : (⟨b, o, none⟩ : Addr).add j = ⟨b, o + j, none⟩ := by cases j <;> simp [Addr.add]
theorem open_nums {H : Type} {enc : TypeId × Value → H} {W : World} {a : Option Addr} {len cap : Nat} {d : DataW H} {ps : List MemPlace}
    (h : DataW.Trod enc Tryd.prog W 0 (fun _ => true) true 23 (.slice a len cap) d ps) :
    ∃ l : List Int, l.length = len ∧ len ≤ maxLen ∧ NRow9 W a l := by
  obtain ⟨fuel, hf⟩ := h
  rcases open_ints Tryd.underlying23 Tryd.underlying3 cellsI9 hf with ⟨hcs, _⟩ | ⟨ad, len', cap', ss, hcs, _, hlc, hcm, hsl, _, hcell, hsz⟩
  · simp [Value.cells] at hcs
    obtain ⟨rfl, rfl, rfl⟩ := hcs
    exact ⟨[], rfl, Nat.zero_le _, .inl rfl⟩
  · simp [Value.cells] at hcs
    obtain ⟨rfl, rfl, rfl⟩ := hcs
    simp only [if_true] at hsl
    refine ⟨ss.take len, by rw [List.length_take]; omega, by omega, ?_⟩
    by_cases h0 : len = 0
    · left; rw [h0]; rfl
    · right
      obtain ⟨b, off, spot⟩ := ad
      have hspot : spot = none := by simpa [Addr.add] using World.cell?_spot (hcell 0 (by omega))
      subst hspot
      have hc : ∀ j, j < ss.length → W.cell? ⟨b, off + j, none⟩ = some (.int .i64 (ss.getD j 0)) := fun j hj => by rw [← add_flat9]; exact hcell j hj
      refine ⟨b, off, rfl, World.block_lt_of_cell? _ _ (hc 0 (by omega)), fun i hi => ?_⟩
      rw [List.length_take] at hi
      rw [hc i (by omega)]
      simp [List.getD, List.getElem?_eq_getElem (show i < ss.length by omega)]
theorem pieces_card (a : Option Addr) (c : Nat) (vs : List SV) (xs : List Ch.St) (s : ByteArray) (_hs : s.size ≤ maxLen) (b : Option Addr) (cb : Nat) (l : List Int) (w : World) (h : StepsIn w a c vs xs) (hn : NRow9 w b l) (hE : Env w) :
    Calls Tryd.prog 3 #[.slice a vs.length c, .string s, .slice b l.length cb] w fun e w' => e = .returned (.bool true) ∧ Below w.heap.size w w' := by
  rw [h.sts.1]
  exact pieces8_walk a c vs xs s b cb l w h.row h.sts (fun x hx => (h.bd x hx).2.2) hn hE
end Go.Proofs.YtpggnhnpphbaeaaDoor
