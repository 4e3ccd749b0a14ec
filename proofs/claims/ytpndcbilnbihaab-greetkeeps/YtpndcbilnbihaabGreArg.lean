/-
  An argument []string of the statements of layer 9; long over a row of texts.
-/
import Derived.Test.YtpndcbilnbihaabGs1
import Derived.Test.YtpndcbilnbihaabLay0
import Derived.Lib.SmallJoins
import Derived.Carry
import Derived.SliceStrings
import Derived.ChangeSlices
namespace Go.Proofs.Ytpndcbilnbihaab
open Go.ChangeShapes Go.WideShapes Go.ChangeAt Go.RowKit

theorem laidOutP : laidOutB Try.prog = true := by kernel_rfl
theorem cellsS : Try.prog.cellsOf 9 = 1 := by kernel_rfl
theorem add_flat (b o j : Nat) : (⟨b, o, none⟩ : Addr).add j = ⟨b, o + j, none⟩ := by cases j <;> simp [Addr.add]
/-- a row of texts that is read -/
def GRow (W : World) (a : Option Addr) (l : List ByteArray) : Prop := l = [] ∨ ∃ b o, a = some ⟨b, o, none⟩ ∧ b < W.heap.size ∧ ∀ (i : Nat) (h : i < l.length), W.cell? ⟨b, o + i, none⟩ = some (.string l[i])
theorem GRow.below {W W' : World} {a : Option Addr} {l : List ByteArray} (h : GRow W a l) (hb : Below W.heap.size W W') : GRow W' a l := by
  rcases h with h | ⟨b, o, e, hlt, hc⟩
  · exact .inl h
  · exact .inr ⟨b, o, e, Nat.lt_of_lt_of_le hlt hb.size, fun i hi => by rw [World.cell?_of_block (a := ⟨b, o + i, none⟩) (hb.block b hlt)]; exact hc i hi⟩
theorem GRow.at {W : World} {a : Option Addr} {l : List ByteArray} (h : GRow W a l) {i : Nat} (hi : i < l.length) : ∃ b o, a = some ⟨b, o, none⟩ ∧ b < W.heap.size ∧ W.cell? ⟨b, o + i, none⟩ = some (.string l[i]) := by
  rcases h with rfl | ⟨b, o, e, hlt, hc⟩
  · simp at hi
  · exact ⟨b, o, e, hlt, hc i hi⟩
theorem open_strs {H : Type} {enc : TypeId × Value → H} {W : World} {a : Option Addr} {len cap : Nat} {d : DataW H} {ps : List MemPlace}
    (h : DataW.Trod enc Try.prog W 0 (fun _ => true) true 22 (.slice a len cap) d ps) :
    ∃ l : List ByteArray, l.length = len ∧ len ≤ maxLen ∧ GRow W a l := by
  obtain ⟨fuel, hf⟩ := h
  rcases open_strings Try.underlying22 Try.underlying9 cellsS hf with ⟨hcs, _⟩ | ⟨ad, len', cap', ss, hcs, _, hlc, hcm, hsl, _, hcell, hsz⟩
  · simp [Value.cells] at hcs
    obtain ⟨rfl, rfl, rfl⟩ := hcs
    exact ⟨[], rfl, Nat.zero_le _, .inl rfl⟩
  · simp [Value.cells] at hcs
    obtain ⟨rfl, rfl, rfl⟩ := hcs
    simp only [if_true] at hsl
    refine ⟨ss.take len, by rw [List.length_take]; omega, by omega, ?_⟩
    by_cases h0 : len = 0
    · left; rw [h0]; rfl
    · right
      obtain ⟨b, off, spot⟩ := ad
      have hspot : spot = none := by simpa [Addr.add] using World.cell?_spot (hcell 0 (by omega))
      subst hspot
      have hc : ∀ j, j < ss.length → W.cell? ⟨b, off + j, none⟩ = some (.string (ss.getD j ByteArray.empty)) := fun j hj => by rw [← add_flat]; exact hcell j hj
      refine ⟨b, off, rfl, World.block_lt_of_cell? _ _ (hc 0 (by omega)), fun i hi => ?_⟩
      rw [List.length_take] at hi
      rw [hc i (by omega)]
      simp [List.getD, List.getElem?_eq_getElem (show i < ss.length by omega)]

set_option maxHeartbeats 400000 in
theorem long_row (a : Option Addr) (cap : Nat) (l : List ByteArray) (w : World) (hn : l.length ≤ 1000) (hr : GRow w a l) :
    Calls Try.prog 5 #[.slice a l.length cap] w fun e w' => e = .returned (.bool (l.any fun s => decide (3000 < s.size))) ∧ w = w' := by
  have hr' : Hid (GRow w a l) := hr
  clear hr
  obtain ⟨N, hN⟩ : ∃ N, N = l.length := ⟨_, rfl⟩
  rw [← hN] at hn ⊢
  replace hN := Rg.hid hN
  go_enter Try.func5, Try.ntmps5
  go_wp2
  go_loopw [7] (fun i wr => ∃ k : Nat, k ≤ N ∧ i = .int .i64 k ∧ Hid ((l.take k).any (fun s => decide (3000 < s.size)) = false) ∧ w = wr) (fun i _ => N - (intOf i).toNat)
  case atStart => exact ⟨0, Nat.zero_le _, rfl, rfl, rfl⟩
  case round =>
    obtain ⟨k, hk, rfl, hno, rfl⟩ := hrel
    by_cases hlt : k < N
    · have hlt2 : k < l.length := by rw [← hN.out]; exact hlt
      obtain ⟨b, o, rfl, _, hcell⟩ := hr'.out.at hlt2
      have hz0 : (0 : Int) ≤ (k : Int) := by omega
      have hz1 : (k : Int) < (N : Int) := by omega
      by_cases hb : 3000 < l[k].size
      · have hr : Hid (l.any (fun s => decide (3000 < s.size)) = true) := any_big hlt2 hb
        have hb2 : decide ((3000 : Int) < (l[k].size : Int)) = true := by simp; omega
        clear hno hr'
        generalize l[k] = x at *
        go_wp2
        go_ret
        exact ⟨ret_bool hr.out.symm, rfl⟩
      · have hr : Hid ((l.take (k + 1)).any (fun s => decide (3000 < s.size)) = false) := by
          show _ = _; rw [any_take hlt2, hno.out]; simpa using hb
        have hb2 : decide ((3000 : Int) < (l[k].size : Int)) = false := by simp; omega
        clear hno hr'
        generalize l[k] = x at *
        go_wp2
        go_roundw
        case rel => exact ⟨k + 1, by omega, by go_num, hr, trivial⟩
        case measure => simp [intOf]; omega
    · have hr : Hid (l.any (fun s => decide (3000 < s.size)) = false) := by
        have := hno.out; rw [List.take_of_length_le (by have := hN.out; omega)] at this; exact this
      clear hno
      go_wp2
      go_ret
      exact ⟨ret_bool hr.out.symm, rfl⟩
end Go.Proofs.Ytpndcbilnbihaab
