/-
  Walks of layer 1's statements' helpers: long, awake.
-/
import Derived.Test.YtakgmpebgaiinabDoorQuo
namespace Go.Proofs.YtakgmpebgaiinabDoor
open Go.RowKit

theorem put_258 (w : World) : Calls Tryd.prog 6 #[.int .i64 258, .int .i64 2] w fun e w' => e = .returned (.tuple #[.string ⟨#[1, 2]⟩, .int .i64 0]) ∧ Below w.heap.size w w' := by
  have h := put_any 258 2 w (by decide) (by decide)
  have e : Oct.put 258 2 = ([1, 2], 0) := by decide
  rw [e] at h; exact h
theorem number_907 (w : World) : Calls Tryd.prog 7 #[.string ⟨#[57, 48, 55]⟩] w fun e w' => e = .returned (.tuple #[.int .i64 907, .int .i64 0]) ∧ w' = w := by
  have h := number_any ⟨#[57, 48, 55]⟩ w (by decide)
  have e : Oct.number (⟨#[57, 48, 55]⟩ : ByteArray).data.toList = (907, 0) := by decide
  rw [e] at h; exact h
theorem itoa_m40 : Lib.itoa (-40) = [45, 52, 48] := by
  rw [show (-40 : Int) = -((40 : Nat) : Int) from rfl, Lib.itoa_neg 40 (by decide), Lib.decDigits_two (by decide) (by decide)]; rfl
theorem text_m40 (w : World) (htab : Lib.TabIs Tryd.prog w "internal/strconv.uint64pow10" .u64 Lib.pow10Tab) :
    Calls Tryd.prog 8 #[.int .i64 (-40)] w fun e w' => e = .returned (.string ⟨#[45, 52, 48]⟩) ∧ Below w.heap.size w w' := by
  have h := text_any (-40) w (by decide) (by decide) htab
  rw [itoa_m40] at h; exact h
theorem quote_ab (w : World) : Calls Tryd.prog 9 #[.string ⟨#[97, 32, 98]⟩] w fun e w' => e = .returned (.string ⟨#[97, 92, 50, 48, 98]⟩) ∧ Below w.heap.size w w' := by
  have h := quote_any ⟨#[97, 32, 98]⟩ w (by decide)
  have e : Oct.quote (⟨#[97, 32, 98]⟩ : ByteArray).data.toList = [97, 92, 50, 48, 98] := by decide
  rw [e] at h; exact h

set_option maxHeartbeats 400000 in
theorem awake_any (w : World) (htab : Lib.TabIs Tryd.prog w "internal/strconv.uint64pow10" .u64 Lib.pow10Tab) :
    Calls Tryd.prog 5 #[] w fun e w' => e = .returned (.bool true) ∧ Below w.heap.size w w' := by
  have HT : Hid (Lib.TabIs Tryd.prog w "internal/strconv.uint64pow10" .u64 Lib.pow10Tab) := htab
  clear htab
  go_enter Tryd.func5, Tryd.ntmps5
  go_wp2_with (go_at_call 6; refine (put_258 _).mono ?_)
  rintro e w1 ⟨rfl, b1⟩
  go_wp2_with (go_at_call 7; refine (number_907 _).mono ?_)
  rintro e w2 ⟨rfl, rfl⟩
  go_wp2_with (go_at_call 8; refine (text_m40 _ (tab_below HT.out b1)).mono ?_)
  rintro e w3 ⟨rfl, b3⟩
  go_wp2_with (go_at_call 9; refine (quote_ab _).mono ?_)
  rintro e w4 ⟨rfl, b4⟩
  go_wp2
  go_ret
  exact ⟨rfl, (b1.trans (b3.mono b1.size)).trans (b4.mono (Nat.le_trans b1.size b3.size))⟩

end Go.Proofs.YtakgmpebgaiinabDoor
