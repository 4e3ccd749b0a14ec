/-
  Walks of layer 2's statements: awake, CheckSums, CheckPackets, CheckMore.
-/
import Derived.Test.YtoaanfokbchalabPkt
import Derived.OpenShut
import Derived.Lib.Builder
namespace Go.Proofs.Ytoaanfokbchalab
open Go.RowKit

theorem crc_nine (w : World) : Calls Try.prog 8 #[.string ⟨#[49, 50, 51, 52, 53, 54, 55, 56, 57]⟩] w fun e w' => e = .returned (.int .i64 3421780262) ∧ w' = w := by
  have h := crc_any ⟨#[49, 50, 51, 52, 53, 54, 55, 56, 57]⟩ w (by decide)
  have e : Chk.more 0 (⟨#[49, 50, 51, 52, 53, 54, 55, 56, 57]⟩ : ByteArray).data.toList = 3421780262 := by decide +kernel
  rw [e] at h; exact h
theorem xor_ab (w : World) : Calls Try.prog 9 #[.string ⟨#[97, 98]⟩] w fun e w' => e = .returned (.int .i64 3) ∧ w' = w := by
  have h := xor_any ⟨#[97, 98]⟩ w (by decide)
  have e : Chk.xor (⟨#[97, 98]⟩ : ByteArray).data.toList = 3 := by decide
  rw [e] at h; exact h
theorem sum_none (w : World) : Calls Try.prog 10 #[.string ⟨#[]⟩] w fun e w' => e = .returned (.int .i64 65535) ∧ w' = w := sum_any ⟨#[]⟩ w (by decide)
theorem control_one (w : World) : Calls Try.prog 6 #[.int .i64 1] w fun e w' => e = .returned (.int .i64 43689) ∧ w' = w := control_any 1 w

set_option maxHeartbeats 400000 in
theorem awake_any (w : World) : Calls Try.prog 5 #[] w fun e w' => e = .returned (.bool true) ∧ w' = w := by
  go_enter Try.func5, Try.ntmps5
  go_wp2_with (go_at_call 8; refine (crc_nine _).mono ?_; rintro e w' ⟨rfl, rfl⟩)
  go_wp2_with (go_at_call 6; refine (control_one _).mono ?_; rintro e w' ⟨rfl, rfl⟩)
  go_wp2_with (go_at_call 9; refine (xor_ab _).mono ?_; rintro e w' ⟨rfl, rfl⟩)
  go_wp2_with (go_at_call 10; refine (sum_none _).mono ?_; rintro e w' ⟨rfl, rfl⟩)
  go_ret
  exact ⟨rfl, rfl⟩

theorem long_one (s : ByteArray) (w : World) (L : Bool) (hL : decide (5000 < s.size) = L) :
    Calls Try.prog 4 #[.slice (some ⟨w.heap.size, 0, none⟩) 1 1] (w.alloc (.cells #[.string s] 9)) fun e w' => e = .returned (.bool L) ∧ Below w.heap.size w w' := by
  have h := long_any [s] w.heap.size (w.alloc (.cells #[.string s] 9)) (by simp) (fun i hi => by
    obtain rfl : i = 0 := by simp at hi; omega
    rw [Lib.cell_of_heap (MapKept.heap_alloc w _).1 0]; rfl)
  have e : ([s].any fun s => decide (5000 < s.size)) = L := by simpa using hL
  rw [e] at h
  refine h.mono ?_
  rintro e w' ⟨rfl, rfl⟩
  exact ⟨rfl, (Below.refl _ w).alloc (Nat.le_refl _) _⟩

end Go.Proofs.Ytoaanfokbchalab
