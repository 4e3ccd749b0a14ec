/-
  Walks of layer 2's statements: awake, CheckSums, CheckPackets, CheckMore.
-/
import Derived.Test.YtoaanfokbchalaaPkt
import Derived.OpenShut
import Derived.Lib.Builder
namespace Go.Proofs.Ytoaanfokbchalaa
open Go.RowKit

theorem crc_nine (w : World) : Calls Try.prog 15 #[.string ⟨#[49, 50, 51, 52, 53, 54, 55, 56, 57]⟩] w fun e w' => e = .returned (.int .i64 3421780262) ∧ w' = w := by
  have h := crc_any ⟨#[49, 50, 51, 52, 53, 54, 55, 56, 57]⟩ w (by decide)
  have e : Chk.more 0 (⟨#[49, 50, 51, 52, 53, 54, 55, 56, 57]⟩ : ByteArray).data.toList = 3421780262 := by decide +kernel
  rw [e] at h; exact h
theorem xor_ab (w : World) : Calls Try.prog 13 #[.string ⟨#[97, 98]⟩] w fun e w' => e = .returned (.int .i64 3) ∧ w' = w := by
  have h := xor_any ⟨#[97, 98]⟩ w (by decide)
  have e : Chk.xor (⟨#[97, 98]⟩ : ByteArray).data.toList = 3 := by decide
  rw [e] at h; exact h
theorem sum_none (w : World) : Calls Try.prog 11 #[.string ⟨#[]⟩] w fun e w' => e = .returned (.int .i64 65535) ∧ w' = w := sum_any ⟨#[]⟩ w (by decide)
theorem control_one (w : World) : Calls Try.prog 19 #[.int .i64 1] w fun e w' => e = .returned (.int .i64 43689) ∧ w' = w := control_any 1 w

set_option maxHeartbeats 400000 in
theorem awake_any (w : World) : Calls Try.prog 10 #[] w fun e w' => e = .returned (.bool true) ∧ w' = w := by
  go_enter Try.func10, Try.ntmps10
  go_wp2_with (go_at_call 15; refine (crc_nine _).mono ?_; rintro e w' ⟨rfl, rfl⟩)
  go_wp2_with (go_at_call 19; refine (control_one _).mono ?_; rintro e w' ⟨rfl, rfl⟩)
  go_wp2_with (go_at_call 13; refine (xor_ab _).mono ?_; rintro e w' ⟨rfl, rfl⟩)
  go_wp2_with (go_at_call 11; refine (sum_none _).mono ?_; rintro e w' ⟨rfl, rfl⟩)
  go_ret
  exact ⟨rfl, rfl⟩

theorem long_one (s : ByteArray) (w : World) (L : Bool) (hL : decide (5000 < s.size) = L) :
    Calls Try.prog 9 #[.slice (some ⟨w.heap.size, 0, none⟩) 1 1] (w.alloc (.cells #[.string s] 9)) fun e w' => e = .returned (.bool L) ∧ Below w.heap.size w w' := by
  have h := long_any [s] w.heap.size (w.alloc (.cells #[.string s] 9)) (by simp) (fun i hi => by
    obtain rfl : i = 0 := by simp at hi; omega
    rw [Lib.cell_of_heap (MapKept.heap_alloc w _).1 0]; rfl)
  have e : ([s].any fun s => decide (5000 < s.size)) = L := by simpa using hL
  rw [e] at h
  refine h.mono ?_
  rintro e w' ⟨rfl, rfl⟩
  exact ⟨rfl, (Below.refl _ w).alloc (Nat.le_refl _) _⟩

set_option maxHeartbeats 1000000 in
theorem sums_walk (s : ByteArray) (hs : s.size ≤ maxLen) (w : World) :
    Calls Try.prog 3 #[.string s] w fun e w' => e = .returned (.bool true) ∧ Below w.heap.size w w' := by
  have HL := fun w L hL => long_one s w L hL
  have H1 := fun w => sum_any s w hs
  have H2 := fun w => refSum_any s w hs
  have H3 := fun w => xor_any s w hs
  have H4 := fun w => refXor_any s w hs
  have H5 := fun w => crc_any s w hs
  have H6 := fun w => refCrc_any s w hs
  by_cases hb : 5000 < s.size
  · have HL1 : Hid (∀ w : World, Calls Try.prog 9 #[.slice (some ⟨w.heap.size, 0, none⟩) 1 1] (w.alloc (.cells #[.string s] 9)) fun e w' => e = .returned (.bool true) ∧ Below w.heap.size w w') := fun w => HL w true (decide_eq_true hb)
    clear HL H1 H2 H3 H4 H5 H6 hb
    go_enter Try.func3, Try.ntmps3
    go_wp2_with (go_at_call 9; refine (HL1.out w).mono ?_)
    rintro e w1 ⟨rfl, b1⟩
    go_wp2_with (go_at_call 10; refine (awake_any _).mono ?_; rintro e w3 ⟨rfl, rfl⟩)
    go_ret
    exact ⟨rfl, b1⟩
  · have HL1 : Hid (∀ w : World, Calls Try.prog 9 #[.slice (some ⟨w.heap.size, 0, none⟩) 1 1] (w.alloc (.cells #[.string s] 9)) fun e w' => e = .returned (.bool false) ∧ Below w.heap.size w w') := fun w => HL w false (decide_eq_false hb)
    generalize Chk.sum s.data.toList = n1 at *
    generalize Chk.xor s.data.toList = n2 at *
    generalize Chk.more 0 s.data.toList = n3 at *
    clear HL hb
    go_enter Try.func3, Try.ntmps3
    go_wp2_with (go_at_call 9; refine (HL1.out w).mono ?_)
    rintro e w1 ⟨rfl, b1⟩
    go_wp2_with (go_at_call 9; refine (HL1.out w1).mono ?_)
    rintro e w2 ⟨rfl, b2⟩
    go_wp2_with (go_at_call 11; refine (H1 _).mono ?_; rintro e w3 ⟨rfl, rfl⟩)
    go_wp2_with (go_at_call 12; refine (H2 _).mono ?_; rintro e w3 ⟨rfl, rfl⟩)
    go_wp2_with (go_at_call 13; refine (H3 _).mono ?_; rintro e w3 ⟨rfl, rfl⟩)
    go_wp2_with (go_at_call 14; refine (H4 _).mono ?_; rintro e w3 ⟨rfl, rfl⟩)
    go_wp2_with (go_at_call 15; refine (H5 _).mono ?_; rintro e w3 ⟨rfl, rfl⟩)
    go_wp2_with (go_at_call 16; refine (H6 _).mono ?_; rintro e w3 ⟨rfl, rfl⟩)
    go_wp2_with (go_at_call 10; refine (awake_any _).mono ?_; rintro e w3 ⟨rfl, rfl⟩)
    go_ret
    exact ⟨rfl, b1.trans (b2.mono b1.size)⟩
end Go.Proofs.Ytoaanfokbchalaa
