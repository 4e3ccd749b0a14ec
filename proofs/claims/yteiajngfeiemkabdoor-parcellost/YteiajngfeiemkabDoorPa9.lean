/-
  Walks of layer 13: the example that each statement ends with.
-/
import Derived.Test.YteiajngfeiemkabDoorPa2
import Derived.Test.YteiajngfeiemkabDoorPa4
import Derived.Test.YteiajngfeiemkabDoorPa7
namespace Go.Proofs.YteiajngfeiemkabDoor
open Go.RowKit
set_option maxHeartbeats 2000000 in
theorem pawake_core (w : World)
    (HW : Hid (∀ W, Calls Tryd.prog 8 #[.agg #[.int .i64 99, .string ⟨#[72]⟩]] W fun e w' => e = .returned (.tuple #[.string ⟨#[99, 48, 48, 48, 49, 72]⟩, .int .i64 0]) ∧ Below W.heap.size W w'))
    (HR : Hid (∀ W, Calls Tryd.prog 9 #[.string ⟨#[100, 48, 48, 48, 50, 97, 98, 99]⟩] W fun e w' => e = .returned (.tuple #[.agg #[.int .i64 100, .string ⟨#[97, 98]⟩], .int .i64 7, .int .i64 0]) ∧ Below W.heap.size W w'))
    (HC : Hid (∀ W, Below w.heap.size w W → Calls Tryd.prog 5 #[.string ⟨#[97, 98, 99]⟩, .int .i64 2] W fun e w' => ∃ A cap, e = .returned (.tuple #[.slice A 3 cap, .int .i64 0]) ∧ Below W.heap.size W w')) :
    Calls Tryd.prog 4 #[] w fun e w' => e = .returned (.bool true) ∧ Below w.heap.size w w' := by
  go_enter Tryd.func4, Tryd.ntmps4
  go_upto_region 3 with (first
    | (go_at_call 8; refine (HW.out _).mono ?_; rintro e w1 ⟨rfl, b1⟩)
    | (go_at_call 9; refine (HR.out _).mono ?_; rintro e w2 ⟨rfl, b2⟩))
  have b3 := Rg.chain (Rg.chain b1 b2) (Rg.al1 w2 (.cells #[.int .i64 100, .string ⟨#[97, 98]⟩] 34))
  have k3 : Rg.Bk w2.heap.size [.int .i64 100, .string ⟨#[97, 98]⟩] 34 (w2.alloc (.cells #[.int .i64 100, .string ⟨#[97, 98]⟩] 34)) := Rg.Bk.new rfl
  generalize w2.alloc _ = W3 at *
  generalize w2.heap.size = B at *
  go_wp2_with (go_at_call 5; refine (HC.out _ b3).mono ?_; rintro e w4 ⟨A, cap, rfl, b4⟩; have k4 := k3.below b4 k3.lt; have c1 := k4.cell 1; simp only [List.getElem?_cons_zero, List.getElem?_cons_succ] at c1)
  go_ret
  exact ⟨rfl, Rg.chain b3 b4⟩
theorem pawake_any (w : World) (htab : Lib.TabIs Tryd.prog w "internal/strconv.uint64pow10" .u64 Lib.pow10Tab) :
    Calls Tryd.prog 4 #[] w fun e w' => e = .returned (.bool true) ∧ Below w.heap.size w w' := by
  refine pawake_core w (fun W => ?_) (fun W => ?_) (fun W hW => ?_)
  · have h := pwrite_any 99 ⟨#[72]⟩ W
    have e : Pa.wr ⟨99, (⟨#[72]⟩ : ByteArray).data.toList⟩ = ([99, 48, 48, 48, 49, 72], 0) := by decide +kernel
    rw [e] at h
    exact h
  · have h := pread_any ⟨#[100, 48, 48, 48, 50, 97, 98, 99]⟩ (by decide +kernel) W
    have e : Pa.read (⟨#[100, 48, 48, 48, 50, 97, 98, 99]⟩ : ByteArray).data.toList = .ok (⟨100, [97, 98]⟩, 7) := rfl
    rw [e] at h
    exact h
  · refine (pcut_any ⟨#[97, 98, 99]⟩ (by decide +kernel) 2 W (tab_below htab hW)).mono ?_
    have e : Pa.cutR (⟨#[97, 98, 99]⟩ : ByteArray).data.toList 2 = (Pa.file 2 [97, 98, 99], 0) := rfl
    rw [e]
    rintro e w' ⟨A, cap, rfl, _, _, b⟩
    rw [Pa.file_len]
    exact ⟨A, cap, rfl, b⟩
end Go.Proofs.YteiajngfeiemkabDoor
