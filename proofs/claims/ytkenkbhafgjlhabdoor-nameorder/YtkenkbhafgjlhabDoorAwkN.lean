/-
  Walk of layer 3's statements: awake.
-/
import Derived.Test.YtkenkbhafgjlhabDoorNam8
namespace Go.Proofs.YtkenkbhafgjlhabDoor
open Go.RowKit

namespace Nam
theorem itoa7 : Lib.itoa 7 = [55] := by
  have e : Lib.itoa ((7 : Nat) : Int) = Lib.decDigits 7 := by unfold Lib.itoa; rw [if_neg (by omega)]; simp
  rw [show (7 : Int) = ((7 : Nat) : Int) from rfl, e, Oct.dec_small (by omega)]; rfl
theorem itoa99 : Lib.itoa 99 = [57, 57] := by
  have e : Lib.itoa ((99 : Nat) : Int) = Lib.decDigits 99 := by unfold Lib.itoa; rw [if_neg (by omega)]; simp
  rw [show (99 : Int) = ((99 : Nat) : Int) from rfl, e, Oct.dec_big (by omega), Oct.dec_small (by omega)]; rfl
theorem awk1 : file 67 [100, 117, 107, 101] 110 7 = ([67, 46, 100, 117, 107, 101, 46, 110, 55], 0) := by
  rw [file_ok (by decide) (by decide) (by decide), fileT, idT, itoa7]; rfl
theorem awk2 : pfile [88, 46, 97, 49, 46, 90, 57, 57] = (88, [97, 49], 90, 99, 0) := by
  have e : ([88, 46, 97, 49, 46, 90, 57, 57] : List UInt8) = fileT 88 [97, 49] 90 99 := by rw [fileT, idT, itoa99]; rfl
  rw [e]; exact pfile_file (by decide) (by decide) (by decide)
end Nam
theorem awk_file (w : World) (htab : Lib.TabIs Tryd.prog w "internal/strconv.uint64pow10" .u64 Lib.pow10Tab) :
    Calls Tryd.prog 6 #[.int .i64 67, .string ⟨#[100, 117, 107, 101]⟩, .agg #[.int .i64 110, .int .i64 7]] w fun e w' => e = .returned (.tuple #[.string ⟨#[67, 46, 100, 117, 107, 101, 46, 110, 55]⟩, .int .i64 0]) ∧ Below w.heap.size w w' := by
  have h := file_any 67 ⟨#[100, 117, 107, 101]⟩ 110 7 w (by decide) htab
  rw [show (⟨#[100, 117, 107, 101]⟩ : ByteArray).data.toList = [100, 117, 107, 101] from rfl, Nam.awk1] at h; exact h
theorem awk_parse (w : World) :
    Calls Tryd.prog 7 #[.string ⟨#[88, 46, 97, 49, 46, 90, 57, 57]⟩] w fun e w' => e = .returned (.tuple #[.int .i64 88, .string ⟨#[97, 49]⟩, .agg #[.int .i64 90, .int .i64 99], .int .i64 0]) ∧ Below w.heap.size w w' := by
  have h := parseFile_any ⟨#[88, 46, 97, 49, 46, 90, 57, 57]⟩ w (by decide)
  rw [show (⟨#[88, 46, 97, 49, 46, 90, 57, 57]⟩ : ByteArray).data.toList = [88, 46, 97, 49, 46, 90, 57, 57] from rfl, Nam.awk2] at h; exact h
theorem awk_less (w : World) : Calls Tryd.prog 4 #[.agg #[.int .i64 90, .int .i64 99], .agg #[.int .i64 97, .int .i64 1]] w fun e w' => e = .returned (.bool true) ∧ Below w.heap.size w w' := less_any 90 99 97 1 w

set_option maxHeartbeats 1000000 in
theorem awake_any (w : World) (htab : Lib.TabIs Tryd.prog w "internal/strconv.uint64pow10" .u64 Lib.pow10Tab) :
    Calls Tryd.prog 5 #[] w fun e w' => e = .returned (.bool true) ∧ Below w.heap.size w w' := by
  have HF : Hid (Calls Tryd.prog 6 #[.int .i64 67, .string ⟨#[100, 117, 107, 101]⟩, .agg #[.int .i64 110, .int .i64 7]] w fun e w' => e = .returned (.tuple #[.string ⟨#[67, 46, 100, 117, 107, 101, 46, 110, 55]⟩, .int .i64 0]) ∧ Below w.heap.size w w') := awk_file w htab
  clear htab
  go_enter Tryd.func5, Tryd.ntmps5
  go_wp2_with (go_at_call 6; refine HF.out.mono ?_)
  rintro e w1 ⟨rfl, b1⟩
  go_wp2_with (go_at_call 7; refine (awk_parse _).mono ?_)
  rintro e w2 ⟨rfl, b2⟩
  have B2 := b1.trans (b2.mono b1.size)
  have B3 := B2.alloc B2.size (.cells #[.int .i64 90, .int .i64 99] 23)
  go_wp2_with (go_at_call 4; refine (awk_less _).mono ?_)
  rintro e w3 ⟨rfl, b3⟩
  go_wp2
  go_ret
  exact ⟨rfl, B3.trans (b3.mono B3.size)⟩
end Go.Proofs.YtkenkbhafgjlhabDoor
