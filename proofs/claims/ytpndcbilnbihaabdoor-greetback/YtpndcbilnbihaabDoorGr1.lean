/-
  Layer 9: Wrap and Scan, the program's and the document's.
-/
import Derived.Test.YtpndcbilnbihaabDoorMathGr
import Derived.Test.YtpndcbilnbihaabDoorRet
import Derived.Test.YtpndcbilnbihaabDoorShelf
import Derived.Lib.IndexLaws
import Derived.Lib.IndexAny
import Derived.WalkMore
import Derived.WalkSmall
import Derived.BigQuiet
import Derived.Deep.QuietTactic
import Derived.Deep.RegionHeld3
import Derived.Deep.RegionWith
import Derived.Deep.DeepCutAuto
namespace Go.Proofs.YtpndcbilnbihaabDoor
open Go.RowKit

namespace Gr
theorem any_bad (l : List UInt8) : l.any bad = (decide (0 ≤ Lib.indexByte l 16) || decide (0 ≤ Lib.indexByte l 0)) := by
  rw [← Lib.contains_iff_indexByte, ← Lib.contains_iff_indexByte]
  induction l with
  | nil => rfl
  | cons c r ih =>
    rw [List.any_cons, List.contains_cons, List.contains_cons, ih]
    unfold bad
    rw [show ((16 : UInt8) == c) = (c == 16) from Bool.beq_comm .., show ((0 : UInt8) == c) = (c == 0) from Bool.beq_comm ..]
    cases c == 0 <;> cases c == 16 <;> cases r.contains 16 <;> cases r.contains 0 <;> rfl
theorem any_at (s : ByteArray) (k : Nat) (h : k < s.size) (hb : bad s[k] = true) : s.data.toList.any bad = true := by
  rw [List.any_eq_true]; exact ⟨s[k], Oct.mem_at s k h, hb⟩
theorem any_snoc (s : ByteArray) (k : Nat) (h : k < s.size) (h1 : (s.data.toList.take k).any bad = false) (hb : bad s[k] = false) : (s.data.toList.take (k + 1)).any bad = false := by
  rw [Oct.take_snoc s k h, List.any_append, h1]; simp [hb]
theorem bad_of {c : UInt8} (h : (c.toNat : Int) = 0 ∨ (c.toNat : Int) = 16) : bad c = true := by
  unfold bad
  rcases h with h | h
  · rw [show c = 0 from UInt8.toNat_inj.1 (by have : (0 : UInt8).toNat = 0 := rfl; omega)]; rfl
  · rw [show c = 16 from UInt8.toNat_inj.1 (by have : (16 : UInt8).toNat = 16 := rfl; omega)]; rfl
theorem bad_not {c : UInt8} (h0 : ¬ (c.toNat : Int) = 0) (h1 : ¬ (c.toNat : Int) = 16) : bad c = false := by
  unfold bad
  rw [Bool.or_eq_false_iff]
  constructor
  · rw [beq_eq_false_iff_ne]; rintro rfl; exact h0 rfl
  · rw [beq_eq_false_iff_ne]; rintro rfl; exact h1 rfl
theorem is16 {c : UInt8} (h : (c.toNat : Int) = 16) : c = 16 := UInt8.toNat_inj.1 (by have : (16 : UInt8).toNat = 16 := rfl; omega)
theorem not16 {c : UInt8} (h : ¬ (c.toNat : Int) = 16) : c ≠ 16 := by rintro rfl; exact h rfl
theorem is0 {c : UInt8} (h : (c.toNat : Int) = 0) : c = 0 := UInt8.toNat_inj.1 (by have : (0 : UInt8).toNat = 0 := rfl; omega)
theorem not0 {c : UInt8} (h : ¬ (c.toNat : Int) = 0) : c ≠ 0 := by rintro rfl; exact h rfl
end Gr

theorem ret_ssb {a b c d : ByteArray} {x y : Bool} (h : a = c) (h2 : b = d) (h3 : x = y) : Ending.returned (.tuple #[.string a, .string b, .bool x]) = .returned (.tuple #[.string c, .string d, .bool y]) := by rw [h, h2, h3]

set_option maxHeartbeats 1000000 in
theorem wrap_any (s : ByteArray) (w : World) (hs : s.size ≤ maxLen) :
    Calls Tryd.prog 6 #[.string s] w fun e w' => e = .returned (.tuple #[.string (Gr.wrapOf s).1, .int .i64 (Gr.wrapOf s).2]) ∧ w' = w := by
  unfold maxLen at hs
  by_cases h3 : 300 < s.size
  · have hr : Hid (Gr.wrapOf s = (⟨#[]⟩, 5)) := Gr.wrap_long h3
    go_enter Tryd.func6, Tryd.ntmps6
    go_wp2
    go_ret2
    exact ⟨ret_se (by rw [hr.out]) (by rw [hr.out]), rfl⟩
  · have HI : Hid (∀ W, Calls Tryd.prog 15 #[.string s, .int .u8 16] W fun e w' => e = .returned (.int .i64 (Lib.indexByte s.data.toList 16)) ∧ W = w') := fun W =>
      (Tryd.strings_IndexByte s 16 W).mono fun e w' h => ⟨h.1, h.2.symm⟩
    have HJ : Hid (∀ W, Calls Tryd.prog 15 #[.string s, .int .u8 0] W fun e w' => e = .returned (.int .i64 (Lib.indexByte s.data.toList 0)) ∧ W = w') := fun W =>
      (Tryd.strings_IndexByte s 0 W).mono fun e w' h => ⟨h.1, h.2.symm⟩
    have hbad : Hid (s.data.toList.any Gr.bad = (decide (0 ≤ Lib.indexByte s.data.toList 16) || decide (0 ≤ Lib.indexByte s.data.toList 0))) := Gr.any_bad _
    have hf : Hid (s.data.toList.any Gr.bad = true → Gr.wrapOf s = (⟨#[]⟩, 3)) := Gr.wrap_form h3
    have ho : Hid (s.data.toList.any Gr.bad = false → Gr.wrapOf s = (⟨#[16]⟩ ++ s ++ ⟨#[0]⟩, 0)) := Gr.wrap_ok h3
    generalize Lib.indexByte s.data.toList 16 = I at *
    generalize Lib.indexByte s.data.toList 0 = J at *
    by_cases hI : 0 ≤ I
    · have hr : Hid (Gr.wrapOf s = (⟨#[]⟩, 3)) := hf.out (by rw [hbad.out]; simp [hI])
      have d0 : decide (0 ≤ I) = true := by simp [hI]
      go_enter Tryd.func6, Tryd.ntmps6
      go_wp2_with (go_at_call 15; with_reducible refine (HI.out _).mono ?_; rintro e w' ⟨rfl, rfl⟩)
      go_ret2
      exact ⟨ret_se (by rw [hr.out]) (by rw [hr.out]), rfl⟩
    · have d0 : decide (0 ≤ I) = false := by simp; omega
      by_cases hJ : 0 ≤ J
      · have hr : Hid (Gr.wrapOf s = (⟨#[]⟩, 3)) := hf.out (by rw [hbad.out]; simp [hJ])
        have d1 : decide (0 ≤ J) = true := by simp [hJ]
        go_enter Tryd.func6, Tryd.ntmps6
        go_wp2_with (go_at_call 15; first | (with_reducible refine (HI.out _).mono ?_; rintro e w' ⟨rfl, rfl⟩) | (with_reducible refine (HJ.out _).mono ?_; rintro e w' ⟨rfl, rfl⟩))
        go_ret2
        exact ⟨ret_se (by rw [hr.out]) (by rw [hr.out]), rfl⟩
      · have hr : Hid (Gr.wrapOf s = (⟨#[16]⟩ ++ s ++ ⟨#[0]⟩, 0)) := ho.out (by rw [hbad.out]; simp [hJ, hI])
        have d1 : decide (0 ≤ J) = false := by simp; omega
        have hsm : s.size ≤ 300 := by omega
        go_enter Tryd.func6, Tryd.ntmps6
        go_wp2_with (go_at_call 15; first | (with_reducible refine (HI.out _).mono ?_; rintro e w' ⟨rfl, rfl⟩) | (with_reducible refine (HJ.out _).mono ?_; rintro e w' ⟨rfl, rfl⟩))
        go_ret2
        exact ⟨ret_se (by rw [hr.out]) (by rw [hr.out]), rfl⟩

end Go.Proofs.YtpndcbilnbihaabDoor
