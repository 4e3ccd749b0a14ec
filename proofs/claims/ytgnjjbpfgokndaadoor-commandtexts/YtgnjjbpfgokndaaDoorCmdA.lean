/-
  Walks of layer 10: what a word's verb lets it have, its letter and number, and its text.
-/
import Derived.Test.YtgnjjbpfgokndaaDoorMathC
namespace Go.Proofs.YtgnjjbpfgokndaaDoor
open Go.RowKit

theorem beq0 {a b : Int} (h : a ≠ b) : (a == b) = false := beq_eq_false_iff_ne.2 h
theorem beq1 {a b : Int} (h : a = b) : (a == b) = true := beq_iff_eq.2 h
theorem sbeq {s : ByteArray} {l : List UInt8} (h : ¬ s.data.toList = l) : (s.toList == l) = false := by rw [tl_eq]; exact beq_eq_false_iff_ne.2 h
theorem sbeq1 {s : ByteArray} {l : List UInt8} (h : s.data.toList = l) : (s.toList == l) = true := by rw [tl_eq]; exact beq_iff_eq.2 h

theorem mostAt_any (v : Int) (w : World) : Calls Tryd.prog 24 #[.int .i64 v] w fun e w' => e = .returned (.int .i64 (Cmd.most v)) ∧ w' = w := by
  by_cases h4 : v = 4
  · subst h4
    have hr : Hid (Cmd.most 4 = 6000) := by show _ = _; decide
    go_enter Tryd.func24, Tryd.ntmps24
    go_wp2
    go_ret
    exact ⟨ret_int hr.out.symm, rfl⟩
  have d4 := beq0 h4
  by_cases h5 : v = 5
  · subst h5
    have hr : Hid (Cmd.most 5 = 9) := by show _ = _; decide
    go_enter Tryd.func24, Tryd.ntmps24
    go_wp2
    go_ret
    exact ⟨ret_int hr.out.symm, rfl⟩
  have d5 := beq0 h5
  by_cases h7 : v = 7
  · subst h7
    have hr : Hid (Cmd.most 7 = 9) := by show _ = _; decide
    go_enter Tryd.func24, Tryd.ntmps24
    go_wp2
    go_ret
    exact ⟨ret_int hr.out.symm, rfl⟩
  have d7 := beq0 h7
  have hr : Hid (Cmd.most v = 0) := by show _ = _; unfold Cmd.most; rw [if_neg h4, if_neg (by rintro (c | c); exact h5 c; exact h7 c)]
  clear h4 h5 h7
  go_enter Tryd.func24, Tryd.ntmps24
  go_wp2
  go_ret
  exact ⟨ret_int hr.out.symm, rfl⟩

theorem isAtOf_any (v a : Int) (w : World) : Calls Tryd.prog 15 #[.int .i64 v, .int .i64 a] w fun e w' => e = .returned (.bool (Cmd.atOf v a)) ∧ w' = w := by
  have HM : Hid (∀ W : World, Calls Tryd.prog 24 #[.int .i64 v] W fun e w' => e = .returned (.int .i64 (Cmd.most v)) ∧ w' = W) := fun W => mostAt_any v W
  have hr : Hid (Cmd.atOf v a = (decide (0 ≤ a) && decide (a ≤ Cmd.most v))) := rfl
  generalize Cmd.most v = m at *
  cases d0 : decide (0 ≤ a)
  · rw [d0] at hr
    have d0' : ¬ 0 ≤ a := of_decide_eq_false d0
    go_enter Tryd.func15, Tryd.ntmps15
    go_wp2_with (go_at_call 24; refine (HM.out _).mono ?_; rintro e w1 ⟨rfl, rfl⟩)
    go_ret
    exact ⟨ret_bool hr.out.symm, rfl⟩
  · rw [d0] at hr
    have d0' : 0 ≤ a := of_decide_eq_true d0
    go_enter Tryd.func15, Tryd.ntmps15
    go_wp2_with (go_at_call 24; refine (HM.out _).mono ?_; rintro e w1 ⟨rfl, rfl⟩)
    go_ret
    exact ⟨ret_bool (by rw [hr.out]; simp), rfl⟩

theorem numbered_any (b : UInt8) (a : Int) (w : World) (hw : Ok w) (h0 : -9223372036854775808 ≤ a) (h1 : a ≤ 9223372036854775807) :
    Calls Tryd.prog 17 #[.string ⟨#[b]⟩, .int .i64 a] w fun e w' => e = .returned (.string ⟨(b :: 32 :: Lib.itoa a).toArray⟩) ∧ Below w.heap.size w w' := by
  have HT : Hid (Calls Tryd.prog 28 #[.int .i64 a] w fun e w' => e = .returned (.string ⟨(Lib.itoa a).toArray⟩) ∧ Below w.heap.size w w') := text_any a w h0 h1 hw.tab
  have hl : (⟨(Lib.itoa a).toArray⟩ : ByteArray).size ≤ 21 := Lib.itoa_length_le a h0 h1
  have hx : Hid ((⟨#[b, 32]⟩ : ByteArray) ++ ⟨(Lib.itoa a).toArray⟩ = ⟨(b :: 32 :: Lib.itoa a).toArray⟩) := ba_app [b, 32] _
  generalize (⟨(Lib.itoa a).toArray⟩ : ByteArray) = X at *
  go_enter Tryd.func17, Tryd.ntmps17
  go_wp2_with (go_at_call 28; refine HT.out.mono ?_; rintro e w1 ⟨rfl, b1⟩)
  go_ret
  exact ⟨ret_s hx.out, b1⟩
end Go.Proofs.YtgnjjbpfgokndaaDoor
