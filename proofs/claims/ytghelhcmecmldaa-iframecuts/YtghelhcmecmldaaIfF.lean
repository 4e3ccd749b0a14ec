/-
  Walks of the laws of layer 12: IframeCuts.
-/
import Derived.Test.YtghelhcmecmldaaIfD
namespace Go.Proofs.Ytghelhcmecmldaa
open Go.RowKit
set_option linter.unusedVariables false in
set_option maxHeartbeats 4000000 in
set_option maxRecDepth 100000 in
theorem icuts_big (k n a c : Int) (b : Bool) (p : Int) (d : ByteArray) (w : World) (bw : Below w.heap.size w (w.alloc (.cells #[.int .i64 k, .int .i64 n, .int .i64 a, .int .i64 c, .bool b, .string d] 23))) (kw : Rg.Bk w.heap.size [.int .i64 k, .int .i64 n, .int .i64 a, .int .i64 c, .bool b, .string d] 23 (w.alloc (.cells #[.int .i64 k, .int .i64 n, .int .i64 a, .int .i64 c, .bool b, .string d] 23))) (HA : Hid (∀ W, Below w.heap.size w W → Rg.Bk w.heap.size [.int .i64 k, .int .i64 n, .int .i64 a, .int .i64 c, .bool b, .string d] 23 W → Calls Try.prog 9 #[] W fun e w' => e = .returned (.bool true) ∧ Below w.heap.size w w' ∧ Rg.Bk w.heap.size [.int .i64 k, .int .i64 n, .int .i64 a, .int .i64 c, .bool b, .string d] 23 w'))
    (q1 : decide ((5000 : Int) < (d.size : Int)) = true) (X : ByteArray) (E : Int)
    (HW : Hid (∀ W, Below w.heap.size w W → Rg.Bk w.heap.size [.int .i64 k, .int .i64 n, .int .i64 a, .int .i64 c, .bool b, .string d] 23 W → Calls Try.prog 10 #[.agg #[.int .i64 k, .int .i64 n, .int .i64 a, .int .i64 c, .bool b, .string d]] W fun e w' => e = .returned (.tuple #[.string X, .int .i64 E]) ∧ Below w.heap.size w w' ∧ Rg.Bk w.heap.size [.int .i64 k, .int .i64 n, .int .i64 a, .int .i64 c, .bool b, .string d] 23 w')) :
    Calls Try.prog 7 #[.agg #[.int .i64 k, .int .i64 n, .int .i64 a, .int .i64 c, .bool b, .string d], .int .i64 p] w fun e w' => e = .returned (.bool true) ∧ Below w.heap.size w w' := by
  go_enter Try.func7, Try.ntmps7
  go_wp2_with (first
    | (go_at_call 9; (first | with_reducible refine (HA.out _ (by first | assumption | exact If.more (by assumption) _) (by first | assumption | exact Rg.Bk.old (by assumption) _)).mono ?_); rintro e w' ⟨rfl, b', k'⟩; have c' := k'.cell; have z' := k'.lt)
    | (go_at_call 10; (first | with_reducible refine (HW.out _ (by first | assumption | exact If.more (by assumption) _) (by first | assumption | exact Rg.Bk.old (by assumption) _)).mono ?_); rintro e w' ⟨rfl, b', k'⟩; have c' := k'.cell; have z' := k'.lt))
  all_goals
    go_ret
    exact ⟨rfl, by first | assumption | exact If.more (by assumption) _⟩
set_option linter.unusedVariables false in
set_option maxHeartbeats 4000000 in
set_option maxRecDepth 100000 in
theorem icuts_no (k n a c : Int) (b : Bool) (p : Int) (d : ByteArray) (w : World) (bw : Below w.heap.size w (w.alloc (.cells #[.int .i64 k, .int .i64 n, .int .i64 a, .int .i64 c, .bool b, .string d] 23))) (kw : Rg.Bk w.heap.size [.int .i64 k, .int .i64 n, .int .i64 a, .int .i64 c, .bool b, .string d] 23 (w.alloc (.cells #[.int .i64 k, .int .i64 n, .int .i64 a, .int .i64 c, .bool b, .string d] 23))) (HA : Hid (∀ W, Below w.heap.size w W → Rg.Bk w.heap.size [.int .i64 k, .int .i64 n, .int .i64 a, .int .i64 c, .bool b, .string d] 23 W → Calls Try.prog 9 #[] W fun e w' => e = .returned (.bool true) ∧ Below w.heap.size w w' ∧ Rg.Bk w.heap.size [.int .i64 k, .int .i64 n, .int .i64 a, .int .i64 c, .bool b, .string d] 23 w'))
    (q1 : decide ((5000 : Int) < (d.size : Int)) = false) (F : Nat) (hF : ((F : Int) == 0) = false)
    (HW : Hid (∀ W, Below w.heap.size w W → Rg.Bk w.heap.size [.int .i64 k, .int .i64 n, .int .i64 a, .int .i64 c, .bool b, .string d] 23 W → Calls Try.prog 10 #[.agg #[.int .i64 k, .int .i64 n, .int .i64 a, .int .i64 c, .bool b, .string d]] W fun e w' => e = .returned (.tuple #[.string ⟨#[]⟩, .int .i64 F]) ∧ Below w.heap.size w w' ∧ Rg.Bk w.heap.size [.int .i64 k, .int .i64 n, .int .i64 a, .int .i64 c, .bool b, .string d] 23 w')) :
    Calls Try.prog 7 #[.agg #[.int .i64 k, .int .i64 n, .int .i64 a, .int .i64 c, .bool b, .string d], .int .i64 p] w fun e w' => e = .returned (.bool true) ∧ Below w.heap.size w w' := by
  go_enter Try.func7, Try.ntmps7
  go_wp2_with (first
    | (go_at_call 9; (first | with_reducible refine (HA.out _ (by first | assumption | exact If.more (by assumption) _) (by first | assumption | exact Rg.Bk.old (by assumption) _)).mono ?_); rintro e w' ⟨rfl, b', k'⟩; have c' := k'.cell; have z' := k'.lt)
    | (go_at_call 10; (first | with_reducible refine (HW.out _ (by first | assumption | exact If.more (by assumption) _) (by first | assumption | exact Rg.Bk.old (by assumption) _)).mono ?_); rintro e w' ⟨rfl, b', k'⟩; have c' := k'.cell; have z' := k'.lt))
  all_goals
    go_ret
    exact ⟨rfl, by first | assumption | exact If.more (by assumption) _⟩
set_option linter.unusedVariables false in
set_option maxHeartbeats 4000000 in
set_option maxRecDepth 100000 in
theorem icuts_yes (k n a c : Int) (b : Bool) (p : Int) (d : ByteArray) (w : World) (bw : Below w.heap.size w (w.alloc (.cells #[.int .i64 k, .int .i64 n, .int .i64 a, .int .i64 c, .bool b, .string d] 23))) (kw : Rg.Bk w.heap.size [.int .i64 k, .int .i64 n, .int .i64 a, .int .i64 c, .bool b, .string d] 23 (w.alloc (.cells #[.int .i64 k, .int .i64 n, .int .i64 a, .int .i64 c, .bool b, .string d] 23))) (HA : Hid (∀ W, Below w.heap.size w W → Rg.Bk w.heap.size [.int .i64 k, .int .i64 n, .int .i64 a, .int .i64 c, .bool b, .string d] 23 W → Calls Try.prog 9 #[] W fun e w' => e = .returned (.bool true) ∧ Below w.heap.size w w' ∧ Rg.Bk w.heap.size [.int .i64 k, .int .i64 n, .int .i64 a, .int .i64 c, .bool b, .string d] 23 w'))
    (q1 : decide ((5000 : Int) < (d.size : Int)) = false) (X : ByteArray) (U K : Nat) (u1 : IntKind.u64.wrap p = (U : Int)) (u2 : IntKind.u64.wrap (X.size : Int) = (X.size : Int)) (u3 : (U : Int) % (X.size : Int) = (K : Int)) (u3' : (U : Int).tmod (X.size : Int) = (K : Int)) (u4 : K ≤ X.size) (u5 : (K : Int) ≤ (X.size : Int)) (u6 : X.size ≤ 5000) (u8 : ¬ X.size = 0)
    (HW : Hid (∀ W, Below w.heap.size w W → Rg.Bk w.heap.size [.int .i64 k, .int .i64 n, .int .i64 a, .int .i64 c, .bool b, .string d] 23 W → Calls Try.prog 10 #[.agg #[.int .i64 k, .int .i64 n, .int .i64 a, .int .i64 c, .bool b, .string d]] W fun e w' => e = .returned (.tuple #[.string X, .int .i64 0]) ∧ Below w.heap.size w w' ∧ Rg.Bk w.heap.size [.int .i64 k, .int .i64 n, .int .i64 a, .int .i64 c, .bool b, .string d] 23 w'))
    (HR : Hid (∀ W, Below w.heap.size w W → Rg.Bk w.heap.size [.int .i64 k, .int .i64 n, .int .i64 a, .int .i64 c, .bool b, .string d] 23 W → Calls Try.prog 12 #[.string (X.extract 0 K)] W fun e w' => e = .returned (.tuple #[.agg #[.int .i64 0, .int .i64 0, .int .i64 0, .int .i64 0, .bool false, .string ⟨#[]⟩], .int .i64 0, .int .i64 2]) ∧ Below w.heap.size w w' ∧ Rg.Bk w.heap.size [.int .i64 k, .int .i64 n, .int .i64 a, .int .i64 c, .bool b, .string d] 23 w')) :
    Calls Try.prog 7 #[.agg #[.int .i64 k, .int .i64 n, .int .i64 a, .int .i64 c, .bool b, .string d], .int .i64 p] w fun e w' => e = .returned (.bool true) ∧ Below w.heap.size w w' := by
  go_enter Try.func7, Try.ntmps7
  go_wp2_with (first
    | (go_at_call 9; (first | with_reducible refine (HA.out _ (by first | assumption | exact If.more (by assumption) _) (by first | assumption | exact Rg.Bk.old (by assumption) _)).mono ?_); rintro e w' ⟨rfl, b', k'⟩; have c' := k'.cell; have z' := k'.lt)
    | (go_at_call 10; (first | with_reducible refine (HW.out _ (by first | assumption | exact If.more (by assumption) _) (by first | assumption | exact Rg.Bk.old (by assumption) _)).mono ?_); rintro e w' ⟨rfl, b', k'⟩; have c' := k'.cell; have z' := k'.lt)
    | (go_at_call 12; (first | with_reducible refine (HR.out _ (by first | assumption | exact If.more (by assumption) _) (by first | assumption | exact Rg.Bk.old (by assumption) _)).mono ?_); rintro e w' ⟨rfl, b', k'⟩; have c' := k'.cell; have z' := k'.lt))
  all_goals
    go_ret
    exact ⟨rfl, by first | assumption | exact If.more (by assumption) _⟩
theorem icuts_walk (k n a c : Int) (b : Bool) (d : ByteArray) (p : Int) (w : World) :
    Calls Try.prog 7 #[.agg #[.int .i64 k, .int .i64 n, .int .i64 a, .int .i64 c, .bool b, .string d], .int .i64 p] w fun e w' => e = .returned (.bool true) ∧ Below w.heap.size w w' := by
  have bw := If.below1 w (.cells #[.int .i64 k, .int .i64 n, .int .i64 a, .int .i64 c, .bool b, .string d] 23)
  have kw : Rg.Bk w.heap.size [.int .i64 k, .int .i64 n, .int .i64 a, .int .i64 c, .bool b, .string d] 23 (w.alloc (.cells #[.int .i64 k, .int .i64 n, .int .i64 a, .int .i64 c, .bool b, .string d] 23)) := Rg.Bk.new rfl
  have HA := keepF (C := [.int .i64 k, .int .i64 n, .int .i64 a, .int .i64 c, .bool b, .string d]) (ty := 23) w iawake_any
  by_cases hk : If.ok ⟨k, n, a, c, b, d.data.toList⟩
  · have HW := keepF (C := [.int .i64 k, .int .i64 n, .int .i64 a, .int .i64 c, .bool b, .string d]) (ty := 23) w (fun W => iwrite_ok hk W)
    by_cases q1 : 5000 < d.size
    · exact icuts_big k n a c b p d w bw kw HA (by simp; omega) _ 0 HW
    have q1' : decide ((5000 : Int) < (d.size : Int)) = false := by simp; omega
    obtain ⟨hX, hX6⟩ := If.text_size hk
    obtain ⟨U, hU⟩ : ∃ U : Nat, IntKind.u64.wrap p = (U : Int) := ⟨(IntKind.u64.wrap p).toNat, by rw [IntKind.wrap_u64]; omega⟩
    have hKl := Nat.mod_lt U (show 0 < (⟨(If.text ⟨k, n, a, c, b, d.data.toList⟩).toArray⟩ : ByteArray).size by omega)
    have HR : ∀ W, Calls Try.prog 12 #[.string ((⟨(If.text ⟨k, n, a, c, b, d.data.toList⟩).toArray⟩ : ByteArray).extract 0 (U % (⟨(If.text ⟨k, n, a, c, b, d.data.toList⟩).toArray⟩ : ByteArray).size))] W fun e w' => e = .returned (.tuple #[.agg #[.int .i64 0, .int .i64 0, .int .i64 0, .int .i64 0, .bool false, .string ⟨#[]⟩], .int .i64 0, .int .i64 2]) ∧ Below W.heap.size W w' := fun W => by
      have e := If.extract_eq (⟨(If.text ⟨k, n, a, c, b, d.data.toList⟩).toArray⟩ : ByteArray) 0 (U % (⟨(If.text ⟨k, n, a, c, b, d.data.toList⟩).toArray⟩ : ByteArray).size) (Nat.zero_le _) (by omega)
      have hr := iread_any ((⟨(If.text ⟨k, n, a, c, b, d.data.toList⟩).toArray⟩ : ByteArray).extract 0 (U % (⟨(If.text ⟨k, n, a, c, b, d.data.toList⟩).toArray⟩ : ByteArray).size)) (by rw [← If.len_eq, e, List.length_take]; unfold maxLen; omega) W
      rw [e] at hr
      have hc := If.read_cut hk (U % (⟨(If.text ⟨k, n, a, c, b, d.data.toList⟩).toArray⟩ : ByteArray).size) (by rw [← If.size_of]; exact hKl)
      have e2 : (List.drop 0 (⟨(If.text ⟨k, n, a, c, b, d.data.toList⟩).toArray⟩ : ByteArray).data.toList).take (U % (⟨(If.text ⟨k, n, a, c, b, d.data.toList⟩).toArray⟩ : ByteArray).size - 0) = (If.text ⟨k, n, a, c, b, d.data.toList⟩).take (U % (⟨(If.text ⟨k, n, a, c, b, d.data.toList⟩).toArray⟩ : ByteArray).size) := rfl
      rw [e2, hc] at hr
      exact hr
    generalize (⟨(If.text ⟨k, n, a, c, b, d.data.toList⟩).toArray⟩ : ByteArray) = X at *
    exact icuts_yes k n a c b p d w bw kw HA q1' X U (U % X.size) hU (by rw [IntKind.wrap_u64]; omega) (by rw [Int.natCast_emod]) (by rw [Int.tmod_eq_emod_of_nonneg (by omega), Int.natCast_emod]) (by omega) (by omega) (by omega) (by omega) HW (keepF w HR)
  · obtain ⟨F, hF, HW0⟩ := iwrite_not hk
    have HW := keepF (C := [.int .i64 k, .int .i64 n, .int .i64 a, .int .i64 c, .bool b, .string d]) (ty := 23) w HW0
    by_cases q1 : 5000 < d.size
    · exact icuts_big k n a c b p d w bw kw HA (by simp; omega) _ F HW
    · exact icuts_no k n a c b p d w bw kw HA (by simp; omega) F hF HW
end Go.Proofs.Ytghelhcmecmldaa
