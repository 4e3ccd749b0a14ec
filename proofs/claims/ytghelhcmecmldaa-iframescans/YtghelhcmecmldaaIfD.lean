/-
  Walks of the laws of layer 12: awake.
-/
import Derived.Test.YtghelhcmecmldaaIfC
import Derived.Test.YtghelhcmecmldaaIf5
namespace Go.Proofs.Ytghelhcmecmldaa
open Go.RowKit
namespace If
def ex : Fr := ⟨2, 1, 2, 0, false, []⟩
theorem ex_ok : ok ex := ⟨⟨by decide, ⟨by decide, by decide⟩, ⟨by decide, by decide⟩, by decide, by decide⟩, by decide⟩
theorem ex_text : text ex = [7, 8, 16, 64, 0, 88] := by decide +kernel
end If
set_option linter.unusedVariables false in
set_option maxHeartbeats 4000000 in
set_option maxRecDepth 100000 in
theorem iawake_core (X : ByteArray) (w : World) (hX : X.size = 6) (hq : (X.toList == [7, 8, 16, 64, 0, 88]) = true)
    (HW : Hid (∀ W, Calls Try.prog 10 #[.agg #[.int .i64 2, .int .i64 1, .int .i64 2, .int .i64 0, .bool false, .string ⟨#[]⟩]] W fun e w' => e = .returned (.tuple #[.string X, .int .i64 0]) ∧ Below W.heap.size W w'))
    (HR : Hid (∀ W, Calls Try.prog 12 #[.string (X ++ ⟨#[120]⟩)] W fun e w' => e = .returned (.tuple #[.agg #[.int .i64 2, .int .i64 1, .int .i64 2, .int .i64 0, .bool false, .string ⟨#[]⟩], .int .i64 6, .int .i64 0]) ∧ Below W.heap.size W w')) :
    Calls Try.prog 9 #[] w fun e w' => e = .returned (.bool true) ∧ Below w.heap.size w w' := by
  go_enter Try.func9, Try.ntmps9
  go_wp2_with (first
    | (go_at_call 10; refine (HW.out _).mono ?_; rintro e w1 ⟨rfl, b1⟩)
    | (go_at_call 12; refine (HR.out _).mono ?_; rintro e w2 ⟨rfl, b2⟩))
  go_ret
  exact ⟨rfl, b1.trans ((b2.mono b1.size).alloc (Nat.le_trans b1.size b2.size) _)⟩
theorem iawake_any (w : World) : Calls Try.prog 9 #[] w fun e w' => e = .returned (.bool true) ∧ Below w.heap.size w w' := by
  have hl : (⟨(If.text If.ex).toArray⟩ : ByteArray).toList = [7, 8, 16, 64, 0, 88] := by rw [tl_eq]; exact If.ex_text
  have hsz : (⟨(If.text If.ex).toArray⟩ : ByteArray).size = 6 := by rw [If.size_of, If.ex_text]; rfl
  refine iawake_core ⟨(If.text If.ex).toArray⟩ w hsz (by rw [hl]; rfl) (fun W => ?_) (fun W => ?_)
  · have h := iwrite_any 2 1 2 0 false ⟨#[]⟩ W
    have e : If.wr ⟨2, 1, 2, 0, false, (⟨#[]⟩ : ByteArray).data.toList⟩ = (If.text If.ex, 0) := If.wr_ok If.ex_ok
    rw [e] at h
    exact h
  · have h := iread_any ((⟨(If.text If.ex).toArray⟩ : ByteArray) ++ ⟨#[120]⟩) (by rw [If.app_size, hsz]; decide) W
    have e : ((⟨(If.text If.ex).toArray⟩ : ByteArray) ++ ⟨#[120]⟩).data.toList = If.text If.ex ++ [120] := If.app_toList _ _
    rw [e, If.read_text If.ex_ok, If.ex_text] at h
    exact h
/-- Write of what may be, and of what may not. -/
theorem iwrite_ok {k n a c : Int} {b : Bool} {d : ByteArray} (h : If.ok ⟨k, n, a, c, b, d.data.toList⟩) (W : World) :
    Calls Try.prog 10 #[.agg #[.int .i64 k, .int .i64 n, .int .i64 a, .int .i64 c, .bool b, .string d]] W fun e w' => e = .returned (.tuple #[.string ⟨(If.text ⟨k, n, a, c, b, d.data.toList⟩).toArray⟩, .int .i64 0]) ∧ Below W.heap.size W w' := by
  have := iwrite_any k n a c b d W
  rw [If.wr_ok h] at this
  exact this
theorem iwrite_not {k n a c : Int} {b : Bool} {d : ByteArray} (h : ¬ If.ok ⟨k, n, a, c, b, d.data.toList⟩) :
    ∃ F : Nat, ((F : Int) == 0) = false ∧ ∀ W : World, Calls Try.prog 10 #[.agg #[.int .i64 k, .int .i64 n, .int .i64 a, .int .i64 c, .bool b, .string d]] W fun e w' => e = .returned (.tuple #[.string ⟨#[]⟩, .int .i64 F]) ∧ Below W.heap.size W w' := by
  obtain ⟨e1, e2⟩ := If.wr_no h
  refine ⟨(If.wr ⟨k, n, a, c, b, d.data.toList⟩).2, by rcases e2 with e2 | e2 <;> rw [e2] <;> rfl, fun W => ?_⟩
  have := iwrite_any k n a c b d W
  rw [e1] at this
  exact this
theorem If.text_size {f : If.Fr} (h : If.ok f) : (⟨(If.text f).toArray⟩ : ByteArray).size ≤ 4105 ∧ 6 ≤ (⟨(If.text f).toArray⟩ : ByteArray).size := by
  have h2 := h.2
  have := If.bsz_le f.data.length
  rw [If.size_of, If.text_len]
  omega
end Go.Proofs.Ytghelhcmecmldaa
