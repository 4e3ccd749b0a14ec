/-
  Walks of the laws of layer 11: awake.
-/
import Derived.Test.YtpgjdobgfhhbiaaGwF
import Derived.Test.YtpgjdobgfhhbiaaGw5
namespace Go.Proofs.Ytpgjdobgfhhbiaa
open Go.RowKit
namespace Gf
def ex : Fr := ⟨3, 1, 2, 32, [97, 98, 99]⟩
theorem ex_ok : ok ex := ⟨⟨by decide, by decide, by decide, by decide⟩, Or.inr (Or.inr ⟨rfl, by decide, by decide⟩)⟩
theorem ex_len : (text ex).length = 38 := by rw [text_len]; rfl
theorem ex_six : (text ex).getD 6 0 = 29 := by
  unfold text
  have : body ex = field [97, 98, 99] 32 := rfl
  rw [this]
  rfl
theorem size_of (l : List UInt8) : (⟨l.toArray⟩ : ByteArray).size = l.length := by
  show l.toArray.size = _; simp
end Gf
set_option maxHeartbeats 2000000 in
set_option maxRecDepth 100000 in
theorem gawake_core (X : ByteArray) (w : World) (hX : X.size = 38) (h6 : X[6].toNat = 29)
    (HW : Hid (∀ W, Calls Try.prog 10 #[.agg #[.int .i64 3, .int .i64 1, .int .i64 2, .int .i64 32, .string ⟨#[97, 98, 99]⟩]] W fun e w' => e = .returned (.tuple #[.string X, .int .i64 0]) ∧ Below W.heap.size W w'))
    (HR : Hid (∀ W, Calls Try.prog 14 #[.string (X ++ ⟨#[120]⟩)] W fun e w' => e = .returned (.tuple #[.agg #[.int .i64 3, .int .i64 1, .int .i64 2, .int .i64 32, .string ⟨#[97, 98, 99]⟩], .int .i64 38, .int .i64 0]) ∧ Below W.heap.size W w'))
    (HK : Hid (∀ W, Calls Try.prog 12 #[.int .i64 64] W fun e w' => e = .returned (.int .i64 2) ∧ w' = W)) :
    Calls Try.prog 9 #[] w fun e w' => e = .returned (.bool true) ∧ Below w.heap.size w w' := by
  go_enter Try.func9, Try.ntmps9
  go_wp2_with (first
    | (go_at_call 10; refine (HW.out _).mono ?_; rintro e w1 ⟨rfl, b1⟩)
    | (go_at_call 14; refine (HR.out _).mono ?_; rintro e w2 ⟨rfl, b2⟩)
    | (go_at_call 12; refine (HK.out _).mono ?_; rintro e w3 ⟨rfl, rfl⟩))
  go_ret
  exact ⟨rfl, b1.trans ((b2.mono b1.size).alloc (Nat.le_trans b1.size b2.size) _)⟩
theorem gawake_any (w : World) : Calls Try.prog 9 #[] w fun e w' => e = .returned (.bool true) ∧ Below w.heap.size w w' := by
  have hsz : (⟨(Gf.text Gf.ex).toArray⟩ : ByteArray).size = 38 := by rw [Gf.size_of]; exact Gf.ex_len
  refine gawake_core ⟨(Gf.text Gf.ex).toArray⟩ w hsz ?_ (fun W => write_yes 3 1 2 32 ⟨#[97, 98, 99]⟩ Gf.ex_ok W) (fun W => ?_) (fun W => gcode_any 64 W)
  · have h := Gf.getD_at ⟨(Gf.text Gf.ex).toArray⟩ 6 (by rw [hsz]; decide)
    rw [← h]
    have e : (Gf.text Gf.ex).getD 6 0 = 29 := Gf.ex_six
    show ((Gf.text Gf.ex).getD 6 0).toNat = 29
    rw [e]; rfl
  · have h := gread_any ((⟨(Gf.text Gf.ex).toArray⟩ : ByteArray) ++ ⟨#[120]⟩) (by rw [Gf.app_size, hsz]; decide) W
    have e : ((⟨(Gf.text Gf.ex).toArray⟩ : ByteArray) ++ ⟨#[120]⟩).data.toList = Gf.text Gf.ex ++ [120] := by
      have := Gf.ba_app (Gf.text Gf.ex) [120]
      rw [show (⟨#[120]⟩ : ByteArray) = ⟨([120] : List UInt8).toArray⟩ from rfl, this]
    rw [e, Gf.read_text Gf.ex_ok, Gf.ex_len] at h
    exact h
end Go.Proofs.Ytpgjdobgfhhbiaa
