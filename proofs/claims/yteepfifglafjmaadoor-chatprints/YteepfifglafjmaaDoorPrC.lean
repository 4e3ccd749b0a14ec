/-
  Layer 8's statement ChatPrints.
-/
import Derived.Test.YteepfifglafjmaaDoorPrB
import Derived.Test.YteepfifglafjmaaDoorCh25
import Derived.Test.YteepfifglafjmaaDoorCh15
namespace Go.Proofs.YteepfifglafjmaaDoor
open Go.RowKit

set_option maxHeartbeats 8000000 in
set_option maxRecDepth 100000 in
theorem prints8_walk (a : Option Addr) (c : Nat) (vs : List SV) (xs : List Ch.St) (w : World) (hr : Row0 stepE w a vs) (hx : ISts w vs xs) (hsm : ∀ x ∈ xs, x.send.size ≤ maxLen) (hE : Env w) :
    Calls Tryd.prog 3 #[.slice a xs.length c] w fun e w' => e = .returned (.bool true) ∧ Below w.heap.size w w' := by
  have HA : Hid (∀ W, Below w.heap.size w W → Calls Tryd.prog 7 #[] W fun e w' => e = .returned (.bool true) ∧ Hid (Below w.heap.size w w')) := fun W hW => (awake_any W (hE.below hW)).mono fun e w' ⟨h1, h2⟩ => ⟨h1, Rg.chain hW h2⟩
  have HF0 := far_any a c vs xs w hr hx hsm
  by_cases hf : Ch.far xs = true
  · rw [hf] at HF0
    have HF : Hid (Calls Tryd.prog 6 #[.slice a xs.length c] w fun e w' => e = .returned (.bool true) ∧ Hid (Below w.heap.size w w')) := HF0
    generalize xs.length = N at *
    clear HF0
    go_enter Tryd.func3, Tryd.ntmps3
    go_wp2_with (first
      | (go_at_call 6; refine HF.out.mono ?_; rintro e w1 ⟨rfl, b1⟩)
      | (go_at_call 7; refine (HA.out _ b1.out).mono ?_; rintro e w9 ⟨rfl, b9⟩))
    go_ret
    exact ⟨rfl, b9.out⟩
  replace hf : Ch.far xs = false := by simpa using hf
  rw [hf] at HF0
  have hNear := Ch.near_of hf
  clear hf
  have HP0 := fun W (hW : Below w.heap.size w W) => print_any a c vs xs W hNear (hr.below hW) (hx.below hW).ls
  have HQ0 := fun W (hW : Below w.heap.size w W) => rprint_any a c vs xs W hNear (hr.below hW) (hx.below hW).ls
  unfold SePost at HP0 HQ0
  obtain ⟨N, hN⟩ : ∃ N, N = xs.length := ⟨_, rfl⟩
  rw [← hN] at HF0 HP0 HQ0 ⊢
  clear hN hNear hr hx hsm hE
  generalize Ch.print xs = r at *
  obtain ⟨r1, r2⟩ := r
  dsimp only at HP0 HQ0
  generalize (⟨r1.toArray⟩ : ByteArray) = X at *
  have HF : Hid (Calls Tryd.prog 6 #[.slice a N c] w fun e w' => e = .returned (.bool false) ∧ Hid (Below w.heap.size w w')) := HF0
  have HP : Hid (∀ W, Below w.heap.size w W → Calls Tryd.prog 8 #[.slice a N c] W fun e w' => e = .returned (.tuple #[.string X, .int .i64 (r2 : Nat)]) ∧ Hid (Below w.heap.size w w')) := fun W hW => (HP0 W hW).mono fun e w' ⟨h1, h2⟩ => ⟨h1, Rg.chain hW h2⟩
  have HQ : Hid (∀ W, Below w.heap.size w W → Calls Tryd.prog 9 #[.slice a N c] W fun e w' => e = .returned (.tuple #[.string X, .int .i64 (r2 : Nat)]) ∧ Hid (Below w.heap.size w w')) := fun W hW => (HQ0 W hW).mono fun e w' ⟨h1, h2⟩ => ⟨h1, Rg.chain hW h2⟩
  clear HF0 HP0 HQ0
  go_enter Tryd.func3, Tryd.ntmps3
  go_wp2_with (first
    | (go_at_call 6; refine HF.out.mono ?_; rintro e w1 ⟨rfl, b1⟩)
    | (go_at_call 8; refine (HP.out _ b1.out).mono ?_; rintro e w2 ⟨rfl, b2⟩)
    | (go_at_call 9; refine (HQ.out _ b2.out).mono ?_; rintro e w3 ⟨rfl, b3⟩)
    | (go_at_call 7; refine (HA.out _ b3.out).mono ?_; rintro e w9 ⟨rfl, b9⟩))
  go_ret
  exact ⟨rfl, b9.out⟩
theorem prints_card (a : Option Addr) (c : Nat) (vs : List SV) (xs : List Ch.St) (w : World) (h : StepsIn w a c vs xs) (hE : Env w) :
    Calls Tryd.prog 3 #[.slice a vs.length c] w fun e w' => e = .returned (.bool true) ∧ Below w.heap.size w w' := by
  rw [h.sts.1]
  exact prints8_walk a c vs xs w h.row h.sts (fun x hx => (h.bd x hx).2.2) hE
end Go.Proofs.YteepfifglafjmaaDoor
