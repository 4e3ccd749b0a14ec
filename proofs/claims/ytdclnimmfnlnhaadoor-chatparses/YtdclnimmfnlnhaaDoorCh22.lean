/-
  Layer 8's statement ChatParses: the walk.
-/
import Derived.Test.YtdclnimmfnlnhaaDoorCh9
import Derived.Test.YtdclnimmfnlnhaaDoorCh15
import Derived.Test.YtdclnimmfnlnhaaDoorCh16
import Derived.Test.YtdclnimmfnlnhaaDoorCh21
namespace Go.Proofs.YtdclnimmfnlnhaaDoor
open Go.RowKit

set_option maxHeartbeats 2000000 in
set_option maxRecDepth 100000 in
theorem parses_walk (s : ByteArray) (_hs : s.size ≤ maxLen) (w : World) (hE : Env w) :
    Calls Tryd.prog 3 #[.string s] w fun e w' => e = .returned (.bool true) ∧ Below w.heap.size w w' := by
  have HA : Hid (∀ W, Below w.heap.size w W → Calls Tryd.prog 9 #[] W fun e w' => e = .returned (.bool true) ∧ Hid (Below w.heap.size w w')) := fun W hW => (awake_any W (hE.below hW)).mono fun e w' ⟨h1, h2⟩ => ⟨h1, Rg.chain hW h2⟩
  by_cases h3 : 3000 < s.size
  · have d0 : decide ((3000 : Int) < (s.size : Int)) = true := by simp only [decide_eq_true_eq]; omega
    go_enter Tryd.func3, Tryd.ntmps3
    go_wp2_with (go_at_call 9; refine (HA.out _ (Below.refl _ _)).mono ?_; rintro e w9 ⟨rfl, b9⟩)
    go_ret
    exact ⟨rfl, b9.out⟩
  have d0 : decide ((3000 : Int) < (s.size : Int)) = false := by simp only [decide_eq_false_iff_not]; omega
  have hsh := Rg.hid (Ch.parse_short s)
  have hct := Ch.parse_count s
  have HP0 := fun W (hW : Below w.heap.size w W) => parse_any s W (hE.below hW)
  have HR0 := fun W => rparse_any s W
  obtain ⟨r, hr⟩ : ∃ r, Ch.parse s = r := ⟨_, rfl⟩
  rw [hr] at HP0 HR0 hsh hct
  clear hr
  obtain ⟨xs, ec⟩ := r
  dsimp only at HP0 HR0 hsh hct
  obtain ⟨N, hN⟩ : ∃ N, N = xs.length := ⟨_, rfl⟩
  have HP : Hid (Calls Tryd.prog 10 #[.string s] w fun e w' => ∃ a c vs, e = .returned (.tuple #[.slice a N c, .int .i64 ec]) ∧ Hid (Rg.Tow stepE w' a vs) ∧ Hid (StsAt w' vs xs) ∧ Hid (Below w.heap.size w w')) := (HP0 w (Below.refl _ _)).mono fun e w' ⟨a, c, vs, h1, h2, h3, _, h5⟩ => ⟨a, c, vs, by rw [hN]; exact h1, h2, h3, h5⟩
  have HR : Hid (∀ W, Calls Tryd.prog 11 #[.string s] W fun e w' => ∃ a c vs, e = .returned (.tuple #[.slice a N c, .int .i64 ec]) ∧ Hid (Rg.Tow stepE w' a vs) ∧ Hid (StsAt w' vs xs) ∧ Hid (Below W.heap.size W w')) := fun W => (HR0 W).mono fun e w' ⟨a, c, vs, h1, h2, h3, _, h5⟩ => ⟨a, c, vs, by rw [hN]; exact h1, h2, h3, h5⟩
  clear HP0 HR0
  have HS : Hid (∀ (a : Option Addr) ca va (b : Option Addr) cb vb W, Rg.Tow stepE W a va → StsAt W va xs → Rg.Tow stepE W b vb → StsAt W vb xs → Calls Tryd.prog 12 #[.slice a N ca, .slice b N cb] W fun e w' => e = .returned (.bool true) ∧ Hid (Below W.heap.size W w')) := fun a ca va b cb vb W h1 h2 h3 h4 => by
    rw [hN]
    exact steps_same a ca va b cb vb xs W (by omega) (fun x hx => by have := hsh.out x hx; unfold Ch.Short at this; omega) h1.1 h3.1 h2.old h4.old
  have de : (ec == ec) = true := by simp
  clear hN hct hsh
  go_enter Tryd.func3, Tryd.ntmps3
  go_upto_region 5 with (first
    | (go_at_call 10; refine HP.out.mono ?_; rintro e w1 ⟨a1, c1, v1, rfl, hT1, hX1, b1⟩)
    | (go_at_call 11; refine (HR.out _).mono ?_; rintro e w2 ⟨a2, c2, v2, rfl, hT2, hX2, b2⟩))
  have HS2 := Rg.hid (HS.out a1 c1 v1 a2 c2 v2 w2 (hT1.out.below b2.out) (hX1.out.below b2.out) hT2.out hX2.out)
  have b12 := Rg.hid (Rg.chain b1.out b2.out)
  clear HS hT1 hX1 hT2 hX2 b1 b2 HP HR
  go_wp2_with (first
    | (go_at_call 12; refine HS2.out.mono ?_; rintro e w3 ⟨rfl, b3⟩; have b13 := Rg.chain b12.out b3.out)
    | (go_at_call 9; refine (HA.out _ b13).mono ?_; rintro e w4 ⟨rfl, b4⟩))
  go_ret
  exact ⟨rfl, b4.out⟩
end Go.Proofs.YtdclnimmfnlnhaaDoor
