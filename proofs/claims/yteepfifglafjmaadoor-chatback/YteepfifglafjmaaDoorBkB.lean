/-
  Layer 8's statement ChatBack.
-/
import Derived.Test.YteepfifglafjmaaDoorPr7
import Derived.Test.YteepfifglafjmaaDoorCh15
import Derived.Test.YteepfifglafjmaaDoorBkA
import Derived.Test.YteepfifglafjmaaDoorMathB8
namespace Go.Proofs.YteepfifglafjmaaDoor
open Go.RowKit

/-- what is printed of steps in memory, read again, is these steps -/
structure BackAt (w : World) (A : Option Addr) (C : Nat) (ys : List Ch.St) : Prop where
  pr : ∀ W, Below w.heap.size w W → Calls Tryd.prog 8 #[.slice A ys.length C] W fun e w' => e = .returned (.tuple #[.string ⟨(Ch.print ys).1.toArray⟩, .int .i64 ((Ch.print ys).2 : Nat)]) ∧ Hid (Below w.heap.size w w')
  pa : (Ch.print ys).2 = 0 → ∀ W, Below w.heap.size w W → Calls Tryd.prog 18 #[.string ⟨(Ch.print ys).1.toArray⟩] W fun e w' => ∃ a2 c2 vs2, e = .returned (.tuple #[.slice a2 ys.length c2, .int .i64 0]) ∧ Hid (Rg.Tow stepE w' a2 vs2) ∧ Hid (StsAt w' vs2 ys) ∧ Hid (Below w.heap.size w w')
  st : ∀ W a2 c2 vs2, Below w.heap.size w W → Rg.Tow stepE W a2 vs2 → StsAt W vs2 ys → Calls Tryd.prog 19 #[.slice a2 ys.length c2, .slice A ys.length C] W fun e w' => e = .returned (.bool true) ∧ Hid (Below w.heap.size w w')
theorem back_at (w : World) (A : Option Addr) (C : Nat) (vs : List SV) (ys : List Ch.St) (hE : Env w) (hN : Ch.Near ys) (hr : Row0 stepE w A vs) (hx : LSts w vs ys) : BackAt w A C ys :=
  ⟨fun W hW => (print_any A C vs ys W hN (hr.below hW) (hx.below hW)).mono fun e w' ⟨h1, h2⟩ => ⟨h1, Rg.chain hW h2⟩,
   fun h W hW => by
    have := parse_any ⟨(Ch.print ys).1.toArray⟩ W (hE.below hW)
    rw [Ch.parse_put h] at this
    exact this.mono fun e w' ⟨a, c, vs, h1, h2, h3, _, h5⟩ => ⟨a, c, vs, h1, h2, h3, Rg.chain hW h5⟩,
   fun W a2 c2 vs2 hW h1 h2 => (steps_same0 a2 c2 vs2 A C vs ys W (by have := hN.len; omega) (fun x hx => ⟨by have := (hN.wants x hx).1; omega, by have := (hN.nudge x hx).1; omega⟩) (.inr h1.1) (hr.below hW) h2.ls8 (hx.below hW)).mono fun e w' ⟨h1, h2⟩ => ⟨h1, Rg.chain hW h2⟩⟩

/-- the two ways of it -/
def BackIn (w : World) (A : Option Addr) (C N : Nat) : Prop :=
  (∃ (X : ByteArray) (r : Nat), r ≠ 0 ∧ ∀ W, Below w.heap.size w W → Calls Tryd.prog 8 #[.slice A N C] W fun e w' => e = .returned (.tuple #[.string X, .int .i64 (r : Nat)]) ∧ Hid (Below w.heap.size w w')) ∨
  (∃ (X : ByteArray) (ys : List Ch.St), (∀ W, Below w.heap.size w W → Calls Tryd.prog 8 #[.slice A N C] W fun e w' => e = .returned (.tuple #[.string X, .int .i64 0]) ∧ Hid (Below w.heap.size w w')) ∧
    (∀ W, Below w.heap.size w W → Calls Tryd.prog 18 #[.string X] W fun e w' => ∃ a2 c2 vs2, e = .returned (.tuple #[.slice a2 N c2, .int .i64 0]) ∧ Hid (Rg.Tow stepE w' a2 vs2) ∧ Hid (StsAt w' vs2 ys) ∧ Hid (Below w.heap.size w w')) ∧
    (∀ W a2 c2 vs2, Below w.heap.size w W → Rg.Tow stepE W a2 vs2 → StsAt W vs2 ys → Calls Tryd.prog 19 #[.slice a2 N c2, .slice A N C] W fun e w' => e = .returned (.bool true) ∧ Hid (Below w.heap.size w w')))
theorem BackAt.two {w : World} {A : Option Addr} {C : Nat} {ys : List Ch.St} (h : BackAt w A C ys) : BackIn w A C ys.length := by
  by_cases h0 : (Ch.print ys).2 = 0
  · refine .inr ⟨_, ys, fun W hW => ?_, h.pa h0, h.st⟩
    have := h.pr W hW
    rw [h0] at this
    exact this
  · exact .inl ⟨_, _, h0, h.pr⟩

set_option maxHeartbeats 8000000 in
set_option maxRecDepth 100000 in
theorem back8_walk (a : Option Addr) (c : Nat) (vs : List SV) (xs : List Ch.St) (s : ByteArray) (w : World) (hr : Row0 stepE w a vs) (hx : ISts w vs xs) (hsm : ∀ x ∈ xs, x.send.size ≤ maxLen) (hE : Env w) :
    Calls Tryd.prog 5 #[.slice a xs.length c, .string s] w fun e w' => e = .returned (.bool true) ∧ Below w.heap.size w w' := by
  have HA : Hid (∀ W, Below w.heap.size w W → Calls Tryd.prog 7 #[] W fun e w' => e = .returned (.bool true) ∧ Hid (Below w.heap.size w w')) := fun W hW => (awake_any W (hE.below hW)).mono fun e w' ⟨h1, h2⟩ => ⟨h1, Rg.chain hW h2⟩
  have HF0 := far_any a c vs xs w hr hx hsm
  by_cases hf : Ch.far xs = true
  · rw [hf] at HF0
    have HF : Hid (Calls Tryd.prog 6 #[.slice a xs.length c] w fun e w' => e = .returned (.bool true) ∧ Hid (Below w.heap.size w w')) := HF0
    generalize xs.length = N at *
    clear HF0
    go_enter Tryd.func5, Tryd.ntmps5
    go_wp2_with (first
      | (go_at_call 6; refine HF.out.mono ?_; rintro e w1 ⟨rfl, b1⟩)
      | (go_at_call 7; refine (HA.out _ b1.out).mono ?_; rintro e w9 ⟨rfl, b9⟩))
    go_ret
    exact ⟨rfl, b9.out⟩
  replace hf : Ch.far xs = false := by simpa using hf
  rw [hf] at HF0
  have hB := Rg.hid (back_at w a c vs xs hE (Ch.near_of hf) hr hx.ls).two
  clear hf hr hx hsm
  have HF : Hid (Calls Tryd.prog 6 #[.slice a xs.length c] w fun e w' => e = .returned (.bool false) ∧ Hid (Below w.heap.size w w')) := HF0
  clear HF0
  have HPa : Hid ((Ch.parse s).2 ≠ 0 ∧ (∀ W, Below w.heap.size w W → Calls Tryd.prog 18 #[.string s] W fun e w' => ∃ A C, e = .returned (.tuple #[.slice A (Ch.parse s).1.length C, .int .i64 (Ch.parse s).2]) ∧ Hid (Below w.heap.size w w')) ∨ (∀ W, Below w.heap.size w W → Calls Tryd.prog 18 #[.string s] W fun e w' => ∃ A C, e = .returned (.tuple #[.slice A (Ch.parse s).1.length C, .int .i64 0]) ∧ Hid (BackIn w' A C (Ch.parse s).1.length) ∧ Hid (Below w.heap.size w w'))) := by
    by_cases h0 : (Ch.parse s).2 = 0
    · refine .inr fun W hW => (parse_any s W (hE.below hW)).mono fun e w' ⟨A, C, vs, h1, h2, h3, _, h5⟩ => ⟨A, C, by rw [h1, h0], (back_at w' A C vs _ (hE.below (Rg.chain hW h5)) (Ch.parse_near s h0) (.inr h2.1) h3.ls8).two, Rg.chain hW h5⟩
    · exact .inl ⟨h0, fun W hW => (parse_any s W (hE.below hW)).mono fun e w' ⟨A, C, vs, h1, _, _, _, h5⟩ => ⟨A, C, h1, Rg.chain hW h5⟩⟩
  generalize (Ch.parse s).1.length = M at *
  generalize (Ch.parse s).2 = q at *
  generalize xs.length = N at *
  clear hE
  by_cases h3 : 3000 < s.size
  · have d1 : decide ((3000 : Int) < (s.size : Int)) = true := by simp only [decide_eq_true_eq]; omega
    clear hB HPa
    go_enter Tryd.func5, Tryd.ntmps5
    go_wp2_with (first
      | (go_at_call 6; refine HF.out.mono ?_; rintro e w1 ⟨rfl, b1⟩)
      | (go_at_call 7; refine (HA.out _ b1.out).mono ?_; rintro e w9 ⟨rfl, b9⟩))
    go_ret
    exact ⟨rfl, b9.out⟩
  have d1 : decide ((3000 : Int) < (s.size : Int)) = false := by simp only [decide_eq_false_iff_not]; omega
  clear h3
  go_enter Tryd.func5, Tryd.ntmps5
  go_upto_region 3 with (go_at_call 6; refine HF.out.mono ?_; rintro e w1 ⟨rfl, b1⟩)
  clear HF d1
  go_wp2
  go_loopw [0, 20] (fun vl vi wr => ∃ (i : Nat), i ≤ 2 ∧ vi = .int .i64 i ∧ (i ≤ 1 → vl = .slice a N c) ∧ Hid (Below w.heap.size w wr)) (fun _ vi _ => 2 - (intOf vi).toNat)
  case atStart => exact ⟨0, by omega, rfl, fun _ => rfl, b1⟩
  case round =>
    clear b1
    obtain ⟨i, hi2, rfl, hv, hbw⟩ := hrel
    by_cases h0 : i = 0
    · obtain rfl := hv (by omega)
      have k0 : (i : Int) < 2 := by omega
      have k1 : ¬ (i : Int) = 1 := by omega
      have d0 : decide ((i : Int) < 2) = true := by simp only [decide_eq_true_eq]; omega
      have d1 : ((i : Int) == 1) = false := by rw [beq_eq_false_iff_ne]; exact k1
      clear HPa hv
      rcases hB.out with ⟨X, r, hr0, H1⟩ | ⟨X, ys, H1, H2, H3⟩
      · replace H1 := Rg.hid H1
        have d2 : ((r : Int) != 0) = true := by rw [bne_iff_ne]; omega
        have k2 : ¬ (r : Int) = 0 := by omega
        clear hB
        go_wp2_with (go_at_call 8; refine (H1.out _ hbw.out).mono ?_; rintro e w2 ⟨rfl, b2⟩)
        go_roundw
        case rel => exact ⟨i + 1, by omega, by go_num, fun _ => rfl, b2⟩
        case measure => simp [intOf]; omega
      · replace H1 := Rg.hid H1
        replace H2 := Rg.hid H2
        replace H3 := Rg.hid H3
        clear hB
        go_wp2_with (first
          | (go_at_call 8; refine (H1.out _ hbw.out).mono ?_; rintro e w2 ⟨rfl, b2⟩)
          | (go_at_call 18; refine (H2.out _ b2.out).mono ?_; rintro e w3 ⟨a2, c2, vs2, rfl, t3, s3, b3⟩)
          | (go_at_call 19; refine (H3.out _ a2 c2 vs2 b3.out t3.out s3.out).mono ?_; rintro e w4 ⟨rfl, b4⟩))
        go_roundw
        case rel => exact ⟨i + 1, by omega, by go_num, fun _ => rfl, b4⟩
        case measure => simp [intOf]; omega
    by_cases h1 : i = 1
    · obtain rfl := hv (by omega)
      have k0 : (i : Int) < 2 := by omega
      have k1 : (i : Int) = 1 := by omega
      have d0 : decide ((i : Int) < 2) = true := by simp only [decide_eq_true_eq]; omega
      have d1 : ((i : Int) == 1) = true := by rw [beq_iff_eq]; exact k1
      have hnx : ∀ (v : Value), i + 1 ≤ 1 → v = .slice a N c := fun v h => by omega
      replace k1 := Rg.hid k1
      clear hB hv
      rcases HPa.out with ⟨hq, H0⟩ | H0
      · replace H0 := Rg.hid H0
        have d2 : (q != 0) = true := by rw [bne_iff_ne]; exact hq
        clear HPa
        go_wp2_with (first
          | (go_at_call 18; refine (H0.out _ hbw.out).mono ?_; rintro e w2 ⟨A, C, rfl, b2⟩)
          | (go_at_call 7; refine (HA.out _ b2.out).mono ?_; rintro e w9 ⟨rfl, b9⟩))
        go_ret
        exact ⟨rfl, b9.out⟩
      · replace H0 := Rg.hid H0
        clear HPa
        go_upto_region 11 with (go_at_call 18; refine (H0.out _ hbw.out).mono ?_; rintro e w2 ⟨A, C, rfl, hB2, b2⟩)
        clear H0
        rcases hB2.out with ⟨X, r, hr0, H1⟩ | ⟨X, ys, H1, H2, H3⟩
        · replace H1 := Rg.hid H1
          have d2 : ((r : Int) != 0) = true := by rw [bne_iff_ne]; omega
          have k2 : ¬ (r : Int) = 0 := by omega
          clear hB2
          go_wp2_with (go_at_call 8; refine (H1.out _ (Below.refl _ _)).mono ?_; rintro e w3 ⟨rfl, b3⟩)
          go_roundw
          case rel => exact ⟨i + 1, by omega, by go_num, fun h => hnx _ h, Rg.chain b2.out b3.out⟩
          case measure => simp [intOf]; omega
        · replace H1 := Rg.hid H1
          replace H2 := Rg.hid H2
          replace H3 := Rg.hid H3
          clear hB2
          go_wp2_with (first
            | (go_at_call 8; refine (H1.out _ (Below.refl _ _)).mono ?_; rintro e w3 ⟨rfl, b3⟩)
            | (go_at_call 18; refine (H2.out _ b3.out).mono ?_; rintro e w4 ⟨a2, c2, vs2, rfl, t4, s4, b4⟩)
            | (go_at_call 19; refine (H3.out _ a2 c2 vs2 b4.out t4.out s4.out).mono ?_; rintro e w5 ⟨rfl, b5⟩))
          go_roundw
          case rel => exact ⟨i + 1, by omega, by go_num, fun h => hnx _ h, Rg.chain b2.out b5.out⟩
          case measure => simp [intOf]; omega
    have k0 : ¬ (i : Int) < 2 := by omega
    have d0 : decide ((i : Int) < 2) = false := by simp only [decide_eq_false_iff_not]; omega
    clear HPa hB hv
    go_wp2_with (go_at_call 7; refine (HA.out _ hbw.out).mono ?_; rintro e w9 ⟨rfl, b9⟩)
    go_ret
    exact ⟨rfl, b9.out⟩
theorem back_card (a : Option Addr) (c : Nat) (vs : List SV) (xs : List Ch.St) (s : ByteArray) (_hs : s.size ≤ maxLen) (w : World) (h : StepsIn w a c vs xs) (hE : Env w) :
    Calls Tryd.prog 5 #[.slice a vs.length c, .string s] w fun e w' => e = .returned (.bool true) ∧ Below w.heap.size w w' := by
  rw [h.sts.1]
  exact back8_walk a c vs xs s w h.row h.sts (fun x hx => (h.bd x hx).2.2) hE
end Go.Proofs.YteepfifglafjmaaDoor
