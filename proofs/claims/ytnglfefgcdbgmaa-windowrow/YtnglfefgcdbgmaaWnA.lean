/-
  Walks of layer 14's statements: WindowRound.
-/
import Derived.Test.YtnglfefgcdbgmaaWn9
import Derived.Deep.QuietTactic
import Derived.BigQuiet
namespace Go.Proofs.Ytnglfefgcdbgmaa
open Go.RowKit
namespace Wn
/-- The modulus that the statements take. -/
theorem modOf (z : Int) : ∃ U r M : Nat, IntKind.u64.wrap z = (U : Int) ∧ (U : Int).tmod 63 = (r : Int) ∧ (U : Int) % 63 = (r : Int) ∧ IntKind.i64.wrap (r : Int) = (r : Int) ∧ wrap64 (2 + (r : Int)) = (M : Int) ∧ IntKind.i64.wrap (2 + (r : Int)) = (M : Int) ∧ 2 ≤ M ∧ M ≤ 64 := by
  obtain ⟨U, hU⟩ : ∃ U : Nat, IntKind.u64.wrap z = (U : Int) := ⟨(IntKind.u64.wrap z).toNat, by rw [IntKind.wrap_u64]; omega⟩
  refine ⟨U, U % 63, 2 + U % 63, hU, ?_, by omega, ?_, ?_, ?_, by omega, by omega⟩
  · rw [Int.tmod_eq_emod_of_nonneg (by omega)]; omega
  · rw [IntKind.wrap_i64]; omega
  · unfold wrap64; omega
  · rw [IntKind.wrap_i64]; omega
theorem u64_small (M : Nat) (h : M ≤ 64) : IntKind.u64.wrap (M : Int) = (M : Int) := by rw [IntKind.wrap_u64]; omega
/-- A number below it. -/
theorem belowOf (z : Int) (M : Nat) (h2 : 2 ≤ M) (hM : M ≤ 64) : ∃ U A : Nat, IntKind.u64.wrap z = (U : Int) ∧ (U : Int).tmod (M : Int) = (A : Int) ∧ IntKind.i64.wrap (A : Int) = (A : Int) ∧ A < M := by
  obtain ⟨U, hU⟩ : ∃ U : Nat, IntKind.u64.wrap z = (U : Int) := ⟨(IntKind.u64.wrap z).toNat, by rw [IntKind.wrap_u64]; omega⟩
  have hlt : U % M < M := Nat.mod_lt _ (by omega)
  refine ⟨U, U % M, hU, ?_, ?_, hlt⟩
  · rw [Int.tmod_eq_emod_of_nonneg (by omega)]; rfl
  · rw [IntKind.wrap_i64]; omega
/-- The window's width that the statements take. -/
theorem widthOf (z : Int) (M : Nat) (h2 : 2 ≤ M) (hM : M ≤ 64) : ∃ (U r Z : Nat) (M1 : Int), IntKind.u64.wrap z = (U : Int) ∧ wrap64 ((M : Int) - 1) = M1 ∧ IntKind.u64.wrap M1 = M1 ∧ ¬ M1 = 0 ∧ (U : Int).tmod M1 = (r : Int) ∧ IntKind.i64.wrap (r : Int) = (r : Int) ∧ wrap64 (1 + (r : Int)) = (Z : Int) ∧ fit M Z 0 := by
  obtain ⟨U, hU⟩ : ∃ U : Nat, IntKind.u64.wrap z = (U : Int) := ⟨(IntKind.u64.wrap z).toNat, by rw [IntKind.wrap_u64]; omega⟩
  have hlt : U % (M - 1) < M - 1 := Nat.mod_lt _ (by omega)
  have e : (((M - 1 : Nat)) : Int) = (M : Int) - 1 := by omega
  refine ⟨U, U % (M - 1), 1 + U % (M - 1), (M : Int) - 1, hU, ?_, ?_, by omega, ?_, ?_, ?_, ?_⟩
  · unfold wrap64; omega
  · rw [IntKind.wrap_u64]; omega
  · rw [← e, Int.tmod_eq_emod_of_nonneg (by omega)]; rfl
  · rw [IntKind.wrap_i64]; omega
  · unfold wrap64; omega
  · unfold fit; omega
/-- What the statement's sum in a round comes to. -/
theorem roundSum {A B M C : Nat} (h2 : 2 ≤ M) (hM : M ≤ 64) (hA : A < M) (hB : B < M) (hC : C < M) : ∃ S : Int, wrap64 (ahead A B M + ahead B C M) = S ∧ IntKind.i64.wrap (ahead A B M + ahead B C M) = S ∧ S.tmod (M : Int) = ahead A C M := by
  have e := ahead_by (a := A) (b := B) (c := C) (m := M) (by omega) (by omega) (by omega) (by omega)
  have r1 := ahead_lt (a := A) (b := B) (m := M) (by omega)
  have r2 := ahead_lt (a := B) (b := C) (m := M) (by omega)
  generalize ahead A B M = x at *
  generalize ahead B C M = y at *
  have w := wrp (z := x + y) (by omega) (by omega)
  exact ⟨x + y, w.2, w.1, by rw [Int.tmod_eq_emod_of_nonneg (by omega)]; exact e⟩
end Wn
set_option maxHeartbeats 4000000 in
set_option maxRecDepth 100000 in
theorem round_core (x y z : Int) (U r M UA A UB B : Nat) (N P Z Y : Int) (w : World) (e1 : Bool) (hM : M ≤ 64)
    (m0 : IntKind.u64.wrap z = (U : Int)) (m1 : (U : Int).tmod 63 = (r : Int)) (m2 : IntKind.i64.wrap (r : Int) = (r : Int)) (m3 : wrap64 (2 + (r : Int)) = (M : Int)) (m4 : IntKind.u64.wrap (M : Int) = (M : Int)) (m5 : ¬ (M : Int) = 0)
    (a0 : IntKind.u64.wrap x = (UA : Int)) (a1 : (UA : Int).tmod (M : Int) = (A : Int)) (a2 : IntKind.i64.wrap (A : Int) = (A : Int))
    (b0 : IntKind.u64.wrap y = (UB : Int)) (b1 : (UB : Int).tmod (M : Int) = (B : Int)) (b2 : IntKind.i64.wrap (B : Int) = (B : Int))
    (H1 : Hid (∀ W, Calls Try.prog 10 #[.int .i64 (A : Int), .int .i64 (B : Int), .int .i64 (M : Int)] W fun e w' => e = .returned (.int .i64 N) ∧ w' = W))
    (H2 : Hid (∀ W, Calls Try.prog 10 #[.int .i64 (B : Int), .int .i64 (A : Int), .int .i64 (M : Int)] W fun e w' => e = .returned (.int .i64 P) ∧ w' = W))
    (HR : Hid (∀ C : Nat, C < M → ∃ S Q R : Int, (∀ W, Calls Try.prog 10 #[.int .i64 (B : Int), .int .i64 (C : Int), .int .i64 (M : Int)] W fun e w' => e = .returned (.int .i64 Q) ∧ w' = W) ∧ (∀ W, Calls Try.prog 10 #[.int .i64 (A : Int), .int .i64 (C : Int), .int .i64 (M : Int)] W fun e w' => e = .returned (.int .i64 R) ∧ w' = W) ∧ wrap64 (N + Q) = S ∧ IntKind.i64.wrap (N + Q) = S ∧ S.tmod (M : Int) = R))
    (HA : Hid (∀ W, Below w.heap.size w W → Calls Try.prog 13 #[] W fun e w' => e = .returned (.bool true) ∧ Below w.heap.size w w'))
    (n0 : decide (0 ≤ N) = true) (n1 : decide (N < (M : Int)) = true) (s0 : wrap64 (N + P) = Z) (s1 : (Z == (M : Int)) = e1) (s2 : e1 = false → (Z == 0) = true ∧ A = B) (t0 : wrap64 ((A : Int) + N) = Y) (t1 : Y.tmod (M : Int) = (B : Int)) :
    Calls Try.prog 7 #[.int .i64 x, .int .i64 y, .int .i64 z] w fun e w' => e = .returned (.bool true) ∧ Below w.heap.size w w' := by
  go_enter Try.func7, Try.ntmps7
  go_upto_region 4 with fail
  simp only [m3]
  clear m0 m1 m2 m3 a0 a1 a2 b0 b1 b2
  go_wp2_with (go_at_call 10; first | (with_reducible refine (H1.out _).mono ?_; rintro e w2 ⟨rfl, hw2⟩; obtain rfl := hw2.symm) | (with_reducible refine (H2.out _).mono ?_; rintro e w3 ⟨rfl, hw3⟩; obtain rfl := hw3.symm))
  go_loopw [36] (fun vi wr => ∃ i : Nat, i ≤ M ∧ vi = .int .i64 i ∧ Below w.heap.size w wr) (fun vi _ => M - (intOf vi).toNat)
  case atStart => exact ⟨0, Nat.zero_le _, rfl, Below.refl _ _⟩
  case round =>
    obtain ⟨i, hin, rfl, hbw⟩ := hrel
    by_cases hlt : i < M
    · obtain ⟨S, Q, R, G1, G2, g1, g2, g3⟩ := HR.out i hlt
      replace G1 := Rg.hid G1
      replace G2 := Rg.hid G2
      clear HR H1 H2 HA n0 n1 s0 s1 s2 t0 t1
      go_upto_region 8 with fail
      go_quiet ((go_at_call 10; first | (with_reducible exact Calls.quiet_of_same (G1.out _)) | (with_reducible exact Calls.quiet_of_same (G2.out _))))
      go_wp2
      go_roundw
      case rel => exact ⟨i + 1, by omega, by go_num, Rg.drewN hbw _⟩
      case measure => simp [intOf]; omega
    · have hie : i = M := by omega
      subst hie
      clear HR H1 H2
      cases e1 with
      | true =>
        clear s2
        go_wp2_with (go_at_call 13; refine (HA.out _ hbw).mono ?_; rintro e w4 ⟨rfl, b4⟩)
        go_ret
        exact ⟨rfl, b4⟩
      | false =>
        obtain ⟨s3, s4⟩ := s2 rfl
        subst s4
        clear s2
        go_wp2_with (go_at_call 13; refine (HA.out _ hbw).mono ?_; rintro e w4 ⟨rfl, b4⟩)
        go_ret
        exact ⟨rfl, b4⟩
theorem round_walk (x y z : Int) (w : World) : Calls Try.prog 7 #[.int .i64 x, .int .i64 y, .int .i64 z] w fun e w' => e = .returned (.bool true) ∧ Below w.heap.size w w' := by
  obtain ⟨U, r, M, m0, m1, _, m2, m3, _, h2, hM⟩ := Wn.modOf z
  obtain ⟨UA, A, a0, a1, a2, hA⟩ := Wn.belowOf x M h2 hM
  obtain ⟨UB, B, b0, b1, b2, hB⟩ := Wn.belowOf y M h2 hM
  have hf : 2 ≤ (M : Int) ∧ (M : Int) ≤ 64 ∧ 0 ≤ (A : Int) ∧ (A : Int) < M ∧ 0 ≤ (B : Int) ∧ (B : Int) < M := by clear m0 m1 m2 m3 a0 a1 a2 b0 b1 b2; omega
  have hg : 2 ≤ (M : Int) ∧ (M : Int) ≤ 64 ∧ 0 ≤ (B : Int) ∧ (B : Int) < M ∧ 0 ≤ (A : Int) ∧ (A : Int) < M := by clear m0 m1 m2 m3 a0 a1 a2 b0 b1 b2; omega
  have l1 := Wn.ahead_lt hf
  have l2 := Wn.ahead_lt hg
  obtain ⟨k1, k2⟩ := Wn.ahead_back (a := A) (b := B) (m := M) ⟨hf.1, hf.2.1⟩ ⟨hf.2.2.1, hf.2.2.2.1⟩ ⟨hg.2.2.1, hg.2.2.2.1⟩
  have hs : Wn.ahead A B M + Wn.ahead B A M ≤ 1000 := by clear m0 m1 m2 m3 a0 a1 a2 b0 b1 b2; omega
  have hs0 : 0 ≤ Wn.ahead A B M + Wn.ahead B A M := by clear m0 m1 m2 m3 a0 a1 a2 b0 b1 b2; omega
  have ht : (A : Int) + Wn.ahead A B M ≤ 1000 := by clear m0 m1 m2 m3 a0 a1 a2 b0 b1 b2; omega
  have ht0 : 0 ≤ (A : Int) + Wn.ahead A B M := by clear m0 m1 m2 m3 a0 a1 a2 b0 b1 b2; omega
  have e1 : ((Wn.ahead A B M + Wn.ahead B A M == (M : Int)) = false) → (Wn.ahead A B M + Wn.ahead B A M == 0) = true ∧ A = B := by
    intro h
    rcases k1 with k1 | ⟨k1, k3⟩
    · rw [k1] at h; simp at h
    · exact ⟨by rw [k1]; rfl, Int.ofNat.inj k3⟩
  refine round_core x y z U r M UA A UB B _ _ _ _ w _ hM m0 m1 m2 m3 (Wn.u64_small M hM) (by clear m0 m1 m2 m3 a0 a1 a2 b0 b1 b2; omega) a0 a1 a2 b0 b1 b2 (ahead_any _ _ _) (ahead_any _ _ _) ?_ (fun W hW => (awake_any W).mono fun e w' ⟨h1, h2⟩ => ⟨h1, Rg.chain hW h2⟩) (decide_eq_true l1.1) (decide_eq_true l1.2) (Wn.wrp (Int.le_trans (by decide) hs0) (Int.le_trans hs (by decide))).2 rfl e1 (Wn.wrp (Int.le_trans (by decide) ht0) (Int.le_trans ht (by decide))).2 (by rw [Int.tmod_eq_emod_of_nonneg ht0]; exact k2)
  intro C hC
  obtain ⟨S, g1, g2, g3⟩ := Wn.roundSum h2 hM hA hB hC
  exact ⟨S, _, _, ahead_any _ _ _, ahead_any _ _ _, g1, g2, g3⟩
end Go.Proofs.Ytnglfefgcdbgmaa
