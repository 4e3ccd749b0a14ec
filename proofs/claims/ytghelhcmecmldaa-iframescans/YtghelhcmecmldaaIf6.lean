/-
  Walks of layer 12: what a head says; the data behind it.
-/
import Derived.Test.YtghelhcmecmldaaIf1
import Derived.Test.YtghelhcmecmldaaIf4
namespace Go.Proofs.Ytghelhcmecmldaa
open Go.RowKit
/-- What readBody answers. -/
def If.rb (n : Nat) (r : List UInt8) : List UInt8 × Nat := if r.length < If.bsz n then ([], 2) else if If.body (r.take n) = r.take (If.bsz n) then (r.take n, 0) else ([], 4)
set_option linter.unusedVariables false in
set_option maxHeartbeats 1000000 in
theorem rbody_short (s : ByteArray) (n Z : Nat) (w : World) (d : decide ((s.size : Int) < (Z : Int)) = true) (d' : decide (s.size < Z) = true)
    (HZ : Hid (∀ W, Calls Try.prog 25 #[.int .i64 n] W fun e w' => e = .returned (.int .i64 Z) ∧ w' = W)) :
    Calls Try.prog 24 #[.string s, .int .i64 n] w fun e w' => e = .returned (.tuple #[.string ⟨#[]⟩, .int .i64 2]) ∧ Below w.heap.size w w' := by
  have bw := Below.refl w.heap.size w
  go_enter Try.func24, Try.ntmps24
  go_wp2_with (go_at_call 25; refine (HZ.out _).mono ?_; rintro e w1 ⟨rfl, rfl⟩)
  go_ret2
  exact ⟨rfl, bw⟩
set_option linter.unusedVariables false in
set_option maxHeartbeats 1000000 in
theorem rbody_ok (s : ByteArray) (n Z : Nat) (w : World) (d : decide ((s.size : Int) < (Z : Int)) = false) (h1 : (n : Int) ≤ (s.size : Int)) (h2 : (Z : Int) ≤ (s.size : Int)) (Y : ByteArray) (dq : (Y.toList == (s.extract 0 Z).toList) = true)
    (HZ : Hid (∀ W, Calls Try.prog 25 #[.int .i64 n] W fun e w' => e = .returned (.int .i64 Z) ∧ w' = W))
    (HB : Hid (∀ W, Calls Try.prog 19 #[.string (s.extract 0 n)] W fun e w' => e = .returned (.string Y) ∧ Below W.heap.size W w')) :
    Calls Try.prog 24 #[.string s, .int .i64 n] w fun e w' => e = .returned (.tuple #[.string (s.extract 0 n), .int .i64 0]) ∧ Below w.heap.size w w' := by
  go_enter Try.func24, Try.ntmps24
  go_wp2_with (first
    | (go_at_call 25; refine (HZ.out _).mono ?_; rintro e w1 ⟨rfl, rfl⟩)
    | (go_at_call 19; refine (HB.out _).mono ?_; rintro e w2 ⟨rfl, b2⟩))
  go_ret2
  exact ⟨rfl, b2⟩
set_option linter.unusedVariables false in
set_option maxHeartbeats 1000000 in
theorem rbody_sum (s : ByteArray) (n Z : Nat) (w : World) (d : decide ((s.size : Int) < (Z : Int)) = false) (h1 : (n : Int) ≤ (s.size : Int)) (h2 : (Z : Int) ≤ (s.size : Int)) (Y : ByteArray) (dq : (Y.toList == (s.extract 0 Z).toList) = false)
    (HZ : Hid (∀ W, Calls Try.prog 25 #[.int .i64 n] W fun e w' => e = .returned (.int .i64 Z) ∧ w' = W))
    (HB : Hid (∀ W, Calls Try.prog 19 #[.string (s.extract 0 n)] W fun e w' => e = .returned (.string Y) ∧ Below W.heap.size W w')) :
    Calls Try.prog 24 #[.string s, .int .i64 n] w fun e w' => e = .returned (.tuple #[.string ⟨#[]⟩, .int .i64 4]) ∧ Below w.heap.size w w' := by
  go_enter Try.func24, Try.ntmps24
  go_wp2_with (first
    | (go_at_call 25; refine (HZ.out _).mono ?_; rintro e w1 ⟨rfl, rfl⟩)
    | (go_at_call 19; refine (HB.out _).mono ?_; rintro e w2 ⟨rfl, b2⟩))
  go_ret2
  exact ⟨rfl, b2⟩
theorem rbody_any (s : ByteArray) (n : Nat) (hn : n < 4096) (w : World) :
    Calls Try.prog 24 #[.string s, .int .i64 n] w fun e w' => e = .returned (.tuple #[.string ⟨(If.rb n s.data.toList).1.toArray⟩, .int .i64 ((If.rb n s.data.toList).2 : Nat)]) ∧ Below w.heap.size w w' := by
  have HZ := fun W => bodySize_any n (by omega) W
  have hz := If.bsz_le n
  unfold If.rb
  rw [If.len_eq]
  by_cases hl : s.size < If.bsz n
  · rw [if_pos hl]
    exact rbody_short s n (If.bsz n) w (by simp; omega) (decide_eq_true hl) HZ
  · rw [if_neg hl]
    have e1 := If.extract_eq s 0 n (by omega) (by omega)
    have e2 := If.extract_eq s 0 (If.bsz n) (by omega) (by omega)
    rw [List.drop_zero, Nat.sub_zero] at e1 e2
    have hsz := If.extract_size s 0 n (by omega) (by omega)
    have HB := fun W => body_any (s.extract 0 n) (by omega) W
    rw [← e1, ← e2]
    by_cases hq : If.body (s.extract 0 n).data.toList = (s.extract 0 (If.bsz n)).data.toList
    · rw [if_pos hq]
      exact rbody_ok s n (If.bsz n) w (by simp; omega) (by omega) (by omega) _ (by rw [tl_eq, tl_eq]; exact beq_iff_eq.2 hq) HZ HB
    · rw [if_neg hq]
      exact rbody_sum s n (If.bsz n) w (by simp; omega) (by omega) (by omega) _ (by rw [tl_eq, tl_eq]; exact beq_eq_false_iff_ne.2 hq) HZ HB

set_option linter.unusedVariables false in
set_option maxHeartbeats 2000000 in
set_option maxRecDepth 100000 in
theorem rhead_core (s : ByteArray) (w : World) (h6 : 6 ≤ s.size) (K N A C M Z1 Z : Nat) (B : Bool) (hml : s.size ≤ 9223372036854775807)
    (j1 : (1 : Int) < (s.size : Int)) (j2 : (2 : Int) < (s.size : Int)) (j3 : (3 : Int) < (s.size : Int)) (j4 : (4 : Int) < (s.size : Int))
    (b1 : s[1].toNat < 256) (b2 : s[2].toNat < 256) (b3 : s[3].toNat < 256) (b4 : s[4].toNat < 256)
    (f1 : (s[3].toNat : Int) / 32 = (K : Int)) (f2 : (s[1].toNat : Int) / 8 = (N : Int)) (f3 : (s[2].toNat : Int) / 8 = (A : Int)) (f4 : bits .and .i64 (s[1].toNat : Int) 7 = (C : Int))
    (f5 : bits .and .i64 (s[3].toNat : Int) 16 = (M : Int)) (f6 : ((M : Int) != 0) = B)
    (f7 : bits .and .i64 (s[3].toNat : Int) 15 = (Z1 : Int)) (hZ1 : Z1 < 16) (f8 : bits .or .i64 ((Z1 : Int) * 256) (s[4].toNat : Int) = (Z : Int)) :
    Calls Try.prog 23 #[.string s] w fun e w' => e = .returned (.tuple #[.agg #[.int .i64 K, .int .i64 N, .int .i64 A, .int .i64 C, .bool B, .string ⟨#[]⟩], .int .i64 Z]) ∧ Below w.heap.size w w' := by
  go_enter Try.func23, Try.ntmps23
  go_upto_region 1 with fail
  go_big_region
  go_upto_region 3 with fail
  go_big_region
  go_wp2
  exact bodyPost_ret (v := .tuple #[.agg #[.int .i64 K, .int .i64 N, .int .i64 A, .int .i64 C, .bool B, .string ⟨#[]⟩], .int .i64 Z]) (by simp [results, Try.results23, go_sem]) rfl ⟨rfl, (If.more (If.below1 w _) _).drew.drew⟩
namespace If
theorem and7 (x : Nat) : bits .and .i64 (x : Int) 7 = ((x % 8 : Nat) : Int) := by
  rw [show (7 : Int) = ((7 : Nat) : Int) from rfl, Bit.and_i64_mask (x : Int) 3 7 (by decide) (by decide)]; omega
theorem and15 (x : Nat) : bits .and .i64 (x : Int) 15 = ((x % 16 : Nat) : Int) := by
  rw [show (15 : Int) = ((15 : Nat) : Int) from rfl, Bit.and_i64_mask (x : Int) 4 15 (by decide) (by decide)]; omega
theorem and16_all : ∀ n : Nat, n < 256 → bits .and .i64 (n : Int) 16 = ((n / 16 % 2 * 16 : Nat) : Int) := by decide +kernel
theorem or256 {z d : Nat} (hz : z < 16) (hd : d < 256) : bits .or .i64 ((z : Int) * 256) (d : Int) = ((z * 256 + d : Nat) : Int) := by
  have e := Bit.or_i64 (z * 256) d (by omega) (by omega)
  rw [show z * 256 ||| d = z * 256 + d from or_add z 8 d (by omega)] at e
  rw [← e]; rfl
end If
theorem rhead_any (s : ByteArray) (h6 : 6 ≤ s.size) (hs : s.size ≤ maxLen) (w : World) :
    Calls Try.prog 23 #[.string s] w fun e w' => e = .returned (.tuple #[.agg #[.int .i64 (s[3].toNat / 32 : Nat), .int .i64 (s[1].toNat / 8 : Nat), .int .i64 (s[2].toNat / 8 : Nat), .int .i64 (s[1].toNat % 8 : Nat), .bool (decide (s[3].toNat / 16 % 2 = 1)), .string ⟨#[]⟩], .int .i64 (s[3].toNat % 16 * 256 + s[4].toNat : Nat)]) ∧ Below w.heap.size w w' := by
  have b1 := UInt8.toNat_lt s[1]
  have b2 := UInt8.toNat_lt s[2]
  have b3 := UInt8.toNat_lt s[3]
  have b4 := UInt8.toNat_lt s[4]
  refine rhead_core s w h6 (s[3].toNat / 32) (s[1].toNat / 8) (s[2].toNat / 8) (s[1].toNat % 8) (s[3].toNat / 16 % 2 * 16) (s[3].toNat % 16) _ (decide (s[3].toNat / 16 % 2 = 1)) hs (by omega) (by omega) (by omega) (by omega) b1 b2 b3 b4 (by omega) (by omega) (by omega) (If.and7 _) (If.and16_all _ b3) ?_ (If.and15 _) (by omega) (If.or256 (by omega) b4)
  generalize s[3].toNat / 16 = q
  rcases Nat.mod_two_eq_zero_or_one q with h | h
  · rw [h]; rfl
  · rw [h]; rfl
end Go.Proofs.Ytghelhcmecmldaa
