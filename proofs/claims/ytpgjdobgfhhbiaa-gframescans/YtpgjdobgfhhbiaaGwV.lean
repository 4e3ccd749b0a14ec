/-
  Walks of the document's layer 11: Read, the refusals of a head.
-/
import Derived.Test.YtpgjdobgfhhbiaaGwU
import Derived.Test.YtpgjdobgfhhbiaaGw9m
namespace Go.Proofs.Ytpgjdobgfhhbiaa
open Go.RowKit
set_option maxHeartbeats 4000000 in
set_option maxRecDepth 100000 in
theorem rr_empty (w : World) :
    Calls Try.prog 15 #[.string ⟨#[]⟩] w fun e w' => e = .returned (Gf.resV (.error 2)) ∧ Below w.heap.size w w' := by
  go_enter Try.func15, Try.ntmps15
  go_wp2
  all_goals exact bodyPost_ret (v := Gf.resV (.error 2)) (by simp [results, Try.results15, go_sem, Gf.resV]) rfl ⟨rfl, by repeat' (first | exact Below.refl _ _ | apply Below.drew | (refine Below.alloc ?_ (by simp <;> omega) _))⟩
set_option maxHeartbeats 4000000 in
set_option maxRecDepth 100000 in
theorem rr_form (s : ByteArray) (w : World) (hml : s.size ≤ 9223372036854775807) (e0 : (s.toList == []) = false) (hp : (0 : Int) < (s.size : Int)) (d1 : ((s[0].toNat : Int) == 16) = false) :
    Calls Try.prog 15 #[.string s] w fun e w' => e = .returned (Gf.resV (.error 3)) ∧ Below w.heap.size w w' := by
  go_enter Try.func15, Try.ntmps15
  go_wp2
  all_goals exact bodyPost_ret (v := Gf.resV (.error 3)) (by simp [results, Try.results15, go_sem, Gf.resV]) rfl ⟨rfl, by repeat' (first | exact Below.refl _ _ | apply Below.drew | (refine Below.alloc ?_ (by simp <;> omega) _))⟩
set_option maxHeartbeats 4000000 in
set_option maxRecDepth 100000 in
theorem rr_short (s : ByteArray) (w : World) (hml : s.size ≤ 9223372036854775807) (e0 : (s.toList == []) = false) (hp : (0 : Int) < (s.size : Int)) (d1 : ((s[0].toNat : Int) == 16) = true) (d2 : decide ((s.size : Int) < 6) = true) :
    Calls Try.prog 15 #[.string s] w fun e w' => e = .returned (Gf.resV (.error 2)) ∧ Below w.heap.size w w' := by
  go_enter Try.func15, Try.ntmps15
  go_wp2
  all_goals exact bodyPost_ret (v := Gf.resV (.error 2)) (by simp [results, Try.results15, go_sem, Gf.resV]) rfl ⟨rfl, by repeat' (first | exact Below.refl _ _ | apply Below.drew | (refine Below.alloc ?_ (by simp <;> omega) _))⟩
set_option maxHeartbeats 4000000 in
set_option maxRecDepth 100000 in
theorem rr_xor (s : ByteArray) (w : World) (hml : s.size ≤ 9223372036854775807) (h6 : 6 ≤ s.size) (e0 : (s.toList == []) = false) (d1 : ((s[0].toNat : Int) == 16) = true) (d2 : decide ((s.size : Int) < 6) = false)
    (b1 : s[1].toNat < 256) (b2 : s[2].toNat < 256) (b3 : s[3].toNat < 256) (b4 : s[4].toNat < 256) (m T HI LO : Nat) (XV : Nat) (o1 : bits .or .i64 (s[2].toNat : Int) ((s[3].toNat : Int) * 256) = (m : Int))
    (j1 : (1 : Int) < (s.size : Int)) (j2 : (2 : Int) < (s.size : Int)) (j3 : (3 : Int) < (s.size : Int)) (j4 : (4 : Int) < (s.size : Int)) (j6 : (6 : Int) ≤ (s.size : Int))
    (f1 : bits .and .i64 ((s[4].toNat : Int) / 8) 7 = (HI : Int)) (f2 : bits .and .i64 (s[4].toNat : Int) 7 = (LO : Int)) (f3 : (s[4].toNat : Int) / 64 = (T : Int))
    (HX : Hid (∀ W, Calls Try.prog 32 #[.string (s.extract 1 6)] W fun e w' => e = .returned (.int .i64 XV) ∧ w' = W))
    (dx2 : ¬ (XV : Int) = 0) :
    Calls Try.prog 15 #[.string s] w fun e w' => e = .returned (Gf.resV (.error 3)) ∧ Below w.heap.size w w' := by
  go_enter Try.func15, Try.ntmps15
  go_upto_region 8 with fail
  go_big_region
  go_wp2_with (first
    | (go_at_call 32; refine (HX.out _).mono ?_; rintro e w1 ⟨rfl, rfl⟩))
  all_goals exact bodyPost_ret (v := Gf.resV (.error 3)) (by simp [results, Try.results15, go_sem, Gf.resV]) rfl ⟨rfl, by repeat' (first | exact Below.refl _ _ | apply Below.drew | (refine Below.alloc ?_ (by simp <;> omega) _))⟩
set_option maxHeartbeats 4000000 in
set_option maxRecDepth 100000 in
theorem rr_k1 (s : ByteArray) (w : World) (hml : s.size ≤ 9223372036854775807) (h6 : 6 ≤ s.size) (e0 : (s.toList == []) = false) (d1 : ((s[0].toNat : Int) == 16) = true) (d2 : decide ((s.size : Int) < 6) = false)
    (b1 : s[1].toNat < 256) (b2 : s[2].toNat < 256) (b3 : s[3].toNat < 256) (b4 : s[4].toNat < 256) (m T HI LO : Nat) (o1 : bits .or .i64 (s[2].toNat : Int) ((s[3].toNat : Int) * 256) = (m : Int))
    (j1 : (1 : Int) < (s.size : Int)) (j2 : (2 : Int) < (s.size : Int)) (j3 : (3 : Int) < (s.size : Int)) (j4 : (4 : Int) < (s.size : Int)) (j6 : (6 : Int) ≤ (s.size : Int))
    (f1 : bits .and .i64 ((s[4].toNat : Int) / 8) 7 = (HI : Int)) (f2 : bits .and .i64 (s[4].toNat : Int) 7 = (LO : Int)) (f3 : (s[4].toNat : Int) / 64 = (T : Int))
    (HX : Hid (∀ W, Calls Try.prog 32 #[.string (s.extract 1 6)] W fun e w' => e = .returned (.int .i64 0) ∧ w' = W))
     (k1 : decide ((s[1].toNat : Int) < 1) = true) :
    Calls Try.prog 15 #[.string s] w fun e w' => e = .returned (Gf.resV (.error 3)) ∧ Below w.heap.size w w' := by
  go_enter Try.func15, Try.ntmps15
  go_upto_region 8 with fail
  go_big_region
  go_wp2_with (first
    | (go_at_call 32; refine (HX.out _).mono ?_; rintro e w1 ⟨rfl, rfl⟩))
  all_goals exact bodyPost_ret (v := Gf.resV (.error 3)) (by simp [results, Try.results15, go_sem, Gf.resV]) rfl ⟨rfl, by repeat' (first | exact Below.refl _ _ | apply Below.drew | (refine Below.alloc ?_ (by simp <;> omega) _))⟩
set_option maxHeartbeats 4000000 in
set_option maxRecDepth 100000 in
theorem rr_k9 (s : ByteArray) (w : World) (hml : s.size ≤ 9223372036854775807) (h6 : 6 ≤ s.size) (e0 : (s.toList == []) = false) (d1 : ((s[0].toNat : Int) == 16) = true) (d2 : decide ((s.size : Int) < 6) = false)
    (b1 : s[1].toNat < 256) (b2 : s[2].toNat < 256) (b3 : s[3].toNat < 256) (b4 : s[4].toNat < 256) (m T HI LO : Nat) (o1 : bits .or .i64 (s[2].toNat : Int) ((s[3].toNat : Int) * 256) = (m : Int))
    (j1 : (1 : Int) < (s.size : Int)) (j2 : (2 : Int) < (s.size : Int)) (j3 : (3 : Int) < (s.size : Int)) (j4 : (4 : Int) < (s.size : Int)) (j6 : (6 : Int) ≤ (s.size : Int))
    (f1 : bits .and .i64 ((s[4].toNat : Int) / 8) 7 = (HI : Int)) (f2 : bits .and .i64 (s[4].toNat : Int) 7 = (LO : Int)) (f3 : (s[4].toNat : Int) / 64 = (T : Int))
    (HX : Hid (∀ W, Calls Try.prog 32 #[.string (s.extract 1 6)] W fun e w' => e = .returned (.int .i64 0) ∧ w' = W))
     (k1 : decide ((s[1].toNat : Int) < 1) = false) (k9 : decide ((9 : Int) < (s[1].toNat : Int)) = true) :
    Calls Try.prog 15 #[.string s] w fun e w' => e = .returned (Gf.resV (.error 3)) ∧ Below w.heap.size w w' := by
  go_enter Try.func15, Try.ntmps15
  go_upto_region 8 with fail
  go_big_region
  go_wp2_with (first
    | (go_at_call 32; refine (HX.out _).mono ?_; rintro e w1 ⟨rfl, rfl⟩))
  all_goals exact bodyPost_ret (v := Gf.resV (.error 3)) (by simp [results, Try.results15, go_sem, Gf.resV]) rfl ⟨rfl, by repeat' (first | exact Below.refl _ _ | apply Below.drew | (refine Below.alloc ?_ (by simp <;> omega) _))⟩
set_option maxHeartbeats 4000000 in
set_option maxRecDepth 100000 in
theorem rr_m1 (s : ByteArray) (w : World) (hml : s.size ≤ 9223372036854775807) (h6 : 6 ≤ s.size) (e0 : (s.toList == []) = false) (d1 : ((s[0].toNat : Int) == 16) = true) (d2 : decide ((s.size : Int) < 6) = false)
    (b1 : s[1].toNat < 256) (b2 : s[2].toNat < 256) (b3 : s[3].toNat < 256) (b4 : s[4].toNat < 256) (m T HI LO : Nat) (o1 : bits .or .i64 (s[2].toNat : Int) ((s[3].toNat : Int) * 256) = (m : Int))
    (j1 : (1 : Int) < (s.size : Int)) (j2 : (2 : Int) < (s.size : Int)) (j3 : (3 : Int) < (s.size : Int)) (j4 : (4 : Int) < (s.size : Int)) (j6 : (6 : Int) ≤ (s.size : Int))
    (f1 : bits .and .i64 ((s[4].toNat : Int) / 8) 7 = (HI : Int)) (f2 : bits .and .i64 (s[4].toNat : Int) 7 = (LO : Int)) (f3 : (s[4].toNat : Int) / 64 = (T : Int))
    (HX : Hid (∀ W, Calls Try.prog 32 #[.string (s.extract 1 6)] W fun e w' => e = .returned (.int .i64 0) ∧ w' = W))
     (k1 : decide ((s[1].toNat : Int) < 1) = false) (k9 : decide ((9 : Int) < (s[1].toNat : Int)) = false) (q1 : ((s[1].toNat : Int) == 9) = true) (q2 : ((T : Int) == 0) = false) :
    Calls Try.prog 15 #[.string s] w fun e w' => e = .returned (Gf.resV (.error 3)) ∧ Below w.heap.size w w' := by
  go_enter Try.func15, Try.ntmps15
  go_upto_region 8 with fail
  go_big_region
  go_wp2_with (first
    | (go_at_call 32; refine (HX.out _).mono ?_; rintro e w1 ⟨rfl, rfl⟩))
  all_goals exact bodyPost_ret (v := Gf.resV (.error 3)) (by simp [results, Try.results15, go_sem, Gf.resV]) rfl ⟨rfl, by repeat' (first | exact Below.refl _ _ | apply Below.drew | (refine Below.alloc ?_ (by simp <;> omega) _))⟩
set_option maxHeartbeats 4000000 in
set_option maxRecDepth 100000 in
theorem rr_m2 (s : ByteArray) (w : World) (hml : s.size ≤ 9223372036854775807) (h6 : 6 ≤ s.size) (e0 : (s.toList == []) = false) (d1 : ((s[0].toNat : Int) == 16) = true) (d2 : decide ((s.size : Int) < 6) = false)
    (b1 : s[1].toNat < 256) (b2 : s[2].toNat < 256) (b3 : s[3].toNat < 256) (b4 : s[4].toNat < 256) (m T HI LO : Nat) (o1 : bits .or .i64 (s[2].toNat : Int) ((s[3].toNat : Int) * 256) = (m : Int))
    (j1 : (1 : Int) < (s.size : Int)) (j2 : (2 : Int) < (s.size : Int)) (j3 : (3 : Int) < (s.size : Int)) (j4 : (4 : Int) < (s.size : Int)) (j6 : (6 : Int) ≤ (s.size : Int))
    (f1 : bits .and .i64 ((s[4].toNat : Int) / 8) 7 = (HI : Int)) (f2 : bits .and .i64 (s[4].toNat : Int) 7 = (LO : Int)) (f3 : (s[4].toNat : Int) / 64 = (T : Int))
    (HX : Hid (∀ W, Calls Try.prog 32 #[.string (s.extract 1 6)] W fun e w' => e = .returned (.int .i64 0) ∧ w' = W))
     (k1 : decide ((s[1].toNat : Int) < 1) = false) (k9 : decide ((9 : Int) < (s[1].toNat : Int)) = false) (q1 : ((s[1].toNat : Int) == 9) = false) (q2 : ((T : Int) == 0) = true) :
    Calls Try.prog 15 #[.string s] w fun e w' => e = .returned (Gf.resV (.error 3)) ∧ Below w.heap.size w w' := by
  go_enter Try.func15, Try.ntmps15
  go_upto_region 8 with fail
  go_big_region
  go_wp2_with (first
    | (go_at_call 32; refine (HX.out _).mono ?_; rintro e w1 ⟨rfl, rfl⟩))
  all_goals exact bodyPost_ret (v := Gf.resV (.error 3)) (by simp [results, Try.results15, go_sem, Gf.resV]) rfl ⟨rfl, by repeat' (first | exact Below.refl _ _ | apply Below.drew | (refine Below.alloc ?_ (by simp <;> omega) _))⟩
set_option maxHeartbeats 4000000 in
set_option maxRecDepth 100000 in
theorem rr_t1 (s : ByteArray) (w : World) (hml : s.size ≤ 9223372036854775807) (h6 : 6 ≤ s.size) (e0 : (s.toList == []) = false) (d1 : ((s[0].toNat : Int) == 16) = true) (d2 : decide ((s.size : Int) < 6) = false)
    (b1 : s[1].toNat < 256) (b2 : s[2].toNat < 256) (b3 : s[3].toNat < 256) (b4 : s[4].toNat < 256) (m T HI LO : Nat) (o1 : bits .or .i64 (s[2].toNat : Int) ((s[3].toNat : Int) * 256) = (m : Int))
    (j1 : (1 : Int) < (s.size : Int)) (j2 : (2 : Int) < (s.size : Int)) (j3 : (3 : Int) < (s.size : Int)) (j4 : (4 : Int) < (s.size : Int)) (j6 : (6 : Int) ≤ (s.size : Int))
    (f1 : bits .and .i64 ((s[4].toNat : Int) / 8) 7 = (HI : Int)) (f2 : bits .and .i64 (s[4].toNat : Int) 7 = (LO : Int)) (f3 : (s[4].toNat : Int) / 64 = (T : Int))
    (HX : Hid (∀ W, Calls Try.prog 32 #[.string (s.extract 1 6)] W fun e w' => e = .returned (.int .i64 0) ∧ w' = W))
     (k1 : decide ((s[1].toNat : Int) < 1) = false) (k9 : decide ((9 : Int) < (s[1].toNat : Int)) = false) (q1 : ((s[1].toNat : Int) == 9) = false) (q2 : ((T : Int) == 0) = false) (q3 : ((T : Int) == 1) = true) :
    Calls Try.prog 15 #[.string s] w fun e w' => e = .returned (Gf.resV (.error 3)) ∧ Below w.heap.size w w' := by
  go_enter Try.func15, Try.ntmps15
  go_upto_region 8 with fail
  go_big_region
  go_wp2_with (first
    | (go_at_call 32; refine (HX.out _).mono ?_; rintro e w1 ⟨rfl, rfl⟩))
  all_goals exact bodyPost_ret (v := Gf.resV (.error 3)) (by simp [results, Try.results15, go_sem, Gf.resV]) rfl ⟨rfl, by repeat' (first | exact Below.refl _ _ | apply Below.drew | (refine Below.alloc ?_ (by simp <;> omega) _))⟩
end Go.Proofs.Ytpgjdobgfhhbiaa
