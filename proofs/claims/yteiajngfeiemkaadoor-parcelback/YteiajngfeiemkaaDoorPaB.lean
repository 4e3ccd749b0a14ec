/-
  Walks of layer 13's statements: ParcelBack.
-/
import Derived.Test.YteiajngfeiemkaaDoorPaA
namespace Go.Proofs.YteiajngfeiemkaaDoor
open Go.RowKit
set_option maxHeartbeats 4000000 in
set_option maxRecDepth 100000 in
theorem pback_big1 (t : Int) (d s : ByteArray) (p : Int) (w : World) (q1 : decide ((5000 : Int) < (d.size : Int)) = true) (HA : Hid (∀ W, Below w.heap.size w W → Calls Tryd.prog 9 #[] W fun e w' => e = .returned (.bool true) ∧ Below w.heap.size w w')) :
    Calls Tryd.prog 7 #[.agg #[.int .i64 t, .string d], .string s, .int .i64 p] w fun e w' => e = .returned (.bool true) ∧ Below w.heap.size w w' := by
  have bw := If.below1 w (.cells #[.int .i64 t, .string d] 23)
  go_enter Tryd.func7, Tryd.ntmps7
  go_wp2_with (go_at_call 9; refine (HA.out _ bw).mono ?_; rintro e w2 ⟨rfl, b2⟩)
  go_ret
  exact ⟨rfl, b2⟩
set_option maxHeartbeats 4000000 in
set_option maxRecDepth 100000 in
theorem pback_big2 (t : Int) (d s : ByteArray) (p : Int) (w : World) (q1 : decide ((5000 : Int) < (d.size : Int)) = false) (q2 : decide ((9000 : Int) < (s.size : Int)) = true) (HA : Hid (∀ W, Below w.heap.size w W → Calls Tryd.prog 9 #[] W fun e w' => e = .returned (.bool true) ∧ Below w.heap.size w w')) :
    Calls Tryd.prog 7 #[.agg #[.int .i64 t, .string d], .string s, .int .i64 p] w fun e w' => e = .returned (.bool true) ∧ Below w.heap.size w w' := by
  have bw := If.below1 w (.cells #[.int .i64 t, .string d] 23)
  go_enter Tryd.func7, Tryd.ntmps7
  go_wp2_with (go_at_call 9; refine (HA.out _ bw).mono ?_; rintro e w2 ⟨rfl, b2⟩)
  go_ret
  exact ⟨rfl, b2⟩
set_option linter.unusedVariables false in
set_option maxHeartbeats 4000000 in
set_option maxRecDepth 100000 in
theorem pback_11 (t : Int) (d s : ByteArray) (p : Int) (w : World) (HA : Hid (∀ W, Below w.heap.size w W → Calls Tryd.prog 9 #[] W fun e w' => e = .returned (.bool true) ∧ Below w.heap.size w w'))
    (q1 : decide ((5000 : Int) < (d.size : Int)) = false) (q2 : decide ((9000 : Int) < (s.size : Int)) = false)
    (X : ByteArray) (hX : X.size ≤ 5000) (hm2 : s.size ≤ 9000) (U K : Nat) (u1 : IntKind.u64.wrap p = (U : Int)) (u2 : IntKind.u64.wrap (X.size : Int) = (X.size : Int)) (u3 : (U : Int) % (X.size : Int) = (K : Int)) (u3' : (U : Int).tmod (X.size : Int) = (K : Int)) (u4 : K ≤ X.size) (u5 : (K : Int) ≤ (X.size : Int)) (u8 : ¬ X.size = 0)
    (HW : Hid (∀ W, Below w.heap.size w W → Rg.Bk w.heap.size [.int .i64 t, .string d] 23 W → Calls Tryd.prog 10 #[.agg #[.int .i64 t, .string d]] W fun e w' => e = .returned (.tuple #[.string X, .int .i64 0]) ∧ Below w.heap.size w w' ∧ Rg.Bk w.heap.size [.int .i64 t, .string d] 23 w'))
    (HR : Hid (∀ W, Calls Tryd.prog 12 #[.string (X ++ s)] W fun e w' => e = .returned (.tuple #[.agg #[.int .i64 t, .string d], .int .i64 X.size, .int .i64 0]) ∧ Below W.heap.size W w'))
    (HC : Hid (∀ W, Calls Tryd.prog 12 #[.string (X.extract 0 K)] W fun e w' => e = .returned (.tuple #[.agg #[.int .i64 0, .string ⟨#[]⟩], .int .i64 0, .int .i64 2]) ∧ Below W.heap.size W w'))
    (t2 : Int) (d2 Y : ByteArray) (N : Nat) (n1 : decide ((N : Int) < 5) = false) (n3 : (Y.toList == (s.extract 0 N).toList) = true) (n4 : N ≤ s.size) (n5 : (N : Int) ≤ (s.size : Int))
    (HS : Hid (∀ W, Calls Tryd.prog 12 #[.string s] W fun e w' => e = .returned (.tuple #[.agg #[.int .i64 t2, .string d2], .int .i64 N, .int .i64 0]) ∧ Below W.heap.size W w'))
    (HV : Hid (∀ W, Calls Tryd.prog 10 #[.agg #[.int .i64 t2, .string d2]] W fun e w' => e = .returned (.tuple #[.string Y, .int .i64 0]) ∧ Below W.heap.size W w')) :
    Calls Tryd.prog 7 #[.agg #[.int .i64 t, .string d], .string s, .int .i64 p] w fun e w' => e = .returned (.bool true) ∧ Below w.heap.size w w' := by
  have bw := If.below1 w (.cells #[.int .i64 t, .string d] 23)
  have k0 : Rg.Bk w.heap.size [.int .i64 t, .string d] 23 (w.alloc (.cells #[.int .i64 t, .string d] 23)) := Rg.Bk.new rfl
  go_enter Tryd.func7, Tryd.ntmps7
  go_upto_region 3 with fail
  have c0 := k0.cell 0; have c1 := k0.cell 1; simp only [List.getElem?_cons_zero, List.getElem?_cons_succ] at c0 c1
  generalize w.alloc (.cells #[.int .i64 t, .string d] 23) = W at *
  generalize hB : w.heap.size = B at *
  replace hB := Rg.hid hB
  go_upto_region 5 with (go_at_call 10; refine (HW.out _ bw k0).mono ?_; rintro e w2 ⟨rfl, b2, k2⟩)
  go_upto_region 6 with (go_at_call 12; refine (HR.out _).mono ?_; rintro e w3 ⟨rfl, b3⟩)
  have bs2 : B ≤ w2.heap.size := by rw [← hB.out] at b2 ⊢; exact b2.size
  have b3' : Below B w w3 := b2.trans (b3.mono bs2)
  have bs3 : B ≤ w3.heap.size := Nat.le_trans bs2 b3.size
  have b4 := b3'.alloc bs3 (.cells #[.int .i64 t, .string d] 23)
  have k4 : Rg.Bk B [.int .i64 t, .string d] 23 (w3.alloc (.cells #[.int .i64 t, .string d] 23)) := (k2.below b3 k2.lt).old _
  have kq : Rg.Bk w3.heap.size [.int .i64 t, .string d] 23 (w3.alloc (.cells #[.int .i64 t, .string d] 23)) := Rg.Bk.new rfl
  have bs4 : B ≤ (w3.alloc (.cells #[.int .i64 t, .string d] 23)).heap.size := by rw [If.alloc_size]; omega
  generalize w3.alloc _ = W4 at *
  generalize w3.heap.size = B2 at *
  clear c0 c1 b3 b3'
  go_upto_region 8 with (go_at_call 12; refine (HC.out _).mono ?_; rintro e w5 ⟨rfl, b5⟩)
  have b5' : Below B w w5 := b4.trans (b5.mono bs4)
  have bs5 : B ≤ w5.heap.size := Nat.le_trans bs4 b5.size
  have b6 := b5'.alloc bs5 (.cells #[.int .i64 0, .string ⟨#[]⟩] 23)
  have k6 : Rg.Bk B [.int .i64 t, .string d] 23 (w5.alloc (.cells #[.int .i64 0, .string ⟨#[]⟩] 23)) := (k4.below b5 k4.lt).old _
  have kq6 : Rg.Bk B2 [.int .i64 t, .string d] 23 (w5.alloc (.cells #[.int .i64 0, .string ⟨#[]⟩] 23)) := (kq.below b5 kq.lt).old _
  have c0 := k6.cell 0; have c1 := k6.cell 1; have c2 := kq6.cell 0; have c3 := kq6.cell 1; simp only [List.getElem?_cons_zero, List.getElem?_cons_succ] at c0 c1 c2 c3
  have bs6 : B ≤ (w5.alloc (.cells #[.int .i64 0, .string ⟨#[]⟩] 23)).heap.size := by rw [If.alloc_size]; omega
  generalize w5.alloc _ = W9 at *
  generalize w5.heap.size = B3 at *
  clear b5 b5' b4 k4 kq
  go_upto_region 10 with fail
  clear c0 c1 c2 c3
  have b9 := b6
  have bs9 : B ≤ W9.heap.size := bs6
  go_upto_region 12 with (go_at_call 12; refine (HS.out _).mono ?_; rintro e w7 ⟨rfl, b7⟩)
  have b7' : Below B w w7 := b9.trans (b7.mono bs9)
  have bs7 : B ≤ w7.heap.size := Nat.le_trans bs9 b7.size
  have bX := b7'.alloc bs7 (.cells #[.int .i64 t2, .string d2] 23)
  have kX : Rg.Bk w7.heap.size [.int .i64 t2, .string d2] 23 (w7.alloc (.cells #[.int .i64 t2, .string d2] 23)) := Rg.Bk.new rfl
  have x0 := kX.cell 0; have x1 := kX.cell 1; simp only [List.getElem?_cons_zero, List.getElem?_cons_succ] at x0 x1
  have bsX : B ≤ (w7.alloc (.cells #[.int .i64 t2, .string d2] 23)).heap.size := by rw [If.alloc_size]; omega
  generalize w7.alloc _ = WX at *
  generalize w7.heap.size = BX at *
  clear b7 b7'
  go_wp2_with (first
    | (go_at_call 10; refine (HV.out _).mono ?_; rintro e wY ⟨rfl, bY⟩; have bY' : Below B w wY := bX.trans (bY.mono bsX))
    | (go_at_call 9; refine (HA.out _ bY').mono ?_; rintro e wA ⟨rfl, bA⟩))
  go_ret
  exact ⟨rfl, by rw [hB.out]; exact bA⟩
set_option linter.unusedVariables false in
set_option maxHeartbeats 4000000 in
set_option maxRecDepth 100000 in
theorem pback_10 (t : Int) (d s : ByteArray) (p : Int) (w : World) (HA : Hid (∀ W, Below w.heap.size w W → Calls Tryd.prog 9 #[] W fun e w' => e = .returned (.bool true) ∧ Below w.heap.size w w'))
    (q1 : decide ((5000 : Int) < (d.size : Int)) = false) (q2 : decide ((9000 : Int) < (s.size : Int)) = false)
    (X : ByteArray) (hX : X.size ≤ 5000) (hm2 : s.size ≤ 9000) (U K : Nat) (u1 : IntKind.u64.wrap p = (U : Int)) (u2 : IntKind.u64.wrap (X.size : Int) = (X.size : Int)) (u3 : (U : Int) % (X.size : Int) = (K : Int)) (u3' : (U : Int).tmod (X.size : Int) = (K : Int)) (u4 : K ≤ X.size) (u5 : (K : Int) ≤ (X.size : Int)) (u8 : ¬ X.size = 0)
    (HW : Hid (∀ W, Below w.heap.size w W → Rg.Bk w.heap.size [.int .i64 t, .string d] 23 W → Calls Tryd.prog 10 #[.agg #[.int .i64 t, .string d]] W fun e w' => e = .returned (.tuple #[.string X, .int .i64 0]) ∧ Below w.heap.size w w' ∧ Rg.Bk w.heap.size [.int .i64 t, .string d] 23 w'))
    (HR : Hid (∀ W, Calls Tryd.prog 12 #[.string (X ++ s)] W fun e w' => e = .returned (.tuple #[.agg #[.int .i64 t, .string d], .int .i64 X.size, .int .i64 0]) ∧ Below W.heap.size W w'))
    (HC : Hid (∀ W, Calls Tryd.prog 12 #[.string (X.extract 0 K)] W fun e w' => e = .returned (.tuple #[.agg #[.int .i64 0, .string ⟨#[]⟩], .int .i64 0, .int .i64 2]) ∧ Below W.heap.size W w'))
    (G : Nat) (hG : ((G : Int) == 0) = false)
    (HS : Hid (∀ W, Calls Tryd.prog 12 #[.string s] W fun e w' => e = .returned (.tuple #[.agg #[.int .i64 0, .string ⟨#[]⟩], .int .i64 0, .int .i64 G]) ∧ Below W.heap.size W w')) :
    Calls Tryd.prog 7 #[.agg #[.int .i64 t, .string d], .string s, .int .i64 p] w fun e w' => e = .returned (.bool true) ∧ Below w.heap.size w w' := by
  have bw := If.below1 w (.cells #[.int .i64 t, .string d] 23)
  have k0 : Rg.Bk w.heap.size [.int .i64 t, .string d] 23 (w.alloc (.cells #[.int .i64 t, .string d] 23)) := Rg.Bk.new rfl
  go_enter Tryd.func7, Tryd.ntmps7
  go_upto_region 3 with fail
  have c0 := k0.cell 0; have c1 := k0.cell 1; simp only [List.getElem?_cons_zero, List.getElem?_cons_succ] at c0 c1
  generalize w.alloc (.cells #[.int .i64 t, .string d] 23) = W at *
  generalize hB : w.heap.size = B at *
  replace hB := Rg.hid hB
  go_upto_region 5 with (go_at_call 10; refine (HW.out _ bw k0).mono ?_; rintro e w2 ⟨rfl, b2, k2⟩)
  go_upto_region 6 with (go_at_call 12; refine (HR.out _).mono ?_; rintro e w3 ⟨rfl, b3⟩)
  have bs2 : B ≤ w2.heap.size := by rw [← hB.out] at b2 ⊢; exact b2.size
  have b3' : Below B w w3 := b2.trans (b3.mono bs2)
  have bs3 : B ≤ w3.heap.size := Nat.le_trans bs2 b3.size
  have b4 := b3'.alloc bs3 (.cells #[.int .i64 t, .string d] 23)
  have k4 : Rg.Bk B [.int .i64 t, .string d] 23 (w3.alloc (.cells #[.int .i64 t, .string d] 23)) := (k2.below b3 k2.lt).old _
  have kq : Rg.Bk w3.heap.size [.int .i64 t, .string d] 23 (w3.alloc (.cells #[.int .i64 t, .string d] 23)) := Rg.Bk.new rfl
  have bs4 : B ≤ (w3.alloc (.cells #[.int .i64 t, .string d] 23)).heap.size := by rw [If.alloc_size]; omega
  generalize w3.alloc _ = W4 at *
  generalize w3.heap.size = B2 at *
  clear c0 c1 b3 b3'
  go_upto_region 8 with (go_at_call 12; refine (HC.out _).mono ?_; rintro e w5 ⟨rfl, b5⟩)
  have b5' : Below B w w5 := b4.trans (b5.mono bs4)
  have bs5 : B ≤ w5.heap.size := Nat.le_trans bs4 b5.size
  have b6 := b5'.alloc bs5 (.cells #[.int .i64 0, .string ⟨#[]⟩] 23)
  have k6 : Rg.Bk B [.int .i64 t, .string d] 23 (w5.alloc (.cells #[.int .i64 0, .string ⟨#[]⟩] 23)) := (k4.below b5 k4.lt).old _
  have kq6 : Rg.Bk B2 [.int .i64 t, .string d] 23 (w5.alloc (.cells #[.int .i64 0, .string ⟨#[]⟩] 23)) := (kq.below b5 kq.lt).old _
  have c0 := k6.cell 0; have c1 := k6.cell 1; have c2 := kq6.cell 0; have c3 := kq6.cell 1; simp only [List.getElem?_cons_zero, List.getElem?_cons_succ] at c0 c1 c2 c3
  have bs6 : B ≤ (w5.alloc (.cells #[.int .i64 0, .string ⟨#[]⟩] 23)).heap.size := by rw [If.alloc_size]; omega
  generalize w5.alloc _ = W9 at *
  generalize w5.heap.size = B3 at *
  clear b5 b5' b4 k4 kq
  go_upto_region 10 with fail
  clear c0 c1 c2 c3
  have b9 := b6
  have bs9 : B ≤ W9.heap.size := bs6
  go_upto_region 11 with (go_at_call 12; refine (HS.out _).mono ?_; rintro e w7 ⟨rfl, b7⟩)
  have b7' : Below B w w7 := b9.trans (b7.mono bs9)
  have bs7 : B ≤ w7.heap.size := Nat.le_trans bs9 b7.size
  have bX := b7'.alloc bs7 (.cells #[.int .i64 0, .string ⟨#[]⟩] 23)
  generalize w7.alloc _ = WX at *
  go_wp2_with (go_at_call 9; refine (HA.out _ bX).mono ?_; rintro e wA ⟨rfl, bA⟩)
  go_ret
  exact ⟨rfl, by rw [hB.out]; exact bA⟩
set_option linter.unusedVariables false in
set_option maxHeartbeats 4000000 in
set_option maxRecDepth 100000 in
theorem pback_01 (t : Int) (d s : ByteArray) (p : Int) (w : World) (HA : Hid (∀ W, Below w.heap.size w W → Calls Tryd.prog 9 #[] W fun e w' => e = .returned (.bool true) ∧ Below w.heap.size w w'))
    (q1 : decide ((5000 : Int) < (d.size : Int)) = false) (q2 : decide ((9000 : Int) < (s.size : Int)) = false)
    (X : ByteArray) (E : Nat) (hE : ((E : Int) == 0) = false)
    (HW : Hid (∀ W, Below w.heap.size w W → Rg.Bk w.heap.size [.int .i64 t, .string d] 23 W → Calls Tryd.prog 10 #[.agg #[.int .i64 t, .string d]] W fun e w' => e = .returned (.tuple #[.string X, .int .i64 (E : Int)]) ∧ Below w.heap.size w w' ∧ Rg.Bk w.heap.size [.int .i64 t, .string d] 23 w'))
    (t2 : Int) (d2 Y : ByteArray) (N : Nat) (n1 : decide ((N : Int) < 5) = false) (n3 : (Y.toList == (s.extract 0 N).toList) = true) (n4 : N ≤ s.size) (n5 : (N : Int) ≤ (s.size : Int))
    (HS : Hid (∀ W, Calls Tryd.prog 12 #[.string s] W fun e w' => e = .returned (.tuple #[.agg #[.int .i64 t2, .string d2], .int .i64 N, .int .i64 0]) ∧ Below W.heap.size W w'))
    (HV : Hid (∀ W, Calls Tryd.prog 10 #[.agg #[.int .i64 t2, .string d2]] W fun e w' => e = .returned (.tuple #[.string Y, .int .i64 0]) ∧ Below W.heap.size W w')) :
    Calls Tryd.prog 7 #[.agg #[.int .i64 t, .string d], .string s, .int .i64 p] w fun e w' => e = .returned (.bool true) ∧ Below w.heap.size w w' := by
  have bw := If.below1 w (.cells #[.int .i64 t, .string d] 23)
  have k0 : Rg.Bk w.heap.size [.int .i64 t, .string d] 23 (w.alloc (.cells #[.int .i64 t, .string d] 23)) := Rg.Bk.new rfl
  go_enter Tryd.func7, Tryd.ntmps7
  go_upto_region 3 with fail
  have c0 := k0.cell 0; have c1 := k0.cell 1; simp only [List.getElem?_cons_zero, List.getElem?_cons_succ] at c0 c1
  generalize w.alloc (.cells #[.int .i64 t, .string d] 23) = W at *
  generalize hB : w.heap.size = B at *
  replace hB := Rg.hid hB
  go_upto_region 10 with (go_at_call 10; refine (HW.out _ bw k0).mono ?_; rintro e w2 ⟨rfl, b2, k2⟩)
  clear c0 c1
  have b9 := b2
  generalize w2 = W9 at *
  have bs9 : B ≤ W9.heap.size := by rw [← hB.out] at b9 ⊢; exact b9.size
  go_upto_region 12 with (go_at_call 12; refine (HS.out _).mono ?_; rintro e w7 ⟨rfl, b7⟩)
  have b7' : Below B w w7 := b9.trans (b7.mono bs9)
  have bs7 : B ≤ w7.heap.size := Nat.le_trans bs9 b7.size
  have bX := b7'.alloc bs7 (.cells #[.int .i64 t2, .string d2] 23)
  have kX : Rg.Bk w7.heap.size [.int .i64 t2, .string d2] 23 (w7.alloc (.cells #[.int .i64 t2, .string d2] 23)) := Rg.Bk.new rfl
  have x0 := kX.cell 0; have x1 := kX.cell 1; simp only [List.getElem?_cons_zero, List.getElem?_cons_succ] at x0 x1
  have bsX : B ≤ (w7.alloc (.cells #[.int .i64 t2, .string d2] 23)).heap.size := by rw [If.alloc_size]; omega
  generalize w7.alloc _ = WX at *
  generalize w7.heap.size = BX at *
  clear b7 b7'
  go_wp2_with (first
    | (go_at_call 10; refine (HV.out _).mono ?_; rintro e wY ⟨rfl, bY⟩; have bY' : Below B w wY := bX.trans (bY.mono bsX))
    | (go_at_call 9; refine (HA.out _ bY').mono ?_; rintro e wA ⟨rfl, bA⟩))
  go_ret
  exact ⟨rfl, by rw [hB.out]; exact bA⟩
set_option linter.unusedVariables false in
set_option maxHeartbeats 4000000 in
set_option maxRecDepth 100000 in
theorem pback_00 (t : Int) (d s : ByteArray) (p : Int) (w : World) (HA : Hid (∀ W, Below w.heap.size w W → Calls Tryd.prog 9 #[] W fun e w' => e = .returned (.bool true) ∧ Below w.heap.size w w'))
    (q1 : decide ((5000 : Int) < (d.size : Int)) = false) (q2 : decide ((9000 : Int) < (s.size : Int)) = false)
    (X : ByteArray) (E : Nat) (hE : ((E : Int) == 0) = false)
    (HW : Hid (∀ W, Below w.heap.size w W → Rg.Bk w.heap.size [.int .i64 t, .string d] 23 W → Calls Tryd.prog 10 #[.agg #[.int .i64 t, .string d]] W fun e w' => e = .returned (.tuple #[.string X, .int .i64 (E : Int)]) ∧ Below w.heap.size w w' ∧ Rg.Bk w.heap.size [.int .i64 t, .string d] 23 w'))
    (G : Nat) (hG : ((G : Int) == 0) = false)
    (HS : Hid (∀ W, Calls Tryd.prog 12 #[.string s] W fun e w' => e = .returned (.tuple #[.agg #[.int .i64 0, .string ⟨#[]⟩], .int .i64 0, .int .i64 G]) ∧ Below W.heap.size W w')) :
    Calls Tryd.prog 7 #[.agg #[.int .i64 t, .string d], .string s, .int .i64 p] w fun e w' => e = .returned (.bool true) ∧ Below w.heap.size w w' := by
  have bw := If.below1 w (.cells #[.int .i64 t, .string d] 23)
  have k0 : Rg.Bk w.heap.size [.int .i64 t, .string d] 23 (w.alloc (.cells #[.int .i64 t, .string d] 23)) := Rg.Bk.new rfl
  go_enter Tryd.func7, Tryd.ntmps7
  go_upto_region 3 with fail
  have c0 := k0.cell 0; have c1 := k0.cell 1; simp only [List.getElem?_cons_zero, List.getElem?_cons_succ] at c0 c1
  generalize w.alloc (.cells #[.int .i64 t, .string d] 23) = W at *
  generalize hB : w.heap.size = B at *
  replace hB := Rg.hid hB
  go_upto_region 10 with (go_at_call 10; refine (HW.out _ bw k0).mono ?_; rintro e w2 ⟨rfl, b2, k2⟩)
  clear c0 c1
  have b9 := b2
  generalize w2 = W9 at *
  have bs9 : B ≤ W9.heap.size := by rw [← hB.out] at b9 ⊢; exact b9.size
  go_upto_region 11 with (go_at_call 12; refine (HS.out _).mono ?_; rintro e w7 ⟨rfl, b7⟩)
  have b7' : Below B w w7 := b9.trans (b7.mono bs9)
  have bs7 : B ≤ w7.heap.size := Nat.le_trans bs9 b7.size
  have bX := b7'.alloc bs7 (.cells #[.int .i64 0, .string ⟨#[]⟩] 23)
  generalize w7.alloc _ = WX at *
  go_wp2_with (go_at_call 9; refine (HA.out _ bX).mono ?_; rintro e wA ⟨rfl, bA⟩)
  go_ret
  exact ⟨rfl, by rw [hB.out]; exact bA⟩
namespace Pa
theorem read_err {s : List UInt8} {e : Nat} (h : read s = .error e) : ¬ e = 0 := by
  cases s with
  | nil => cases h; omega
  | cons c r =>
    rw [read_cons] at h
    split at h
    · cases hz : sz 4 0 r with
      | error x => rw [hz] at h; cases h; exact sz_err hz
      | ok x =>
        rw [hz] at h
        unfold readBody at h
        dsimp only at h
        split at h
        · cases h; omega
        · cases h
    · cases h; omega
theorem text_size {p : Pc} (h : ok p) : (⟨(text p).toArray⟩ : ByteArray).size ≤ 4101 ∧ 5 ≤ (⟨(text p).toArray⟩ : ByteArray).size := by
  have h2 := h.2
  rw [If.size_of, text_len]
  omega
end Pa
theorem pwrite_ok {t : Int} {d : ByteArray} (h : Pa.ok ⟨t, d.data.toList⟩) (W : World) :
    Calls Tryd.prog 10 #[.agg #[.int .i64 t, .string d]] W fun e w' => e = .returned (.tuple #[.string (⟨(Pa.text ⟨t, d.data.toList⟩).toArray⟩ : ByteArray), .int .i64 0]) ∧ Below W.heap.size W w' := by
  have := pwrite_any t d W
  rw [Pa.wr_ok h] at this
  exact this
theorem pwrite_not {t : Int} {d : ByteArray} (h : ¬ Pa.ok ⟨t, d.data.toList⟩) :
    ∃ F : Nat, ((F : Int) == 0) = false ∧ ∀ W : World, Calls Tryd.prog 10 #[.agg #[.int .i64 t, .string d]] W fun e w' => e = .returned (.tuple #[.string ⟨#[]⟩, .int .i64 (F : Int)]) ∧ Below W.heap.size W w' := by
  obtain ⟨e1, e2⟩ := Pa.wr_no h
  refine ⟨(Pa.wr ⟨t, d.data.toList⟩).2, by rcases e2 with e2 | e2 <;> rw [e2] <;> rfl, fun W => ?_⟩
  have := pwrite_any t d W
  rw [e1] at this
  exact this
theorem pback_walk (t : Int) (d : ByteArray) (_hd : d.size ≤ maxLen) (s : ByteArray) (hs : s.size ≤ maxLen) (p : Int) (_h0 : -9223372036854775808 ≤ p) (_h1 : p ≤ 9223372036854775807) (w : World) (htab : Lib.TabIs Tryd.prog w "internal/strconv.uint64pow10" .u64 Lib.pow10Tab) :
    Calls Tryd.prog 7 #[.agg #[.int .i64 t, .string d], .string s, .int .i64 p] w fun e w' => e = .returned (.bool true) ∧ Below w.heap.size w w' := by
  have HA := awakeF w htab
  by_cases q1 : 5000 < d.size
  · exact pback_big1 t d s p w (by simp; omega) HA
  have q1' : decide ((5000 : Int) < (d.size : Int)) = false := by simp; omega
  by_cases q2 : 9000 < s.size
  · exact pback_big2 t d s p w q1' (by simp; omega) HA
  have q2' : decide ((9000 : Int) < (s.size : Int)) = false := by simp; omega
  have hm2 : s.size ≤ 9000 := by omega
  have HS := fun W => pread_any s hs W
  by_cases hk : Pa.ok ⟨t, d.data.toList⟩
  · obtain ⟨hX, hX5⟩ := Pa.text_size hk
    have HW := keepF (C := [.int .i64 t, .string d]) (ty := 23) w (fun W => pwrite_ok hk W)
    have HR : Hid (∀ W, Calls Tryd.prog 12 #[.string ((⟨(Pa.text ⟨t, d.data.toList⟩).toArray⟩ : ByteArray) ++ s)] W fun e w' => e = .returned (.tuple #[.agg #[.int .i64 t, .string d], .int .i64 (⟨(Pa.text ⟨t, d.data.toList⟩).toArray⟩ : ByteArray).size, .int .i64 0]) ∧ Below W.heap.size W w') := fun W => by
      have h := pread_any ((⟨(Pa.text ⟨t, d.data.toList⟩).toArray⟩ : ByteArray) ++ s) (by rw [If.app_size]; unfold maxLen; omega) W
      rw [If.app_toList, Pa.read_text hk, ← If.size_of] at h
      exact h
    obtain ⟨U, hU⟩ : ∃ U : Nat, IntKind.u64.wrap p = (U : Int) := ⟨(IntKind.u64.wrap p).toNat, by rw [IntKind.wrap_u64]; omega⟩
    have hKl := Nat.mod_lt U (show 0 < (⟨(Pa.text ⟨t, d.data.toList⟩).toArray⟩ : ByteArray).size by omega)
    have HC : Hid (∀ W, Calls Tryd.prog 12 #[.string ((⟨(Pa.text ⟨t, d.data.toList⟩).toArray⟩ : ByteArray).extract 0 (U % (⟨(Pa.text ⟨t, d.data.toList⟩).toArray⟩ : ByteArray).size))] W fun e w' => e = .returned (.tuple #[.agg #[.int .i64 0, .string ⟨#[]⟩], .int .i64 0, .int .i64 2]) ∧ Below W.heap.size W w') := fun W => by
      have e := If.extract_eq (⟨(Pa.text ⟨t, d.data.toList⟩).toArray⟩ : ByteArray) 0 (U % (⟨(Pa.text ⟨t, d.data.toList⟩).toArray⟩ : ByteArray).size) (Nat.zero_le _) (by omega)
      have hr := pread_any ((⟨(Pa.text ⟨t, d.data.toList⟩).toArray⟩ : ByteArray).extract 0 (U % (⟨(Pa.text ⟨t, d.data.toList⟩).toArray⟩ : ByteArray).size)) (by rw [← If.len_eq, e, List.length_take]; unfold maxLen; omega) W
      rw [e] at hr
      have hc := Pa.read_cut hk (k := U % (⟨(Pa.text ⟨t, d.data.toList⟩).toArray⟩ : ByteArray).size) (by rw [← If.size_of]; exact hKl)
      have e2 : (List.drop 0 (⟨(Pa.text ⟨t, d.data.toList⟩).toArray⟩ : ByteArray).data.toList).take (U % (⟨(Pa.text ⟨t, d.data.toList⟩).toArray⟩ : ByteArray).size - 0) = (Pa.text ⟨t, d.data.toList⟩).take (U % (⟨(Pa.text ⟨t, d.data.toList⟩).toArray⟩ : ByteArray).size) := rfl
      rw [e2, hc] at hr
      exact hr
    generalize (⟨(Pa.text ⟨t, d.data.toList⟩).toArray⟩ : ByteArray) = X at *
    cases hr : Pa.read s.data.toList with
    | ok g =>
      rw [hr] at HS
      obtain ⟨g, m⟩ := g
      obtain ⟨hg, h6, hn, htx⟩ := Pa.text_read hr
      rw [If.len_eq] at hn
      obtain ⟨t2, d2⟩ := g
      have HV := fun W => pwrite_ok (d := ⟨d2.toArray⟩) hg W
      have n3 : ((⟨(Pa.text ⟨t2, d2⟩).toArray⟩ : ByteArray).toList == (s.extract 0 m).toList) = true := by
        rw [tl_eq, tl_eq, If.extract_eq s 0 m (by omega) hn]
        exact beq_iff_eq.2 htx
      exact pback_11 t d s p w HA q1' q2' X (by omega) hm2 U (U % X.size) hU (by rw [IntKind.wrap_u64]; omega) (by rw [Int.natCast_emod]) (by rw [Int.tmod_eq_emod_of_nonneg (by omega), Int.natCast_emod]) (by omega) (by omega) (by omega) HW HR HC t2 ⟨d2.toArray⟩ _ m (by simp; omega) n3 hn (by omega) HS HV
    | error e =>
      rw [hr] at HS
      have he : ((e : Int) == 0) = false := beq_eq_false_iff_ne.2 (by have := Pa.read_err hr; omega)
      exact pback_10 t d s p w HA q1' q2' X (by omega) hm2 U (U % X.size) hU (by rw [IntKind.wrap_u64]; omega) (by rw [Int.natCast_emod]) (by rw [Int.tmod_eq_emod_of_nonneg (by omega), Int.natCast_emod]) (by omega) (by omega) (by omega) HW HR HC e he HS
  · obtain ⟨F, hF, HW0⟩ := pwrite_not hk
    have HW := keepF (C := [.int .i64 t, .string d]) (ty := 23) w HW0
    cases hr : Pa.read s.data.toList with
    | ok g =>
      rw [hr] at HS
      obtain ⟨g, m⟩ := g
      obtain ⟨hg, h6, hn, htx⟩ := Pa.text_read hr
      rw [If.len_eq] at hn
      obtain ⟨t2, d2⟩ := g
      have HV := fun W => pwrite_ok (d := ⟨d2.toArray⟩) hg W
      have n3 : ((⟨(Pa.text ⟨t2, d2⟩).toArray⟩ : ByteArray).toList == (s.extract 0 m).toList) = true := by
        rw [tl_eq, tl_eq, If.extract_eq s 0 m (by omega) hn]
        exact beq_iff_eq.2 htx
      exact pback_01 t d s p w HA q1' q2' _ F hF HW t2 ⟨d2.toArray⟩ _ m (by simp; omega) n3 hn (by omega) HS HV
    | error e =>
      rw [hr] at HS
      have he : ((e : Int) == 0) = false := beq_eq_false_iff_ne.2 (by have := Pa.read_err hr; omega)
      exact pback_00 t d s p w HA q1' q2' _ F hF HW e he HS
end Go.Proofs.YteiajngfeiemkaaDoor
