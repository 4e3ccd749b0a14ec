/-
  Walks of the laws of layer 12: the document's Write.
-/
import Derived.Test.YtomldoijcclhhaaGreatSkAW
namespace Go.Proofs.YtomldoijcclhhaaGreat
open Go.RowKit
set_option linter.unusedVariables false in
set_option maxHeartbeats 4000000 in
set_option maxRecDepth 100000 in
theorem rwrite_no0 (k n a c : Int) (b : Bool) (d : ByteArray) (w : World) (HK : Hid (∀ W, Calls Tryz.prog 139 #[.int .i64 k] W fun e w' => e = .returned (.bool false) ∧ w' = W))  :
    Calls Tryz.prog 111 #[.agg #[.int .i64 k, .int .i64 n, .int .i64 a, .int .i64 c, .bool b, .string d]] w fun e w' => e = .returned (.tuple #[.string ⟨#[]⟩, .int .i64 1]) ∧ Below w.heap.size w w' := by
  have bw := If.below1 w (.cells #[.int .i64 k, .int .i64 n, .int .i64 a, .int .i64 c, .bool b, .string d] 55)
  go_enter Tryz.func111, Tryz.ntmps111
  go_wp2_with (go_at_call 139; refine (HK.out _).mono ?_; rintro e w2 ⟨rfl, rfl⟩)
  go_ret2
  exact ⟨rfl, bw⟩
set_option linter.unusedVariables false in
set_option maxHeartbeats 4000000 in
set_option maxRecDepth 100000 in
theorem rwrite_no1 (k n a c : Int) (b : Bool) (d : ByteArray) (w : World) (HK : Hid (∀ W, Calls Tryz.prog 139 #[.int .i64 k] W fun e w' => e = .returned (.bool true) ∧ w' = W)) (t0 : decide (n < 0) = true) :
    Calls Tryz.prog 111 #[.agg #[.int .i64 k, .int .i64 n, .int .i64 a, .int .i64 c, .bool b, .string d]] w fun e w' => e = .returned (.tuple #[.string ⟨#[]⟩, .int .i64 1]) ∧ Below w.heap.size w w' := by
  have bw := If.below1 w (.cells #[.int .i64 k, .int .i64 n, .int .i64 a, .int .i64 c, .bool b, .string d] 55)
  go_enter Tryz.func111, Tryz.ntmps111
  go_wp2_with (go_at_call 139; refine (HK.out _).mono ?_; rintro e w2 ⟨rfl, rfl⟩)
  go_ret2
  exact ⟨rfl, bw⟩
set_option linter.unusedVariables false in
set_option maxHeartbeats 4000000 in
set_option maxRecDepth 100000 in
theorem rwrite_no2 (k n a c : Int) (b : Bool) (d : ByteArray) (w : World) (HK : Hid (∀ W, Calls Tryz.prog 139 #[.int .i64 k] W fun e w' => e = .returned (.bool true) ∧ w' = W)) (t0 : decide (n < 0) = false) (t1 : decide (31 < n) = true) :
    Calls Tryz.prog 111 #[.agg #[.int .i64 k, .int .i64 n, .int .i64 a, .int .i64 c, .bool b, .string d]] w fun e w' => e = .returned (.tuple #[.string ⟨#[]⟩, .int .i64 1]) ∧ Below w.heap.size w w' := by
  have bw := If.below1 w (.cells #[.int .i64 k, .int .i64 n, .int .i64 a, .int .i64 c, .bool b, .string d] 55)
  go_enter Tryz.func111, Tryz.ntmps111
  go_wp2_with (go_at_call 139; refine (HK.out _).mono ?_; rintro e w2 ⟨rfl, rfl⟩)
  go_ret2
  exact ⟨rfl, bw⟩
set_option linter.unusedVariables false in
set_option maxHeartbeats 4000000 in
set_option maxRecDepth 100000 in
theorem rwrite_no3 (k n a c : Int) (b : Bool) (d : ByteArray) (w : World) (HK : Hid (∀ W, Calls Tryz.prog 139 #[.int .i64 k] W fun e w' => e = .returned (.bool true) ∧ w' = W)) (t0 : decide (n < 0) = false) (t1 : decide (31 < n) = false) (t2 : decide (a < 0) = true) :
    Calls Tryz.prog 111 #[.agg #[.int .i64 k, .int .i64 n, .int .i64 a, .int .i64 c, .bool b, .string d]] w fun e w' => e = .returned (.tuple #[.string ⟨#[]⟩, .int .i64 1]) ∧ Below w.heap.size w w' := by
  have bw := If.below1 w (.cells #[.int .i64 k, .int .i64 n, .int .i64 a, .int .i64 c, .bool b, .string d] 55)
  go_enter Tryz.func111, Tryz.ntmps111
  go_wp2_with (go_at_call 139; refine (HK.out _).mono ?_; rintro e w2 ⟨rfl, rfl⟩)
  go_ret2
  exact ⟨rfl, bw⟩
set_option linter.unusedVariables false in
set_option maxHeartbeats 4000000 in
set_option maxRecDepth 100000 in
theorem rwrite_no4 (k n a c : Int) (b : Bool) (d : ByteArray) (w : World) (HK : Hid (∀ W, Calls Tryz.prog 139 #[.int .i64 k] W fun e w' => e = .returned (.bool true) ∧ w' = W)) (t0 : decide (n < 0) = false) (t1 : decide (31 < n) = false) (t2 : decide (a < 0) = false) (t3 : decide (31 < a) = true) :
    Calls Tryz.prog 111 #[.agg #[.int .i64 k, .int .i64 n, .int .i64 a, .int .i64 c, .bool b, .string d]] w fun e w' => e = .returned (.tuple #[.string ⟨#[]⟩, .int .i64 1]) ∧ Below w.heap.size w w' := by
  have bw := If.below1 w (.cells #[.int .i64 k, .int .i64 n, .int .i64 a, .int .i64 c, .bool b, .string d] 55)
  go_enter Tryz.func111, Tryz.ntmps111
  go_wp2_with (go_at_call 139; refine (HK.out _).mono ?_; rintro e w2 ⟨rfl, rfl⟩)
  go_ret2
  exact ⟨rfl, bw⟩
set_option linter.unusedVariables false in
set_option maxHeartbeats 4000000 in
set_option maxRecDepth 100000 in
theorem rwrite_no5 (k n a c : Int) (b : Bool) (d : ByteArray) (w : World) (HK : Hid (∀ W, Calls Tryz.prog 139 #[.int .i64 k] W fun e w' => e = .returned (.bool true) ∧ w' = W)) (t0 : decide (n < 0) = false) (t1 : decide (31 < n) = false) (t2 : decide (a < 0) = false) (t3 : decide (31 < a) = false) (t4 : decide (c < 0) = true) :
    Calls Tryz.prog 111 #[.agg #[.int .i64 k, .int .i64 n, .int .i64 a, .int .i64 c, .bool b, .string d]] w fun e w' => e = .returned (.tuple #[.string ⟨#[]⟩, .int .i64 1]) ∧ Below w.heap.size w w' := by
  have bw := If.below1 w (.cells #[.int .i64 k, .int .i64 n, .int .i64 a, .int .i64 c, .bool b, .string d] 55)
  go_enter Tryz.func111, Tryz.ntmps111
  go_wp2_with (go_at_call 139; refine (HK.out _).mono ?_; rintro e w2 ⟨rfl, rfl⟩)
  go_ret2
  exact ⟨rfl, bw⟩
set_option linter.unusedVariables false in
set_option maxHeartbeats 4000000 in
set_option maxRecDepth 100000 in
theorem rwrite_no6 (k n a c : Int) (b : Bool) (d : ByteArray) (w : World) (HK : Hid (∀ W, Calls Tryz.prog 139 #[.int .i64 k] W fun e w' => e = .returned (.bool true) ∧ w' = W)) (t0 : decide (n < 0) = false) (t1 : decide (31 < n) = false) (t2 : decide (a < 0) = false) (t3 : decide (31 < a) = false) (t4 : decide (c < 0) = false) (t5 : decide (7 < c) = true) :
    Calls Tryz.prog 111 #[.agg #[.int .i64 k, .int .i64 n, .int .i64 a, .int .i64 c, .bool b, .string d]] w fun e w' => e = .returned (.tuple #[.string ⟨#[]⟩, .int .i64 1]) ∧ Below w.heap.size w w' := by
  have bw := If.below1 w (.cells #[.int .i64 k, .int .i64 n, .int .i64 a, .int .i64 c, .bool b, .string d] 55)
  go_enter Tryz.func111, Tryz.ntmps111
  go_wp2_with (go_at_call 139; refine (HK.out _).mono ?_; rintro e w2 ⟨rfl, rfl⟩)
  go_ret2
  exact ⟨rfl, bw⟩
set_option linter.unusedVariables false in
set_option maxHeartbeats 4000000 in
set_option maxRecDepth 100000 in
theorem rwrite_long (k n a c : Int) (b : Bool) (d : ByteArray) (w : World) (HK : Hid (∀ W, Calls Tryz.prog 139 #[.int .i64 k] W fun e w' => e = .returned (.bool true) ∧ w' = W)) (t0 : decide (n < 0) = false) (t1 : decide (31 < n) = false) (t2 : decide (a < 0) = false) (t3 : decide (31 < a) = false) (t4 : decide (c < 0) = false) (t5 : decide (7 < c) = false) (hl : decide ((4096 : Int) ≤ (d.size : Int)) = true) :
    Calls Tryz.prog 111 #[.agg #[.int .i64 k, .int .i64 n, .int .i64 a, .int .i64 c, .bool b, .string d]] w fun e w' => e = .returned (.tuple #[.string ⟨#[]⟩, .int .i64 5]) ∧ Below w.heap.size w w' := by
  have bw := If.below1 w (.cells #[.int .i64 k, .int .i64 n, .int .i64 a, .int .i64 c, .bool b, .string d] 55)
  go_enter Tryz.func111, Tryz.ntmps111
  go_wp2_with (go_at_call 139; refine (HK.out _).mono ?_; rintro e w2 ⟨rfl, rfl⟩)
  go_ret2
  exact ⟨rfl, bw⟩
set_option linter.unusedVariables false in
set_option maxHeartbeats 4000000 in
set_option maxRecDepth 100000 in
theorem rwrite_bare_true (k n a c A B C1 C D X1 X2 X Z cb : Nat) (w : World) (hk : k < 8) (hn : n < 32) (ha : a < 32) (hc : c < 8) (HK : Hid (∀ W, Calls Tryz.prog 139 #[.int .i64 k] W fun e w' => e = .returned (.bool true) ∧ w' = W)) (t0 : decide ((n : Int) < 0) = false) (t1 : decide (31 < (n : Int)) = false) (t2 : decide ((a : Int) < 0) = false) (t3 : decide (31 < (a : Int)) = false) (t4 : decide ((c : Int) < 0) = false) (t5 : decide (7 < (c : Int)) = false) (hl : decide ((4096 : Int) ≤ (0 : Int)) = false) (hds : 0 < 4096)
    (oA : bits .or .i64 ((n : Int) * 8) (c : Int) = (A : Int)) (oB : bits .or .i64 ((a : Int) * 8) (c : Int) = (B : Int)) (sZ : (0 : Int) / 256 = (Z : Int)) (hcb : true = true → bits .or .i64 ((k : Int) * 32) 16 = (C1 : Int)) (hcn : true = false → bits .or .i64 ((k : Int) * 32) 0 = (C1 : Int)) (oC : bits .or .i64 (C1 : Int) (Z : Int) = (C : Int)) (oD : bits .and .i64 (0 : Int) 255 = (D : Int))
    (x1 : bits .xor .i64 (A : Int) (B : Int) = (X1 : Int)) (x2 : bits .xor .i64 (X1 : Int) (C : Int) = (X2 : Int)) (x3 : bits .xor .i64 (X2 : Int) (D : Int) = (X : Int))
    (uA : IntKind.u8.wrap (A : Int) = (A : Int)) (uB : IntKind.u8.wrap (B : Int) = (B : Int)) (uC : IntKind.u8.wrap (C : Int) = (C : Int)) (uD : IntKind.u8.wrap (D : Int) = (D : Int)) (uX : IntKind.u8.wrap (X : Int) = (X : Int))
    (H : ByteArray) (hH : H.size ≤ 6) (cv : (convert 65 9 (.slice (some ⟨w.heap.size + 1, 0, none⟩) 6 6)).run Tryz.prog ((w.alloc (.cells #[.int .i64 k, .int .i64 n, .int .i64 a, .int .i64 c, .bool true, .string ⟨#[]⟩] 55)).alloc (.cells #[.int .u8 7, .int .u8 A, .int .u8 B, .int .u8 C, .int .u8 D, .int .u8 X] 5)) = .ok (.string H) ((w.alloc (.cells #[.int .i64 k, .int .i64 n, .int .i64 a, .int .i64 c, .bool true, .string ⟨#[]⟩] 55)).alloc (.cells #[.int .u8 7, .int .u8 A, .int .u8 B, .int .u8 C, .int .u8 D, .int .u8 X] 5))) :
    Calls Tryz.prog 111 #[.agg #[.int .i64 k, .int .i64 n, .int .i64 a, .int .i64 c, .bool true, .string ⟨#[]⟩]] w fun e w' => e = .returned (.tuple #[.string H, .int .i64 0]) ∧ Below w.heap.size w w' := by
  have bw := If.more (If.below1 w (.cells #[.int .i64 k, .int .i64 n, .int .i64 a, .int .i64 c, .bool true, .string ⟨#[]⟩] 55)) (.cells #[.int .u8 7, .int .u8 A, .int .u8 B, .int .u8 C, .int .u8 D, .int .u8 X] 5)
  have hcb := hcb rfl
  clear hcn
  go_enter Tryz.func111, Tryz.ntmps111
  go_wp2_with (go_at_call 139; refine (HK.out _).mono ?_; rintro e w2 ⟨rfl, rfl⟩)
  go_ret2
  exact ⟨rfl, bw⟩
set_option linter.unusedVariables false in
set_option maxHeartbeats 4000000 in
set_option maxRecDepth 100000 in
theorem rwrite_bare_false (k n a c A B C1 C D X1 X2 X Z cb : Nat) (w : World) (hk : k < 8) (hn : n < 32) (ha : a < 32) (hc : c < 8) (HK : Hid (∀ W, Calls Tryz.prog 139 #[.int .i64 k] W fun e w' => e = .returned (.bool true) ∧ w' = W)) (t0 : decide ((n : Int) < 0) = false) (t1 : decide (31 < (n : Int)) = false) (t2 : decide ((a : Int) < 0) = false) (t3 : decide (31 < (a : Int)) = false) (t4 : decide ((c : Int) < 0) = false) (t5 : decide (7 < (c : Int)) = false) (hl : decide ((4096 : Int) ≤ (0 : Int)) = false) (hds : 0 < 4096)
    (oA : bits .or .i64 ((n : Int) * 8) (c : Int) = (A : Int)) (oB : bits .or .i64 ((a : Int) * 8) (c : Int) = (B : Int)) (sZ : (0 : Int) / 256 = (Z : Int)) (hcb : false = true → bits .or .i64 ((k : Int) * 32) 16 = (C1 : Int)) (hcn : false = false → bits .or .i64 ((k : Int) * 32) 0 = (C1 : Int)) (oC : bits .or .i64 (C1 : Int) (Z : Int) = (C : Int)) (oD : bits .and .i64 (0 : Int) 255 = (D : Int))
    (x1 : bits .xor .i64 (A : Int) (B : Int) = (X1 : Int)) (x2 : bits .xor .i64 (X1 : Int) (C : Int) = (X2 : Int)) (x3 : bits .xor .i64 (X2 : Int) (D : Int) = (X : Int))
    (uA : IntKind.u8.wrap (A : Int) = (A : Int)) (uB : IntKind.u8.wrap (B : Int) = (B : Int)) (uC : IntKind.u8.wrap (C : Int) = (C : Int)) (uD : IntKind.u8.wrap (D : Int) = (D : Int)) (uX : IntKind.u8.wrap (X : Int) = (X : Int))
    (H : ByteArray) (hH : H.size ≤ 6) (cv : (convert 65 9 (.slice (some ⟨w.heap.size + 1, 0, none⟩) 6 6)).run Tryz.prog ((w.alloc (.cells #[.int .i64 k, .int .i64 n, .int .i64 a, .int .i64 c, .bool false, .string ⟨#[]⟩] 55)).alloc (.cells #[.int .u8 7, .int .u8 A, .int .u8 B, .int .u8 C, .int .u8 D, .int .u8 X] 5)) = .ok (.string H) ((w.alloc (.cells #[.int .i64 k, .int .i64 n, .int .i64 a, .int .i64 c, .bool false, .string ⟨#[]⟩] 55)).alloc (.cells #[.int .u8 7, .int .u8 A, .int .u8 B, .int .u8 C, .int .u8 D, .int .u8 X] 5))) :
    Calls Tryz.prog 111 #[.agg #[.int .i64 k, .int .i64 n, .int .i64 a, .int .i64 c, .bool false, .string ⟨#[]⟩]] w fun e w' => e = .returned (.tuple #[.string H, .int .i64 0]) ∧ Below w.heap.size w w' := by
  have bw := If.more (If.below1 w (.cells #[.int .i64 k, .int .i64 n, .int .i64 a, .int .i64 c, .bool false, .string ⟨#[]⟩] 55)) (.cells #[.int .u8 7, .int .u8 A, .int .u8 B, .int .u8 C, .int .u8 D, .int .u8 X] 5)
  have hcn := hcn rfl
  clear hcb
  go_enter Tryz.func111, Tryz.ntmps111
  go_wp2_with (go_at_call 139; refine (HK.out _).mono ?_; rintro e w2 ⟨rfl, rfl⟩)
  go_ret2
  exact ⟨rfl, bw⟩
set_option linter.unusedVariables false in
set_option maxHeartbeats 4000000 in
set_option maxRecDepth 100000 in
theorem rwrite_full_true (k n a c A B C1 C D X1 X2 X Z cb : Nat) (d : ByteArray) (w : World) (hk : k < 8) (hn : n < 32) (ha : a < 32) (hc : c < 8) (HK : Hid (∀ W, Calls Tryz.prog 139 #[.int .i64 k] W fun e w' => e = .returned (.bool true) ∧ w' = W)) (t0 : decide ((n : Int) < 0) = false) (t1 : decide (31 < (n : Int)) = false) (t2 : decide ((a : Int) < 0) = false) (t3 : decide (31 < (a : Int)) = false) (t4 : decide ((c : Int) < 0) = false) (t5 : decide (7 < (c : Int)) = false) (hl : decide ((4096 : Int) ≤ (d.size : Int)) = false) (hds : d.size < 4096)
    (oA : bits .or .i64 ((n : Int) * 8) (c : Int) = (A : Int)) (oB : bits .or .i64 ((a : Int) * 8) (c : Int) = (B : Int)) (sZ : (d.size : Int) / 256 = (Z : Int)) (hcb : true = true → bits .or .i64 ((k : Int) * 32) 16 = (C1 : Int)) (hcn : true = false → bits .or .i64 ((k : Int) * 32) 0 = (C1 : Int)) (oC : bits .or .i64 (C1 : Int) (Z : Int) = (C : Int)) (oD : bits .and .i64 (d.size : Int) 255 = (D : Int))
    (x1 : bits .xor .i64 (A : Int) (B : Int) = (X1 : Int)) (x2 : bits .xor .i64 (X1 : Int) (C : Int) = (X2 : Int)) (x3 : bits .xor .i64 (X2 : Int) (D : Int) = (X : Int))
    (uA : IntKind.u8.wrap (A : Int) = (A : Int)) (uB : IntKind.u8.wrap (B : Int) = (B : Int)) (uC : IntKind.u8.wrap (C : Int) = (C : Int)) (uD : IntKind.u8.wrap (D : Int) = (D : Int)) (uX : IntKind.u8.wrap (X : Int) = (X : Int))
    (H : ByteArray) (hH : H.size ≤ 6) (cv : (convert 65 9 (.slice (some ⟨w.heap.size + 1, 0, none⟩) 6 6)).run Tryz.prog ((w.alloc (.cells #[.int .i64 k, .int .i64 n, .int .i64 a, .int .i64 c, .bool true, .string d] 55)).alloc (.cells #[.int .u8 7, .int .u8 A, .int .u8 B, .int .u8 C, .int .u8 D, .int .u8 X] 5)) = .ok (.string H) ((w.alloc (.cells #[.int .i64 k, .int .i64 n, .int .i64 a, .int .i64 c, .bool true, .string d] 55)).alloc (.cells #[.int .u8 7, .int .u8 A, .int .u8 B, .int .u8 C, .int .u8 D, .int .u8 X] 5)))
    (hne : (d.toList == []) = false) (q : Nat) (TT : ByteArray) (hT : TT.size ≤ 4) (HC : Hid (∀ W, Calls Tryz.prog 140 #[.string d] W fun e w' => e = .returned (.int .i64 q) ∧ w' = W))
    (HP : Hid (∀ W, Below w.heap.size w W → Rg.Bk w.heap.size [.int .i64 k, .int .i64 n, .int .i64 a, .int .i64 c, .bool true, .string d] 55 W → Calls Tryz.prog 81 #[.int .i64 q, .int .i64 4] W fun e w' => e = .returned (.tuple #[.string TT, .int .i64 0]) ∧ Below w.heap.size w w' ∧ Rg.Bk w.heap.size [.int .i64 k, .int .i64 n, .int .i64 a, .int .i64 c, .bool true, .string d] 55 w')) :
    Calls Tryz.prog 111 #[.agg #[.int .i64 k, .int .i64 n, .int .i64 a, .int .i64 c, .bool true, .string d]] w fun e w' => e = .returned (.tuple #[.string (H ++ d ++ TT), .int .i64 0]) ∧ Below w.heap.size w w' := by
  have bw := If.more (If.below1 w (.cells #[.int .i64 k, .int .i64 n, .int .i64 a, .int .i64 c, .bool true, .string d] 55)) (.cells #[.int .u8 7, .int .u8 A, .int .u8 B, .int .u8 C, .int .u8 D, .int .u8 X] 5)
  have k0 : Rg.Bk w.heap.size [.int .i64 k, .int .i64 n, .int .i64 a, .int .i64 c, .bool true, .string d] 55 ((w.alloc (.cells #[.int .i64 k, .int .i64 n, .int .i64 a, .int .i64 c, .bool true, .string d] 55)).alloc (.cells #[.int .u8 7, .int .u8 A, .int .u8 B, .int .u8 C, .int .u8 D, .int .u8 X] 5)) := (Rg.Bk.new rfl).old _
  have hcb := hcb rfl
  clear hcn
  go_enter Tryz.func111, Tryz.ntmps111
  go_upto_region 13 with (go_at_call 139; refine (HK.out _).mono ?_; rintro e w2 ⟨rfl, rfl⟩)
  clear cv
  have c5 := k0.cell 5
  simp only [List.getElem?_cons_zero, List.getElem?_cons_succ] at c5
  generalize World.alloc _ _ = W at *
  go_wp2_with (first
    | (go_at_call 140; refine (HC.out _).mono ?_; rintro e w2 ⟨rfl, rfl⟩)
    | (go_at_call 81; refine (HP.out _ bw k0).mono ?_; rintro e w3 ⟨rfl, b3, k3⟩; have e5 := k3.cell 5; simp only [List.getElem?_cons_zero, List.getElem?_cons_succ] at e5))
  go_ret2
  exact ⟨rfl, b3⟩
set_option linter.unusedVariables false in
set_option maxHeartbeats 4000000 in
set_option maxRecDepth 100000 in
theorem rwrite_full_false (k n a c A B C1 C D X1 X2 X Z cb : Nat) (d : ByteArray) (w : World) (hk : k < 8) (hn : n < 32) (ha : a < 32) (hc : c < 8) (HK : Hid (∀ W, Calls Tryz.prog 139 #[.int .i64 k] W fun e w' => e = .returned (.bool true) ∧ w' = W)) (t0 : decide ((n : Int) < 0) = false) (t1 : decide (31 < (n : Int)) = false) (t2 : decide ((a : Int) < 0) = false) (t3 : decide (31 < (a : Int)) = false) (t4 : decide ((c : Int) < 0) = false) (t5 : decide (7 < (c : Int)) = false) (hl : decide ((4096 : Int) ≤ (d.size : Int)) = false) (hds : d.size < 4096)
    (oA : bits .or .i64 ((n : Int) * 8) (c : Int) = (A : Int)) (oB : bits .or .i64 ((a : Int) * 8) (c : Int) = (B : Int)) (sZ : (d.size : Int) / 256 = (Z : Int)) (hcb : false = true → bits .or .i64 ((k : Int) * 32) 16 = (C1 : Int)) (hcn : false = false → bits .or .i64 ((k : Int) * 32) 0 = (C1 : Int)) (oC : bits .or .i64 (C1 : Int) (Z : Int) = (C : Int)) (oD : bits .and .i64 (d.size : Int) 255 = (D : Int))
    (x1 : bits .xor .i64 (A : Int) (B : Int) = (X1 : Int)) (x2 : bits .xor .i64 (X1 : Int) (C : Int) = (X2 : Int)) (x3 : bits .xor .i64 (X2 : Int) (D : Int) = (X : Int))
    (uA : IntKind.u8.wrap (A : Int) = (A : Int)) (uB : IntKind.u8.wrap (B : Int) = (B : Int)) (uC : IntKind.u8.wrap (C : Int) = (C : Int)) (uD : IntKind.u8.wrap (D : Int) = (D : Int)) (uX : IntKind.u8.wrap (X : Int) = (X : Int))
    (H : ByteArray) (hH : H.size ≤ 6) (cv : (convert 65 9 (.slice (some ⟨w.heap.size + 1, 0, none⟩) 6 6)).run Tryz.prog ((w.alloc (.cells #[.int .i64 k, .int .i64 n, .int .i64 a, .int .i64 c, .bool false, .string d] 55)).alloc (.cells #[.int .u8 7, .int .u8 A, .int .u8 B, .int .u8 C, .int .u8 D, .int .u8 X] 5)) = .ok (.string H) ((w.alloc (.cells #[.int .i64 k, .int .i64 n, .int .i64 a, .int .i64 c, .bool false, .string d] 55)).alloc (.cells #[.int .u8 7, .int .u8 A, .int .u8 B, .int .u8 C, .int .u8 D, .int .u8 X] 5)))
    (hne : (d.toList == []) = false) (q : Nat) (TT : ByteArray) (hT : TT.size ≤ 4) (HC : Hid (∀ W, Calls Tryz.prog 140 #[.string d] W fun e w' => e = .returned (.int .i64 q) ∧ w' = W))
    (HP : Hid (∀ W, Below w.heap.size w W → Rg.Bk w.heap.size [.int .i64 k, .int .i64 n, .int .i64 a, .int .i64 c, .bool false, .string d] 55 W → Calls Tryz.prog 81 #[.int .i64 q, .int .i64 4] W fun e w' => e = .returned (.tuple #[.string TT, .int .i64 0]) ∧ Below w.heap.size w w' ∧ Rg.Bk w.heap.size [.int .i64 k, .int .i64 n, .int .i64 a, .int .i64 c, .bool false, .string d] 55 w')) :
    Calls Tryz.prog 111 #[.agg #[.int .i64 k, .int .i64 n, .int .i64 a, .int .i64 c, .bool false, .string d]] w fun e w' => e = .returned (.tuple #[.string (H ++ d ++ TT), .int .i64 0]) ∧ Below w.heap.size w w' := by
  have bw := If.more (If.below1 w (.cells #[.int .i64 k, .int .i64 n, .int .i64 a, .int .i64 c, .bool false, .string d] 55)) (.cells #[.int .u8 7, .int .u8 A, .int .u8 B, .int .u8 C, .int .u8 D, .int .u8 X] 5)
  have k0 : Rg.Bk w.heap.size [.int .i64 k, .int .i64 n, .int .i64 a, .int .i64 c, .bool false, .string d] 55 ((w.alloc (.cells #[.int .i64 k, .int .i64 n, .int .i64 a, .int .i64 c, .bool false, .string d] 55)).alloc (.cells #[.int .u8 7, .int .u8 A, .int .u8 B, .int .u8 C, .int .u8 D, .int .u8 X] 5)) := (Rg.Bk.new rfl).old _
  have hcn := hcn rfl
  clear hcb
  go_enter Tryz.func111, Tryz.ntmps111
  go_upto_region 13 with (go_at_call 139; refine (HK.out _).mono ?_; rintro e w2 ⟨rfl, rfl⟩)
  clear cv
  have c5 := k0.cell 5
  simp only [List.getElem?_cons_zero, List.getElem?_cons_succ] at c5
  generalize World.alloc _ _ = W at *
  go_wp2_with (first
    | (go_at_call 140; refine (HC.out _).mono ?_; rintro e w2 ⟨rfl, rfl⟩)
    | (go_at_call 81; refine (HP.out _ bw k0).mono ?_; rintro e w3 ⟨rfl, b3, k3⟩; have e5 := k3.cell 5; simp only [List.getElem?_cons_zero, List.getElem?_cons_succ] at e5))
  go_ret2
  exact ⟨rfl, b3⟩
end Go.Proofs.YtomldoijcclhhaaGreat
