/-
  Walks of the laws of layer 12: IframeTurned, a byte of the head.
-/
import Derived.Test.YtghelhcmecmldaaIfG
namespace Go.Proofs.Ytghelhcmecmldaa
open Go.RowKit
set_option linter.unusedVariables false in
set_option maxHeartbeats 4000000 in
set_option maxRecDepth 100000 in
theorem iturn_big (k n a c : Int) (b : Bool) (p q : Int) (d : ByteArray) (w : World) (bw : Below w.heap.size w (w.alloc (.cells #[.int .i64 k, .int .i64 n, .int .i64 a, .int .i64 c, .bool b, .string d] 23))) (kw : Rg.Bk w.heap.size [.int .i64 k, .int .i64 n, .int .i64 a, .int .i64 c, .bool b, .string d] 23 (w.alloc (.cells #[.int .i64 k, .int .i64 n, .int .i64 a, .int .i64 c, .bool b, .string d] 23))) (HA : Hid (∀ W, Below w.heap.size w W → Rg.Bk w.heap.size [.int .i64 k, .int .i64 n, .int .i64 a, .int .i64 c, .bool b, .string d] 23 W → Calls Try.prog 9 #[] W fun e w' => e = .returned (.bool true) ∧ Below w.heap.size w w' ∧ Rg.Bk w.heap.size [.int .i64 k, .int .i64 n, .int .i64 a, .int .i64 c, .bool b, .string d] 23 w'))
    (q1 : decide ((5000 : Int) < (d.size : Int)) = true) (X : ByteArray) (E : Int)
    (HW : Hid (∀ W, Below w.heap.size w W → Rg.Bk w.heap.size [.int .i64 k, .int .i64 n, .int .i64 a, .int .i64 c, .bool b, .string d] 23 W → Calls Try.prog 10 #[.agg #[.int .i64 k, .int .i64 n, .int .i64 a, .int .i64 c, .bool b, .string d]] W fun e w' => e = .returned (.tuple #[.string X, .int .i64 E]) ∧ Below w.heap.size w w' ∧ Rg.Bk w.heap.size [.int .i64 k, .int .i64 n, .int .i64 a, .int .i64 c, .bool b, .string d] 23 w')) :
    Calls Try.prog 8 #[.agg #[.int .i64 k, .int .i64 n, .int .i64 a, .int .i64 c, .bool b, .string d], .int .i64 p, .int .i64 q] w fun e w' => e = .returned (.bool true) ∧ Below w.heap.size w w' := by
  go_enter Try.func8, Try.ntmps8
  go_wp2_with (first
    | (go_at_call 9; (first | with_reducible refine (HA.out _ (by first | assumption | exact If.more (by assumption) _) (by first | assumption | exact Rg.Bk.old (by assumption) _)).mono ?_); rintro e w' ⟨rfl, b', k'⟩; have c' := k'.cell; have z' := k'.lt)
    | (go_at_call 10; (first | with_reducible refine (HW.out _ (by first | assumption | exact If.more (by assumption) _) (by first | assumption | exact Rg.Bk.old (by assumption) _)).mono ?_); rintro e w' ⟨rfl, b', k'⟩; have c' := k'.cell; have z' := k'.lt))
  all_goals
    go_ret
    exact ⟨rfl, by first | assumption | exact If.more (by assumption) _⟩
set_option linter.unusedVariables false in
set_option maxHeartbeats 4000000 in
set_option maxRecDepth 100000 in
theorem iturn_no (k n a c : Int) (b : Bool) (p q : Int) (d : ByteArray) (w : World) (bw : Below w.heap.size w (w.alloc (.cells #[.int .i64 k, .int .i64 n, .int .i64 a, .int .i64 c, .bool b, .string d] 23))) (kw : Rg.Bk w.heap.size [.int .i64 k, .int .i64 n, .int .i64 a, .int .i64 c, .bool b, .string d] 23 (w.alloc (.cells #[.int .i64 k, .int .i64 n, .int .i64 a, .int .i64 c, .bool b, .string d] 23))) (HA : Hid (∀ W, Below w.heap.size w W → Rg.Bk w.heap.size [.int .i64 k, .int .i64 n, .int .i64 a, .int .i64 c, .bool b, .string d] 23 W → Calls Try.prog 9 #[] W fun e w' => e = .returned (.bool true) ∧ Below w.heap.size w w' ∧ Rg.Bk w.heap.size [.int .i64 k, .int .i64 n, .int .i64 a, .int .i64 c, .bool b, .string d] 23 w'))
    (q1 : decide ((5000 : Int) < (d.size : Int)) = false) (F : Nat) (hF : ((F : Int) == 0) = false)
    (HW : Hid (∀ W, Below w.heap.size w W → Rg.Bk w.heap.size [.int .i64 k, .int .i64 n, .int .i64 a, .int .i64 c, .bool b, .string d] 23 W → Calls Try.prog 10 #[.agg #[.int .i64 k, .int .i64 n, .int .i64 a, .int .i64 c, .bool b, .string d]] W fun e w' => e = .returned (.tuple #[.string ⟨#[]⟩, .int .i64 F]) ∧ Below w.heap.size w w' ∧ Rg.Bk w.heap.size [.int .i64 k, .int .i64 n, .int .i64 a, .int .i64 c, .bool b, .string d] 23 w')) :
    Calls Try.prog 8 #[.agg #[.int .i64 k, .int .i64 n, .int .i64 a, .int .i64 c, .bool b, .string d], .int .i64 p, .int .i64 q] w fun e w' => e = .returned (.bool true) ∧ Below w.heap.size w w' := by
  go_enter Try.func8, Try.ntmps8
  go_wp2_with (first
    | (go_at_call 9; (first | with_reducible refine (HA.out _ (by first | assumption | exact If.more (by assumption) _) (by first | assumption | exact Rg.Bk.old (by assumption) _)).mono ?_); rintro e w' ⟨rfl, b', k'⟩; have c' := k'.cell; have z' := k'.lt)
    | (go_at_call 10; (first | with_reducible refine (HW.out _ (by first | assumption | exact If.more (by assumption) _) (by first | assumption | exact Rg.Bk.old (by assumption) _)).mono ?_); rintro e w' ⟨rfl, b', k'⟩; have c' := k'.cell; have z' := k'.lt))
  all_goals
    go_ret
    exact ⟨rfl, by first | assumption | exact If.more (by assumption) _⟩
set_option linter.unusedVariables false in
set_option maxHeartbeats 4000000 in
set_option maxRecDepth 100000 in
theorem iturn_head_true (k n a c : Int) (b : Bool) (p q : Int) (d : ByteArray) (w : World) (bw : Below w.heap.size w (w.alloc (.cells #[.int .i64 k, .int .i64 n, .int .i64 a, .int .i64 c, .bool b, .string d] 23))) (kw : Rg.Bk w.heap.size [.int .i64 k, .int .i64 n, .int .i64 a, .int .i64 c, .bool b, .string d] 23 (w.alloc (.cells #[.int .i64 k, .int .i64 n, .int .i64 a, .int .i64 c, .bool b, .string d] 23))) (HA : Hid (∀ W, Below w.heap.size w W → Rg.Bk w.heap.size [.int .i64 k, .int .i64 n, .int .i64 a, .int .i64 c, .bool b, .string d] 23 W → Calls Try.prog 9 #[] W fun e w' => e = .returned (.bool true) ∧ Below w.heap.size w w' ∧ Rg.Bk w.heap.size [.int .i64 k, .int .i64 n, .int .i64 a, .int .i64 c, .bool b, .string d] 23 w'))
    (q1 : decide ((5000 : Int) < (d.size : Int)) = false) (X : ByteArray) (U K R : Nat) (u1 : IntKind.u64.wrap p = (U : Int)) (r1 : wrap64 (6 + (d.size : Int)) = (R : Int)) (r2 : IntKind.i64.wrap (6 + (d.size : Int)) = (R : Int)) (r3 : 6 + (d.size : Int) = (R : Int)) (r4 : IntKind.u64.wrap (R : Int) = (R : Int)) (r5 : (U : Int) % (R : Int) = (K : Int)) (r6 : (U : Int).tmod (R : Int) = (K : Int)) (r7 : K < R) (r8 : (K : Int) < (R : Int)) (r9 : R ≤ 5006) (r0 : ¬ R = 0) (hK : decide ((K : Int) < 6) = true) (hK2 : decide ((6 : Int) ≤ (K : Int)) = false) (u4 : K < X.data.toList.length) (u5 : (K : Int) < (X.size : Int)) (u6 : X.size ≤ 5000)
    (Y C x0 : UInt8) (hx0 : Hid (X.data.toList.getD K 0 = x0)) (v1 : IntKind.u8.wrap q = (Y.toNat : Int)) (v5 : bits .xor .u8 (x0.toNat : Int) (Y.toNat : Int) = (C.toNat : Int)) (Z : ByteArray) (hZL : (⟨(X.data.toList.set K C).toArray⟩ : ByteArray) = Z) (k2 n2 a2 c2 : Int) (b2 : Bool) (d2 : ByteArray) (N : Nat) (hZ : (Z.toList == X.toList) = true)
    (HW : Hid (∀ W, Below w.heap.size w W → Rg.Bk w.heap.size [.int .i64 k, .int .i64 n, .int .i64 a, .int .i64 c, .bool b, .string d] 23 W → Calls Try.prog 10 #[.agg #[.int .i64 k, .int .i64 n, .int .i64 a, .int .i64 c, .bool b, .string d]] W fun e w' => e = .returned (.tuple #[.string X, .int .i64 0]) ∧ Below w.heap.size w w' ∧ Rg.Bk w.heap.size [.int .i64 k, .int .i64 n, .int .i64 a, .int .i64 c, .bool b, .string d] 23 w'))
    (HR : Hid (∀ W, Calls Try.prog 12 #[.string Z] W fun e w' => e = .returned (.tuple #[.agg #[.int .i64 k2, .int .i64 n2, .int .i64 a2, .int .i64 c2, .bool b2, .string d2], .int .i64 N, .int .i64 0]) ∧ Below W.heap.size W w'))
    (HB : Hid (∀ W, Calls Try.prog 9 #[] W fun e w' => e = .returned (.bool true) ∧ Below W.heap.size W w')) :
    Calls Try.prog 8 #[.agg #[.int .i64 k, .int .i64 n, .int .i64 a, .int .i64 c, .bool b, .string d], .int .i64 p, .int .i64 q] w fun e w' => e = .returned (.bool true) ∧ Below w.heap.size w w' := by
  go_enter Try.func8, Try.ntmps8
  go_upto_region 4 with (go_at_call 10; (first | with_reducible refine (HW.out _ (by first | assumption | exact If.more (by assumption) _) (by first | assumption | exact Rg.Bk.old (by assumption) _)).mono ?_); rintro e w' ⟨rfl, b', k'⟩; have c' := k'.cell; have z' := k'.lt)
  have hcv := run_bytes_of_string (P := Try.prog) w' 9 39 5 X Try.underlying9 Try.underlying39 Try.underlying5
  have hrow := bytesRow_eq X (grownCap w' X.size 0 5)
  rw [hrow, rowOf_size, Array.length_toList] at hcv
  generalize grownCap w' X.size 0 5 = cap at *
  generalize cap - X.size = zz at *
  clear hrow c' z'
  go_upto_region 5 with fail
  clear hcv
  have hr0 : RowIn (w'.alloc (.cells (rowOf X.data.toList zz) 5 (X.size + zz, X.size + zz + 1))).drew w'.heap.size X.data.toList zz := (MapKept.heap_alloc w' _).1.trans (by rw [If.len_eq])
  have kf := (k'.old (.cells (rowOf X.data.toList zz) 5 (X.size + zz, X.size + zz + 1))).drew
  have hbl : Below w.heap.size w (w'.alloc (.cells (rowOf X.data.toList zz) 5 (X.size + zz, X.size + zz + 1))).drew := (b'.alloc b'.size _).drew
  have hbz : w.heap.size < w'.heap.size := k'.lt
  generalize (w'.alloc (.cells (rowOf X.data.toList zz) 5 (X.size + zz, X.size + zz + 1))).drew = W at *
  generalize hP : w'.heap.size = P at *
  clear hP k' b'
  have c5 := kf.cell 5
  simp only [List.getElem?_cons_zero, List.getElem?_cons_succ] at c5
  have hcell := hr0.cell u4
  rw [hx0.out] at hcell
  have hfz := hr0.thaw u4
  have hr1 := hr0.set u4 C
  have hb1 := hbl.setCell (p := ⟨P, K, none⟩) (Nat.le_of_lt hbz) (.int .u8 (C.toNat : Int))
  have hLl : (X.data.toList.set K C).length = X.size := by rw [List.length_set, If.len_eq]
  clear hr0 hbl
  go_upto_region 12 with fail
  have hcv := hr1.conv (cap := cap)
  rw [hLl, hZL] at hcv
  clear hcell hfz v5 c5 kf
  generalize World.setCell _ _ _ = W2 at *
  go_loopw [11] (fun i wr => i = .int .i64 0 ∧ wr = W2) (fun _ _ => 0)
  case atStart => exact ⟨rfl, rfl⟩
  case round =>
    obtain ⟨rfl, rfl⟩ := hrel
    go_upto_region 13 with (go_at_call 12; refine (HR.out _).mono ?_; rintro e w8 ⟨rfl, b8⟩)
    have hrow8 := (hr1.below b8 hr1.lt).old (.cells #[.int .i64 k2, .int .i64 n2, .int .i64 a2, .int .i64 c2, .bool b2, .string d2] 23)
    have hcv8 := hrow8.conv (cap := cap)
    rw [hLl, hZL] at hcv8
    have bl8 := If.more (hb1.trans (b8.mono hb1.size)) (.cells #[.int .i64 k2, .int .i64 n2, .int .i64 a2, .int .i64 c2, .bool b2, .string d2] 23)
    clear hrow8
    generalize World.alloc _ _ = w9 at *
    go_wp2_with (go_at_call 9; refine (HB.out _).mono ?_; rintro e w10 ⟨rfl, b10⟩)
    go_ret
    exact ⟨rfl, bl8.trans (b10.mono bl8.size)⟩
set_option linter.unusedVariables false in
set_option maxHeartbeats 4000000 in
set_option maxRecDepth 100000 in
theorem iturn_head_false (k n a c : Int) (b : Bool) (p q : Int) (d : ByteArray) (w : World) (bw : Below w.heap.size w (w.alloc (.cells #[.int .i64 k, .int .i64 n, .int .i64 a, .int .i64 c, .bool b, .string d] 23))) (kw : Rg.Bk w.heap.size [.int .i64 k, .int .i64 n, .int .i64 a, .int .i64 c, .bool b, .string d] 23 (w.alloc (.cells #[.int .i64 k, .int .i64 n, .int .i64 a, .int .i64 c, .bool b, .string d] 23))) (HA : Hid (∀ W, Below w.heap.size w W → Rg.Bk w.heap.size [.int .i64 k, .int .i64 n, .int .i64 a, .int .i64 c, .bool b, .string d] 23 W → Calls Try.prog 9 #[] W fun e w' => e = .returned (.bool true) ∧ Below w.heap.size w w' ∧ Rg.Bk w.heap.size [.int .i64 k, .int .i64 n, .int .i64 a, .int .i64 c, .bool b, .string d] 23 w'))
    (q1 : decide ((5000 : Int) < (d.size : Int)) = false) (X : ByteArray) (U K R : Nat) (u1 : IntKind.u64.wrap p = (U : Int)) (r1 : wrap64 (6 + (d.size : Int)) = (R : Int)) (r2 : IntKind.i64.wrap (6 + (d.size : Int)) = (R : Int)) (r3 : 6 + (d.size : Int) = (R : Int)) (r4 : IntKind.u64.wrap (R : Int) = (R : Int)) (r5 : (U : Int) % (R : Int) = (K : Int)) (r6 : (U : Int).tmod (R : Int) = (K : Int)) (r7 : K < R) (r8 : (K : Int) < (R : Int)) (r9 : R ≤ 5006) (r0 : ¬ R = 0) (hK : decide ((K : Int) < 6) = true) (hK2 : decide ((6 : Int) ≤ (K : Int)) = false) (u4 : K < X.data.toList.length) (u5 : (K : Int) < (X.size : Int)) (u6 : X.size ≤ 5000)
    (Y C x0 : UInt8) (hx0 : Hid (X.data.toList.getD K 0 = x0)) (v1 : IntKind.u8.wrap q = (Y.toNat : Int)) (v5 : bits .xor .u8 (x0.toNat : Int) (Y.toNat : Int) = (C.toNat : Int)) (Z : ByteArray) (hZL : (⟨(X.data.toList.set K C).toArray⟩ : ByteArray) = Z) (k2 n2 a2 c2 : Int) (b2 : Bool) (d2 : ByteArray) (N : Nat) (hZ : (Z.toList == X.toList) = false) (E : Nat) (hE1 : ¬ E = 0) (hE2 : ((E : Int) == 0) = false) (hE3 : decide ((E : Int) = 0) = false) (hE4 : decide (E = 0) = false) (hE5 : ((E : Int) != 0) = true)
    (HW : Hid (∀ W, Below w.heap.size w W → Rg.Bk w.heap.size [.int .i64 k, .int .i64 n, .int .i64 a, .int .i64 c, .bool b, .string d] 23 W → Calls Try.prog 10 #[.agg #[.int .i64 k, .int .i64 n, .int .i64 a, .int .i64 c, .bool b, .string d]] W fun e w' => e = .returned (.tuple #[.string X, .int .i64 0]) ∧ Below w.heap.size w w' ∧ Rg.Bk w.heap.size [.int .i64 k, .int .i64 n, .int .i64 a, .int .i64 c, .bool b, .string d] 23 w'))
    (HR : Hid (∀ W, Calls Try.prog 12 #[.string Z] W fun e w' => e = .returned (.tuple #[.agg #[.int .i64 k2, .int .i64 n2, .int .i64 a2, .int .i64 c2, .bool b2, .string d2], .int .i64 N, .int .i64 E]) ∧ Below W.heap.size W w'))
    (HB : Hid (∀ W, Calls Try.prog 9 #[] W fun e w' => e = .returned (.bool true) ∧ Below W.heap.size W w')) :
    Calls Try.prog 8 #[.agg #[.int .i64 k, .int .i64 n, .int .i64 a, .int .i64 c, .bool b, .string d], .int .i64 p, .int .i64 q] w fun e w' => e = .returned (.bool true) ∧ Below w.heap.size w w' := by
  go_enter Try.func8, Try.ntmps8
  go_upto_region 4 with (go_at_call 10; (first | with_reducible refine (HW.out _ (by first | assumption | exact If.more (by assumption) _) (by first | assumption | exact Rg.Bk.old (by assumption) _)).mono ?_); rintro e w' ⟨rfl, b', k'⟩; have c' := k'.cell; have z' := k'.lt)
  have hcv := run_bytes_of_string (P := Try.prog) w' 9 39 5 X Try.underlying9 Try.underlying39 Try.underlying5
  have hrow := bytesRow_eq X (grownCap w' X.size 0 5)
  rw [hrow, rowOf_size, Array.length_toList] at hcv
  generalize grownCap w' X.size 0 5 = cap at *
  generalize cap - X.size = zz at *
  clear hrow c' z'
  go_upto_region 5 with fail
  clear hcv
  have hr0 : RowIn (w'.alloc (.cells (rowOf X.data.toList zz) 5 (X.size + zz, X.size + zz + 1))).drew w'.heap.size X.data.toList zz := (MapKept.heap_alloc w' _).1.trans (by rw [If.len_eq])
  have kf := (k'.old (.cells (rowOf X.data.toList zz) 5 (X.size + zz, X.size + zz + 1))).drew
  have hbl : Below w.heap.size w (w'.alloc (.cells (rowOf X.data.toList zz) 5 (X.size + zz, X.size + zz + 1))).drew := (b'.alloc b'.size _).drew
  have hbz : w.heap.size < w'.heap.size := k'.lt
  generalize (w'.alloc (.cells (rowOf X.data.toList zz) 5 (X.size + zz, X.size + zz + 1))).drew = W at *
  generalize hP : w'.heap.size = P at *
  clear hP k' b'
  have c5 := kf.cell 5
  simp only [List.getElem?_cons_zero, List.getElem?_cons_succ] at c5
  have hcell := hr0.cell u4
  rw [hx0.out] at hcell
  have hfz := hr0.thaw u4
  have hr1 := hr0.set u4 C
  have hb1 := hbl.setCell (p := ⟨P, K, none⟩) (Nat.le_of_lt hbz) (.int .u8 (C.toNat : Int))
  have hLl : (X.data.toList.set K C).length = X.size := by rw [List.length_set, If.len_eq]
  clear hr0 hbl
  go_upto_region 12 with fail
  have hcv := hr1.conv (cap := cap)
  rw [hLl, hZL] at hcv
  clear hcell hfz v5 c5 kf
  generalize World.setCell _ _ _ = W2 at *
  go_loopw [11] (fun i wr => i = .int .i64 0 ∧ wr = W2) (fun _ _ => 0)
  case atStart => exact ⟨rfl, rfl⟩
  case round =>
    obtain ⟨rfl, rfl⟩ := hrel
    go_upto_region 13 with (go_at_call 12; refine (HR.out _).mono ?_; rintro e w8 ⟨rfl, b8⟩)
    have hrow8 := (hr1.below b8 hr1.lt).old (.cells #[.int .i64 k2, .int .i64 n2, .int .i64 a2, .int .i64 c2, .bool b2, .string d2] 23)
    have hcv8 := hrow8.conv (cap := cap)
    rw [hLl, hZL] at hcv8
    have bl8 := If.more (hb1.trans (b8.mono hb1.size)) (.cells #[.int .i64 k2, .int .i64 n2, .int .i64 a2, .int .i64 c2, .bool b2, .string d2] 23)
    clear hrow8
    generalize World.alloc _ _ = w9 at *
    go_wp2_with (go_at_call 9; refine (HB.out _).mono ?_; rintro e w10 ⟨rfl, b10⟩)
    go_ret
    exact ⟨rfl, bl8.trans (b10.mono bl8.size)⟩
end Go.Proofs.Ytghelhcmecmldaa
