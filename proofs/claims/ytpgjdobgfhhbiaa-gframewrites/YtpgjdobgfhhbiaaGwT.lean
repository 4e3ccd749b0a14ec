/-
  Walks of the laws of layer 11: GframeWrites, whole.
-/
import Derived.Test.YtpgjdobgfhhbiaaGwS
namespace Go.Proofs.Ytpgjdobgfhhbiaa
open Go.RowKit
set_option maxHeartbeats 4000000 in
set_option maxRecDepth 100000 in
theorem writes_big (t h l z : Int) (d : ByteArray) (w : World) (bw : Below w.heap.size w (w.alloc (.cells #[.int .i64 t, .int .i64 h, .int .i64 l, .int .i64 z, .string d] 23))) (kw : Rg.Bk w.heap.size [.int .i64 t, .int .i64 h, .int .i64 l, .int .i64 z, .string d] 23 (w.alloc (.cells #[.int .i64 t, .int .i64 h, .int .i64 l, .int .i64 z, .string d] 23))) (HA : Hid (∀ W, Below w.heap.size w W → Rg.Bk w.heap.size [.int .i64 t, .int .i64 h, .int .i64 l, .int .i64 z, .string d] 23 W → Calls Try.prog 9 #[] W fun e w' => e = .returned (.bool true) ∧ Below w.heap.size w w' ∧ Rg.Bk w.heap.size [.int .i64 t, .int .i64 h, .int .i64 l, .int .i64 z, .string d] 23 w'))
    (q1 : decide ((5000 : Int) < (d.size : Int)) = true) :
    Calls Try.prog 3 #[.agg #[.int .i64 t, .int .i64 h, .int .i64 l, .int .i64 z, .string d]] w fun e w' => e = .returned (.bool true) ∧ Below w.heap.size w w' := by
  go_enter Try.func3, Try.ntmps3
  go_wp2_with (first
    | (go_at_call 9; (first | with_reducible refine (HA.out _ (by first | assumption | exact Gf.more (by assumption) _) (by first | assumption | exact Rg.Bk.old (by assumption) _)).mono ?_); rintro e w' ⟨rfl, b', k'⟩; have c' := k'.cell; have z' := k'.lt))
  all_goals
    go_ret
    exact ⟨rfl, by first | assumption | exact Gf.more (by assumption) _⟩
set_option maxHeartbeats 4000000 in
set_option maxRecDepth 100000 in
theorem writes_core (t h l z : Int) (d : ByteArray) (w : World) (bw : Below w.heap.size w (w.alloc (.cells #[.int .i64 t, .int .i64 h, .int .i64 l, .int .i64 z, .string d] 23))) (kw : Rg.Bk w.heap.size [.int .i64 t, .int .i64 h, .int .i64 l, .int .i64 z, .string d] 23 (w.alloc (.cells #[.int .i64 t, .int .i64 h, .int .i64 l, .int .i64 z, .string d] 23))) (HA : Hid (∀ W, Below w.heap.size w W → Rg.Bk w.heap.size [.int .i64 t, .int .i64 h, .int .i64 l, .int .i64 z, .string d] 23 W → Calls Try.prog 9 #[] W fun e w' => e = .returned (.bool true) ∧ Below w.heap.size w w' ∧ Rg.Bk w.heap.size [.int .i64 t, .int .i64 h, .int .i64 l, .int .i64 z, .string d] 23 w'))
    (q1 : decide ((5000 : Int) < (d.size : Int)) = false) (X : ByteArray) (E : Int) (k : Nat)
    (HW : Hid (∀ W, Below w.heap.size w W → Rg.Bk w.heap.size [.int .i64 t, .int .i64 h, .int .i64 l, .int .i64 z, .string d] 23 W → Calls Try.prog 10 #[.agg #[.int .i64 t, .int .i64 h, .int .i64 l, .int .i64 z, .string d]] W fun e w' => e = .returned (.tuple #[.string X, .int .i64 E]) ∧ Below w.heap.size w w' ∧ Rg.Bk w.heap.size [.int .i64 t, .int .i64 h, .int .i64 l, .int .i64 z, .string d] 23 w'))
    (HV : Hid (∀ W, Below w.heap.size w W → Rg.Bk w.heap.size [.int .i64 t, .int .i64 h, .int .i64 l, .int .i64 z, .string d] 23 W → Calls Try.prog 11 #[.agg #[.int .i64 t, .int .i64 h, .int .i64 l, .int .i64 z, .string d]] W fun e w' => e = .returned (.tuple #[.string X, .int .i64 E]) ∧ Below w.heap.size w w' ∧ Rg.Bk w.heap.size [.int .i64 t, .int .i64 h, .int .i64 l, .int .i64 z, .string d] 23 w'))
    (HK : Hid (∀ W, Below w.heap.size w W → Rg.Bk w.heap.size [.int .i64 t, .int .i64 h, .int .i64 l, .int .i64 z, .string d] 23 W → Calls Try.prog 12 #[.int .i64 z] W fun e w' => e = .returned (.int .i64 (k : Int)) ∧ Below w.heap.size w w' ∧ Rg.Bk w.heap.size [.int .i64 t, .int .i64 h, .int .i64 l, .int .i64 z, .string d] 23 w'))
    (HJ : Hid (∀ W, Below w.heap.size w W → Rg.Bk w.heap.size [.int .i64 t, .int .i64 h, .int .i64 l, .int .i64 z, .string d] 23 W → Calls Try.prog 13 #[.int .i64 z] W fun e w' => e = .returned (.int .i64 (k : Int)) ∧ Below w.heap.size w w' ∧ Rg.Bk w.heap.size [.int .i64 t, .int .i64 h, .int .i64 l, .int .i64 z, .string d] 23 w')) :
    Calls Try.prog 3 #[.agg #[.int .i64 t, .int .i64 h, .int .i64 l, .int .i64 z, .string d]] w fun e w' => e = .returned (.bool true) ∧ Below w.heap.size w w' := by
  go_enter Try.func3, Try.ntmps3
  go_upto_region 5 with (first
    | (go_at_call 10; (first | with_reducible refine (HW.out _ (by first | assumption | exact Gf.more (by assumption) _) (by first | assumption | exact Rg.Bk.old (by assumption) _)).mono ?_); rintro e w' ⟨rfl, b', k'⟩; have c' := k'.cell; have z' := k'.lt)
    | (go_at_call 11; (first | with_reducible refine (HV.out _ (by first | assumption | exact Gf.more (by assumption) _) (by first | assumption | exact Rg.Bk.old (by assumption) _)).mono ?_); rintro e w' ⟨rfl, b', k'⟩; have c' := k'.cell; have z' := k'.lt))
  have r3 := k'.cell 3
  simp only [List.getElem?_cons_zero, List.getElem?_cons_succ] at r3
  clear c' z'
  go_region_held3 (fun w' => w'.cell? ⟨w.heap.size, 3, none⟩ = some (.int .i64 z)) (go_keep) (first
    | (go_at_call 12; refine (HK.out _ (by first | assumption | exact Below.drew (by assumption)) (by first | assumption | exact Rg.Bk.drew (by assumption))).mono ?_; rintro e w5 ⟨rfl, b5, k5⟩; have r3k5 := k5.cell 3; simp only [List.getElem?_cons_zero, List.getElem?_cons_succ] at r3k5)
    | (go_at_call 13; refine (HJ.out _ (by first | assumption | exact Below.drew (by assumption)) (by first | assumption | exact Rg.Bk.drew (by assumption))).mono ?_; rintro e w6 ⟨rfl, b6, k6⟩; have r3k6 := k6.cell 3; simp only [List.getElem?_cons_zero, List.getElem?_cons_succ] at r3k6)
    | (go_at_call 9; refine (HA.out _ (by first | assumption | exact Below.drew (by assumption)) (by first | assumption | exact Rg.Bk.drew (by assumption))).mono ?_; rintro e w7 ⟨rfl, b7, k7⟩; have r3k7 := k7.cell 3; simp only [List.getElem?_cons_zero, List.getElem?_cons_succ] at r3k7))
  all_goals
    go_wp2
    go_ret
    exact ⟨rfl, by first | exact b7 | exact b7.drew⟩
theorem writes_walk (t h l z : Int) (d : ByteArray) (w : World) :
    Calls Try.prog 3 #[.agg #[.int .i64 t, .int .i64 h, .int .i64 l, .int .i64 z, .string d]] w fun e w' => e = .returned (.bool true) ∧ Below w.heap.size w w' := by
  have bw := Gf.below1 w (.cells #[.int .i64 t, .int .i64 h, .int .i64 l, .int .i64 z, .string d] 23)
  have kw : Rg.Bk w.heap.size [.int .i64 t, .int .i64 h, .int .i64 l, .int .i64 z, .string d] 23 (w.alloc (.cells #[.int .i64 t, .int .i64 h, .int .i64 l, .int .i64 z, .string d] 23)) := Rg.Bk.new rfl
  have HA := keepF (C := [.int .i64 t, .int .i64 h, .int .i64 l, .int .i64 z, .string d]) (ty := 23) w gawake_any
  by_cases q1 : 5000 < d.size
  · exact writes_big t h l z d w bw kw HA (by simp; omega)
  have q1' : decide ((5000 : Int) < (d.size : Int)) = false := by simp; omega
  by_cases hk : Gf.ok ⟨t, h, l, z, d.data.toList⟩
  · exact writes_core t h l z d w bw kw HA q1' _ 0 (Gf.code z) (keepF w (write_yes t h l z d hk)) (keepF w (rwrite_yes t h l z d hk)) (keepE w (gcode_any z)) (keepE w (rgcode_any z))
  · exact writes_core t h l z d w bw kw HA q1' _ 1 (Gf.code z) (keepF w (write_no t h l z d hk)) (keepF w (rwrite_no t h l z d hk)) (keepE w (gcode_any z)) (keepE w (rgcode_any z))
end Go.Proofs.Ytpgjdobgfhhbiaa
