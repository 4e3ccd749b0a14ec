/-
  Layer 7: the statements' same, of two lines that are the same.
-/
import Derived.Test.YtalleocmnnnchaaLn21
namespace Go.Proofs.Ytalleocmnnnchaa
open Go.RowKit

set_option maxHeartbeats 2000000 in
set_option maxRecDepth 100000 in
theorem same_cells (x0 : ByteArray) (p0 : Int) (b0 : Option Addr) (bn0 bc0 : Nat) (g0 : Option Addr) (gn0 gc0 : Nat) (x1 : ByteArray) (p1 : Int) (b1 : Option Addr) (bn1 bc1 : Nat) (g1 : Option Addr) (gn1 gc1 : Nat) (up : Bool) (b0' : Option Addr) (bc0' : Nat) (g0' : Option Addr) (gc0' : Nat) (b1' : Option Addr) (bc1' : Nat) (g1' : Option Addr) (gc1' : Nat) (w : World)
    (hI0 : Hid (∀ W, Below w.heap.size w W → Calls Try.prog 32 #[.slice b0 bn0 bc0, .slice b0' bn0 bc0'] W fun e w' => VPost (.bool true) W e w'))
    (hJ0 : Hid (∀ W, Below w.heap.size w W → Calls Try.prog 32 #[.slice g0 gn0 gc0, .slice g0' gn0 gc0'] W fun e w' => VPost (.bool true) W e w'))
    (hI1 : Hid (∀ W, Below w.heap.size w W → Calls Try.prog 32 #[.slice b1 bn1 bc1, .slice b1' bn1 bc1'] W fun e w' => VPost (.bool true) W e w'))
    (hJ1 : Hid (∀ W, Below w.heap.size w W → Calls Try.prog 32 #[.slice g1 gn1 gc1, .slice g1' gn1 gc1'] W fun e w' => VPost (.bool true) W e w')) :
    Calls Try.prog 15 #[.agg #[.string x0, .int .i64 p0, .slice b0 bn0 bc0, .slice g0 gn0 gc0, .string x1, .int .i64 p1, .slice b1 bn1 bc1, .slice g1 gn1 gc1, .bool up], .agg #[.string x0, .int .i64 p0, .slice b0' bn0 bc0', .slice g0' gn0 gc0', .string x1, .int .i64 p1, .slice b1' bn1 bc1', .slice g1' gn1 gc1', .bool up]] w fun e w' => VPost (.bool true) w e w' := by
  have ex0 : (x0.toList == x0.toList) = true := by simp
  have ex1 : (x1.toList == x1.toList) = true := by simp
  have ep0 : (p0 == p0) = true := by simp
  have ep1 : (p1 == p1) = true := by simp
  have eu : (up == up) = true := by simp
  have hP0 := Rg.hid (show Rg.Bk w.heap.size [.string x0, .int .i64 p0, .slice b0 bn0 bc0, .slice g0 gn0 gc0, .string x1, .int .i64 p1, .slice b1 bn1 bc1, .slice g1 gn1 gc1, .bool up] 30 ((w.alloc (.cells #[.string x0, .int .i64 p0, .slice b0 bn0 bc0, .slice g0 gn0 gc0, .string x1, .int .i64 p1, .slice b1 bn1 bc1, .slice g1 gn1 gc1, .bool up] 30)).alloc (.cells #[.string x0, .int .i64 p0, .slice b0' bn0 bc0', .slice g0' gn0 gc0', .string x1, .int .i64 p1, .slice b1' bn1 bc1', .slice g1' gn1 gc1', .bool up] 30)) from (Rg.Bk.new rfl).old _)
  have hQ0 := Rg.hid (show Rg.Bk (w.heap.size + 1) [.string x0, .int .i64 p0, .slice b0' bn0 bc0', .slice g0' gn0 gc0', .string x1, .int .i64 p1, .slice b1' bn1 bc1', .slice g1' gn1 gc1', .bool up] 30 ((w.alloc (.cells #[.string x0, .int .i64 p0, .slice b0 bn0 bc0, .slice g0 gn0 gc0, .string x1, .int .i64 p1, .slice b1 bn1 bc1, .slice g1 gn1 gc1, .bool up] 30)).alloc (.cells #[.string x0, .int .i64 p0, .slice b0' bn0 bc0', .slice g0' gn0 gc0', .string x1, .int .i64 p1, .slice b1' bn1 bc1', .slice g1' gn1 gc1', .bool up] 30)) from Rg.Bk.new (by simp))
  have hb0 := Rg.al2 w (.cells #[.string x0, .int .i64 p0, .slice b0 bn0 bc0, .slice g0 gn0 gc0, .string x1, .int .i64 p1, .slice b1 bn1 bc1, .slice g1 gn1 gc1, .bool up] 30) (.cells #[.string x0, .int .i64 p0, .slice b0' bn0 bc0', .slice g0' gn0 gc0', .string x1, .int .i64 p1, .slice b1' bn1 bc1', .slice g1' gn1 gc1', .bool up] 30)
  go_enter Try.func15, Try.ntmps15
  go_upto_region 1 with fail
  generalize World.alloc _ _ = w1 at *
  obtain ⟨P, hPe⟩ : ∃ P, P = w.heap.size := ⟨_, rfl⟩
  obtain ⟨Q, hQe⟩ : ∃ Q, Q = w.heap.size + 1 := ⟨_, rfl⟩
  rw [← hQe] at hQ0 ⊢
  rw [← hPe] at hP0 ⊢
  have hPQ : P ≠ Q := by omega
  clear hPe hQe
  go_wp2
  go_loopw [8] (fun vi wr => ∃ (i : Nat), i ≤ 2 ∧ vi = .int .i64 i ∧ Hid (Rg.Bk P [.string x0, .int .i64 p0, .slice b0 bn0 bc0, .slice g0 gn0 gc0, .string x1, .int .i64 p1, .slice b1 bn1 bc1, .slice g1 gn1 gc1, .bool up] 30 wr) ∧ Hid (Rg.Bk Q [.string x0, .int .i64 p0, .slice b0' bn0 bc0', .slice g0' gn0 gc0', .string x1, .int .i64 p1, .slice b1' bn1 bc1', .slice g1' gn1 gc1', .bool up] 30 wr) ∧ Below w.heap.size w wr) (fun vi _ => 2 - (intOf vi).toNat)
  case atStart => exact ⟨0, Nat.zero_le _, rfl, hP0, hQ0, hb0⟩
  case round =>
    obtain ⟨i, hin, rfl, hP, hQ, hbw⟩ := hrel
    clear hP0 hQ0 hb0
    have hi3 : i = 0 ∨ i = 1 ∨ i = 2 := by omega
    rcases hi3 with rfl | rfl | rfl
    · clear hin
      have kP := hP.out
      have kQ := hQ.out
      have a0 : wr.cell? ⟨P, 0, none⟩ = some (.string x0) := kP.cell 0
      have a1 : wr.cell? ⟨P, 1, none⟩ = some (.int .i64 p0) := kP.cell 1
      have a2 : wr.cell? ⟨P, 2, none⟩ = some (.slice b0 bn0 bc0) := kP.cell 2
      have a3 : wr.cell? ⟨P, 3, none⟩ = some (.slice g0 gn0 gc0) := kP.cell 3
      have c0 : wr.cell? ⟨Q, 0, none⟩ = some (.string x0) := kQ.cell 0
      have c1 : wr.cell? ⟨Q, 1, none⟩ = some (.int .i64 p0) := kQ.cell 1
      have c2 : wr.cell? ⟨Q, 2, none⟩ = some (.slice b0' bn0 bc0') := kQ.cell 2
      have c3 : wr.cell? ⟨Q, 3, none⟩ = some (.slice g0' gn0 gc0') := kQ.cell 3
      clear kP kQ
      have hPl := hP.out.lt
      have hQl := hQ.out.lt
      go_upto_region 4 with fail
      go_cut [6, 7] (fun s6 s7 wx => ∃ X Y, s6 = .pointer (some ⟨X, 0, none⟩) ∧ s7 = .pointer (some ⟨Y, 0, none⟩) ∧ X ≠ Y ∧ Rg.Bk X [.string x0, .int .i64 p0, .slice b0 bn0 bc0, .slice g0 gn0 gc0] 27 wx ∧ Rg.Bk Y [.string x0, .int .i64 p0, .slice b0' bn0 bc0', .slice g0' gn0 gc0'] 27 wx ∧ Below wr.heap.size wr wx)
      case first =>
        have hp1 : wr.heap.size ≠ P := by omega
        have hp2 : wr.heap.size ≠ Q := by omega
        have hp3 : wr.heap.size + 1 ≠ P := by omega
        have hp4 : wr.heap.size + 1 ≠ Q := by omega
        clear hP hQ hI0 hJ0 hI1 hJ1
        go_region_held3 (fun w' => w'.cell? ⟨P, 0, none⟩ = some (.string x0) ∧ w'.cell? ⟨P, 1, none⟩ = some (.int .i64 p0) ∧ w'.cell? ⟨P, 2, none⟩ = some (.slice b0 bn0 bc0) ∧ w'.cell? ⟨P, 3, none⟩ = some (.slice g0 gn0 gc0) ∧ w'.cell? ⟨Q, 0, none⟩ = some (.string x0) ∧ w'.cell? ⟨Q, 1, none⟩ = some (.int .i64 p0) ∧ w'.cell? ⟨Q, 2, none⟩ = some (.slice b0' bn0 bc0') ∧ w'.cell? ⟨Q, 3, none⟩ = some (.slice g0' gn0 gc0')) (go_keep) (fail)
        all_goals go_wp2_with fail
        all_goals go_meet
        all_goals first
          | exact ⟨wr.heap.size, wr.heap.size + 1, rfl, rfl, by omega, ((Rg.Bk.new rfl).old _).drew, (Rg.Bk.new (by simp)).drew, (Rg.al2 _ _ _).drew⟩
          | exact ⟨wr.heap.size + 1, wr.heap.size, rfl, rfl, by omega, (Rg.Bk.new (by simp)).drew, ((Rg.Bk.new rfl).old _).drew, (Rg.al2 _ _ _).drew⟩
      case rest =>
        obtain ⟨X, Y, rfl, rfl, hXY, kX, kY, b5⟩ := hcut
        clear a0 a1 a2 a3 c0 c1 c2 c3
        have hP5 := Rg.hid (hP.out.below b5 hPl)
        have hQ5 := Rg.hid (hQ.out.below b5 hQl)
        have hb5 := Rg.hid (Rg.chain hbw b5)
        obtain ⟨w5, hw5⟩ : ∃ w5, w5 = wc := ⟨_, rfl⟩
        subst hw5
        have e0 : w5.cell? ⟨X, 0, none⟩ = some (.string x0) := kX.cell 0
        have e1 : w5.cell? ⟨X, 1, none⟩ = some (.int .i64 p0) := kX.cell 1
        have e2 : w5.cell? ⟨X, 2, none⟩ = some (.slice b0 bn0 bc0) := kX.cell 2
        have e3z : w5.cell? ⟨X, 3, none⟩ = some (.slice g0 gn0 gc0) := kX.cell 3
        have f0 : w5.cell? ⟨Y, 0, none⟩ = some (.string x0) := kY.cell 0
        have f1 : w5.cell? ⟨Y, 1, none⟩ = some (.int .i64 p0) := kY.cell 1
        have f2 : w5.cell? ⟨Y, 2, none⟩ = some (.slice b0' bn0 bc0') := kY.cell 2
        have f3z : w5.cell? ⟨Y, 3, none⟩ = some (.slice g0' gn0 gc0') := kY.cell 3
        replace kX := Rg.hid kX
        replace kY := Rg.hid kY
        clear hP hQ b5 hbw
        go_upto_region 7 with (first
          | (go_at_call 32; refine (hI0.out _ hb5.out).mono ?_; rintro e w6 ⟨rfl, b6⟩; have hb6 := Rg.hid (Rg.chain hb5.out b6); have kX6 := kX.out.below b6 kX.out.lt; have kY6 := kY.out.below b6 kY.out.lt; have e3 := kX6.cell 3; have f3 := kY6.cell 3; simp only [List.getElem?_cons_zero, List.getElem?_cons_succ] at e3 f3; have hP6 := Rg.hid (hP5.out.below b6 hP5.out.lt); have hQ6 := Rg.hid (hQ5.out.below b6 hQ5.out.lt); clear hI0 hb5 kX kY hP5 hQ5)
          | (go_at_call 32; refine (hJ0.out _ hb6.out).mono ?_; rintro e w7 ⟨rfl, b7⟩))
        have hb7 := Rg.chain hb6.out b7
        have hP7 := Rg.hid (hP6.out.below b7 hP6.out.lt)
        have hQ7 := Rg.hid (hQ6.out.below b7 hQ6.out.lt)
        clear b7 hb6 hP6 hQ6 kX6 kY6 e3 f3
        go_wp2
        go_roundw
        case rel => exact ⟨1, by omega, by go_num, hP7, hQ7, hb7⟩
        case measure => simp [intOf]
    · clear hin
      have kP := hP.out
      have kQ := hQ.out
      have a0 : wr.cell? ⟨P, 4, none⟩ = some (.string x1) := kP.cell 4
      have a1 : wr.cell? ⟨P, 5, none⟩ = some (.int .i64 p1) := kP.cell 5
      have a2 : wr.cell? ⟨P, 6, none⟩ = some (.slice b1 bn1 bc1) := kP.cell 6
      have a3 : wr.cell? ⟨P, 7, none⟩ = some (.slice g1 gn1 gc1) := kP.cell 7
      have c0 : wr.cell? ⟨Q, 4, none⟩ = some (.string x1) := kQ.cell 4
      have c1 : wr.cell? ⟨Q, 5, none⟩ = some (.int .i64 p1) := kQ.cell 5
      have c2 : wr.cell? ⟨Q, 6, none⟩ = some (.slice b1' bn1 bc1') := kQ.cell 6
      have c3 : wr.cell? ⟨Q, 7, none⟩ = some (.slice g1' gn1 gc1') := kQ.cell 7
      clear kP kQ
      have hPl := hP.out.lt
      have hQl := hQ.out.lt
      go_upto_region 4 with fail
      go_cut [6, 7] (fun s6 s7 wx => ∃ X Y, s6 = .pointer (some ⟨X, 0, none⟩) ∧ s7 = .pointer (some ⟨Y, 0, none⟩) ∧ X ≠ Y ∧ Rg.Bk X [.string x1, .int .i64 p1, .slice b1 bn1 bc1, .slice g1 gn1 gc1] 27 wx ∧ Rg.Bk Y [.string x1, .int .i64 p1, .slice b1' bn1 bc1', .slice g1' gn1 gc1'] 27 wx ∧ Below wr.heap.size wr wx)
      case first =>
        have hp1 : wr.heap.size ≠ P := by omega
        have hp2 : wr.heap.size ≠ Q := by omega
        have hp3 : wr.heap.size + 1 ≠ P := by omega
        have hp4 : wr.heap.size + 1 ≠ Q := by omega
        clear hP hQ hI0 hJ0 hI1 hJ1
        go_region_held3 (fun w' => w'.cell? ⟨P, 4, none⟩ = some (.string x1) ∧ w'.cell? ⟨P, 5, none⟩ = some (.int .i64 p1) ∧ w'.cell? ⟨P, 6, none⟩ = some (.slice b1 bn1 bc1) ∧ w'.cell? ⟨P, 7, none⟩ = some (.slice g1 gn1 gc1) ∧ w'.cell? ⟨Q, 4, none⟩ = some (.string x1) ∧ w'.cell? ⟨Q, 5, none⟩ = some (.int .i64 p1) ∧ w'.cell? ⟨Q, 6, none⟩ = some (.slice b1' bn1 bc1') ∧ w'.cell? ⟨Q, 7, none⟩ = some (.slice g1' gn1 gc1')) (go_keep) (fail)
        all_goals go_wp2_with fail
        all_goals go_meet
        all_goals first
          | exact ⟨wr.heap.size, wr.heap.size + 1, rfl, rfl, by omega, ((Rg.Bk.new rfl).old _).drew, (Rg.Bk.new (by simp)).drew, (Rg.al2 _ _ _).drew⟩
          | exact ⟨wr.heap.size + 1, wr.heap.size, rfl, rfl, by omega, (Rg.Bk.new (by simp)).drew, ((Rg.Bk.new rfl).old _).drew, (Rg.al2 _ _ _).drew⟩
      case rest =>
        obtain ⟨X, Y, rfl, rfl, hXY, kX, kY, b5⟩ := hcut
        clear a0 a1 a2 a3 c0 c1 c2 c3
        have hP5 := Rg.hid (hP.out.below b5 hPl)
        have hQ5 := Rg.hid (hQ.out.below b5 hQl)
        have hb5 := Rg.hid (Rg.chain hbw b5)
        obtain ⟨w5, hw5⟩ : ∃ w5, w5 = wc := ⟨_, rfl⟩
        subst hw5
        have e0 : w5.cell? ⟨X, 0, none⟩ = some (.string x1) := kX.cell 0
        have e1 : w5.cell? ⟨X, 1, none⟩ = some (.int .i64 p1) := kX.cell 1
        have e2 : w5.cell? ⟨X, 2, none⟩ = some (.slice b1 bn1 bc1) := kX.cell 2
        have e3z : w5.cell? ⟨X, 3, none⟩ = some (.slice g1 gn1 gc1) := kX.cell 3
        have f0 : w5.cell? ⟨Y, 0, none⟩ = some (.string x1) := kY.cell 0
        have f1 : w5.cell? ⟨Y, 1, none⟩ = some (.int .i64 p1) := kY.cell 1
        have f2 : w5.cell? ⟨Y, 2, none⟩ = some (.slice b1' bn1 bc1') := kY.cell 2
        have f3z : w5.cell? ⟨Y, 3, none⟩ = some (.slice g1' gn1 gc1') := kY.cell 3
        replace kX := Rg.hid kX
        replace kY := Rg.hid kY
        clear hP hQ b5 hbw
        go_upto_region 7 with (first
          | (go_at_call 32; refine (hI1.out _ hb5.out).mono ?_; rintro e w6 ⟨rfl, b6⟩; have hb6 := Rg.hid (Rg.chain hb5.out b6); have kX6 := kX.out.below b6 kX.out.lt; have kY6 := kY.out.below b6 kY.out.lt; have e3 := kX6.cell 3; have f3 := kY6.cell 3; simp only [List.getElem?_cons_zero, List.getElem?_cons_succ] at e3 f3; have hP6 := Rg.hid (hP5.out.below b6 hP5.out.lt); have hQ6 := Rg.hid (hQ5.out.below b6 hQ5.out.lt); clear hI1 hb5 kX kY hP5 hQ5)
          | (go_at_call 32; refine (hJ1.out _ hb6.out).mono ?_; rintro e w7 ⟨rfl, b7⟩))
        have hb7 := Rg.chain hb6.out b7
        have hP7 := Rg.hid (hP6.out.below b7 hP6.out.lt)
        have hQ7 := Rg.hid (hQ6.out.below b7 hQ6.out.lt)
        clear b7 hb6 hP6 hQ6 kX6 kY6 e3 f3
        go_wp2
        go_roundw
        case rel => exact ⟨2, by omega, by go_num, hP7, hQ7, hb7⟩
        case measure => simp [intOf]
    · have u0 : wr.cell? ⟨P, 8, none⟩ = some (.bool up) := hP.out.cell 8
      have u1 : wr.cell? ⟨Q, 8, none⟩ = some (.bool up) := hQ.out.cell 8
      go_wp2
      go_ret
      exact ⟨rfl, hbw⟩
end Go.Proofs.Ytalleocmnnnchaa
