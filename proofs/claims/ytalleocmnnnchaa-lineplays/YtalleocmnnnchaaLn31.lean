/-
  Layer 7: the document's there; what its Flip, Lose and Add refuse.
-/
import Derived.Test.YtalleocmnnnchaaLn30
namespace Go.Proofs.Ytalleocmnnnchaa
open Go.RowKit

set_option maxHeartbeats 1000000 in
set_option maxRecDepth 100000 in
theorem rthere_bad (x0 : ByteArray) (p0 : Int) (b0 : Option Addr) (bn0 bc0 : Nat) (g0 : Option Addr) (gn0 gc0 : Nat) (x1 : ByteArray) (p1 : Int) (b1 : Option Addr) (bn1 bc1 : Nat) (g1 : Option Addr) (gn1 gc1 : Nat) (up : Bool) (n : Int) (m : Int) (w : World) (h0 : n ≠ 0) (h1 : n ≠ 1) :
    Calls Try.prog 45 #[.agg #[.string x0, .int .i64 p0, .slice b0 bn0 bc0, .slice g0 gn0 gc0, .string x1, .int .i64 p1, .slice b1 bn1 bc1, .slice g1 gn1 gc1, .bool up], .int .i64 n, .int .i64 m] w fun e w' => e = .returned (.bool (false)) ∧ Below w.heap.size w w' := by
  have HWy : Hid (∀ W, Calls Try.prog 37 #[.int .i64 n] W fun e w' => e = .returned (.bool false) ∧ W = w') := fun W => by have := rway_any n W; rw [show decide (n = 0 ∨ n = 1) = false by simp [h0, h1]] at this; exact this.mono fun e w' h => ⟨h.1, h.2.symm⟩
  have hb1 := Rg.hid (Rg.al1 w (.cells #[.string x0, .int .i64 p0, .slice b0 bn0 bc0, .slice g0 gn0 gc0, .string x1, .int .i64 p1, .slice b1 bn1 bc1, .slice g1 gn1 gc1, .bool up] 30))
  go_enter Try.func45, Try.ntmps45
  go_wp2_with (go_at_call 37; refine (HWy.out _).mono ?_; rintro e w9 ⟨rfl, rfl⟩)
  go_ret
  exact ⟨rfl, hb1.out⟩

set_option maxHeartbeats 1000000 in
set_option maxRecDepth 100000 in
theorem rthere_down0 (x0 : ByteArray) (p0 : Int) (b0 : Option Addr) (bn0 bc0 : Nat) (g0 : Option Addr) (gn0 gc0 : Nat) (x1 : ByteArray) (p1 : Int) (b1 : Option Addr) (bn1 bc1 : Nat) (g1 : Option Addr) (gn1 gc1 : Nat) (m : Int) (w : World) :
    Calls Try.prog 45 #[.agg #[.string x0, .int .i64 p0, .slice b0 bn0 bc0, .slice g0 gn0 gc0, .string x1, .int .i64 p1, .slice b1 bn1 bc1, .slice g1 gn1 gc1, .bool false], .int .i64 0, .int .i64 m] w fun e w' => e = .returned (.bool (false)) ∧ Below w.heap.size w w' := by
  have HWy : Hid (∀ W, Calls Try.prog 37 #[.int .i64 0] W fun e w' => e = .returned (.bool true) ∧ W = w') := fun W => (rway_any 0 W).mono fun e w' h => ⟨h.1, h.2.symm⟩
  have hb1 := Rg.hid (Rg.al1 w (.cells #[.string x0, .int .i64 p0, .slice b0 bn0 bc0, .slice g0 gn0 gc0, .string x1, .int .i64 p1, .slice b1 bn1 bc1, .slice g1 gn1 gc1, .bool false] 30))
  go_enter Try.func45, Try.ntmps45
  go_wp2_with (go_at_call 37; refine (HWy.out _).mono ?_; rintro e w9 ⟨rfl, rfl⟩)
  go_ret
  exact ⟨rfl, hb1.out⟩

set_option maxHeartbeats 1000000 in
set_option maxRecDepth 100000 in
theorem rthere_up0 (x0 : ByteArray) (p0 : Int) (b0 : Option Addr) (bn0 bc0 : Nat) (g0 : Option Addr) (gn0 gc0 : Nat) (x1 : ByteArray) (p1 : Int) (b1 : Option Addr) (bn1 bc1 : Nat) (g1 : Option Addr) (gn1 gc1 : Nat) (m : Int) (w : World) :
    Calls Try.prog 45 #[.agg #[.string x0, .int .i64 p0, .slice b0 bn0 bc0, .slice g0 gn0 gc0, .string x1, .int .i64 p1, .slice b1 bn1 bc1, .slice g1 gn1 gc1, .bool true], .int .i64 0, .int .i64 m] w fun e w' => e = .returned (.bool (decide (0 ≤ m ∧ m < (x0.size : Int)))) ∧ Below w.heap.size w w' := by
  have HWy : Hid (∀ W, Calls Try.prog 37 #[.int .i64 0] W fun e w' => e = .returned (.bool true) ∧ W = w') := fun W => (rway_any 0 W).mono fun e w' h => ⟨h.1, h.2.symm⟩
  have hb1 := Rg.hid (Rg.al1 w (.cells #[.string x0, .int .i64 p0, .slice b0 bn0 bc0, .slice g0 gn0 gc0, .string x1, .int .i64 p1, .slice b1 bn1 bc1, .slice g1 gn1 gc1, .bool true] 30))
  by_cases c0 : 0 ≤ m
  · have d0 : decide (0 ≤ m) = true := by simp only [decide_eq_true_eq]; exact c0
    by_cases c1 : m < (x0.size : Int)
    · have d1 : decide (m < (x0.size : Int)) = true := by simp only [decide_eq_true_eq]; exact c1
      rw [show decide (0 ≤ m ∧ m < (x0.size : Int)) = true by simp only [decide_eq_true_eq]; exact ⟨c0, c1⟩]
      clear c0 c1
      go_enter Try.func45, Try.ntmps45
      go_wp2_with (go_at_call 37; refine (HWy.out _).mono ?_; rintro e w9 ⟨rfl, rfl⟩)
      go_ret
      exact ⟨rfl, hb1.out⟩
    · have d1 : decide (m < (x0.size : Int)) = false := by simp only [decide_eq_false_iff_not]; exact c1
      rw [show decide (0 ≤ m ∧ m < (x0.size : Int)) = false by simp only [decide_eq_false_iff_not]; exact fun h => c1 h.2]
      clear c0 c1
      go_enter Try.func45, Try.ntmps45
      go_wp2_with (go_at_call 37; refine (HWy.out _).mono ?_; rintro e w9 ⟨rfl, rfl⟩)
      go_ret
      exact ⟨rfl, hb1.out⟩
  · have d0 : decide (0 ≤ m) = false := by simp only [decide_eq_false_iff_not]; exact c0
    rw [show decide (0 ≤ m ∧ m < (x0.size : Int)) = false by simp only [decide_eq_false_iff_not]; exact fun h => c0 h.1]
    clear c0
    go_enter Try.func45, Try.ntmps45
    go_wp2_with (go_at_call 37; refine (HWy.out _).mono ?_; rintro e w9 ⟨rfl, rfl⟩)
    go_ret
    exact ⟨rfl, hb1.out⟩

set_option maxHeartbeats 1000000 in
set_option maxRecDepth 100000 in
theorem rthere_down1 (x0 : ByteArray) (p0 : Int) (b0 : Option Addr) (bn0 bc0 : Nat) (g0 : Option Addr) (gn0 gc0 : Nat) (x1 : ByteArray) (p1 : Int) (b1 : Option Addr) (bn1 bc1 : Nat) (g1 : Option Addr) (gn1 gc1 : Nat) (m : Int) (w : World) :
    Calls Try.prog 45 #[.agg #[.string x0, .int .i64 p0, .slice b0 bn0 bc0, .slice g0 gn0 gc0, .string x1, .int .i64 p1, .slice b1 bn1 bc1, .slice g1 gn1 gc1, .bool false], .int .i64 1, .int .i64 m] w fun e w' => e = .returned (.bool (false)) ∧ Below w.heap.size w w' := by
  have HWy : Hid (∀ W, Calls Try.prog 37 #[.int .i64 1] W fun e w' => e = .returned (.bool true) ∧ W = w') := fun W => (rway_any 1 W).mono fun e w' h => ⟨h.1, h.2.symm⟩
  have hb1 := Rg.hid (Rg.al1 w (.cells #[.string x0, .int .i64 p0, .slice b0 bn0 bc0, .slice g0 gn0 gc0, .string x1, .int .i64 p1, .slice b1 bn1 bc1, .slice g1 gn1 gc1, .bool false] 30))
  go_enter Try.func45, Try.ntmps45
  go_wp2_with (go_at_call 37; refine (HWy.out _).mono ?_; rintro e w9 ⟨rfl, rfl⟩)
  go_ret
  exact ⟨rfl, hb1.out⟩

set_option maxHeartbeats 1000000 in
set_option maxRecDepth 100000 in
theorem rthere_up1 (x0 : ByteArray) (p0 : Int) (b0 : Option Addr) (bn0 bc0 : Nat) (g0 : Option Addr) (gn0 gc0 : Nat) (x1 : ByteArray) (p1 : Int) (b1 : Option Addr) (bn1 bc1 : Nat) (g1 : Option Addr) (gn1 gc1 : Nat) (m : Int) (w : World) :
    Calls Try.prog 45 #[.agg #[.string x0, .int .i64 p0, .slice b0 bn0 bc0, .slice g0 gn0 gc0, .string x1, .int .i64 p1, .slice b1 bn1 bc1, .slice g1 gn1 gc1, .bool true], .int .i64 1, .int .i64 m] w fun e w' => e = .returned (.bool (decide (0 ≤ m ∧ m < (x1.size : Int)))) ∧ Below w.heap.size w w' := by
  have HWy : Hid (∀ W, Calls Try.prog 37 #[.int .i64 1] W fun e w' => e = .returned (.bool true) ∧ W = w') := fun W => (rway_any 1 W).mono fun e w' h => ⟨h.1, h.2.symm⟩
  have hb1 := Rg.hid (Rg.al1 w (.cells #[.string x0, .int .i64 p0, .slice b0 bn0 bc0, .slice g0 gn0 gc0, .string x1, .int .i64 p1, .slice b1 bn1 bc1, .slice g1 gn1 gc1, .bool true] 30))
  by_cases c0 : 0 ≤ m
  · have d0 : decide (0 ≤ m) = true := by simp only [decide_eq_true_eq]; exact c0
    by_cases c1 : m < (x1.size : Int)
    · have d1 : decide (m < (x1.size : Int)) = true := by simp only [decide_eq_true_eq]; exact c1
      rw [show decide (0 ≤ m ∧ m < (x1.size : Int)) = true by simp only [decide_eq_true_eq]; exact ⟨c0, c1⟩]
      clear c0 c1
      go_enter Try.func45, Try.ntmps45
      go_wp2_with (go_at_call 37; refine (HWy.out _).mono ?_; rintro e w9 ⟨rfl, rfl⟩)
      go_ret
      exact ⟨rfl, hb1.out⟩
    · have d1 : decide (m < (x1.size : Int)) = false := by simp only [decide_eq_false_iff_not]; exact c1
      rw [show decide (0 ≤ m ∧ m < (x1.size : Int)) = false by simp only [decide_eq_false_iff_not]; exact fun h => c1 h.2]
      clear c0 c1
      go_enter Try.func45, Try.ntmps45
      go_wp2_with (go_at_call 37; refine (HWy.out _).mono ?_; rintro e w9 ⟨rfl, rfl⟩)
      go_ret
      exact ⟨rfl, hb1.out⟩
  · have d0 : decide (0 ≤ m) = false := by simp only [decide_eq_false_iff_not]; exact c0
    rw [show decide (0 ≤ m ∧ m < (x1.size : Int)) = false by simp only [decide_eq_false_iff_not]; exact fun h => c0 h.1]
    clear c0
    go_enter Try.func45, Try.ntmps45
    go_wp2_with (go_at_call 37; refine (HWy.out _).mono ?_; rintro e w9 ⟨rfl, rfl⟩)
    go_ret
    exact ⟨rfl, hb1.out⟩

set_option maxHeartbeats 1000000 in
set_option maxRecDepth 100000 in
theorem rlose_bad (x0 : ByteArray) (p0 : Int) (b0 : Option Addr) (bn0 bc0 : Nat) (g0 : Option Addr) (gn0 gc0 : Nat) (x1 : ByteArray) (p1 : Int) (b1 : Option Addr) (bn1 bc1 : Nat) (g1 : Option Addr) (gn1 gc1 : Nat) (up : Bool) (n : Int) (m : Int) (bad0 gap0 bad1 gap1 : List Int) (h_bn0 : Hid (bn0 = bad0.length)) (h_gn0 : Hid (gn0 = gap0.length)) (h_bn1 : Hid (bn1 = bad1.length)) (h_gn1 : Hid (gn1 = gap1.length)) (l_bn0 : bn0 ≤ 1000000000) (l_gn0 : gn0 ≤ 1000000000) (l_bn1 : bn1 ≤ 1000000000) (l_gn1 : gn1 ≤ 1000000000) (w : World) (hR0 : IRow w b0 bad0 ∧ bn0 ≤ bc0 ∧ IRow w g0 gap0 ∧ gn0 ≤ gc0 ∧ IRow w b1 bad1 ∧ bn1 ≤ bc1 ∧ IRow w g1 gap1 ∧ gn1 ≤ gc1) (h0 : n ≠ 0) (h1 : n ≠ 1) :
    Calls Try.prog 28 #[.agg #[.string x0, .int .i64 p0, .slice b0 bn0 bc0, .slice g0 gn0 gc0, .string x1, .int .i64 p1, .slice b1 bn1 bc1, .slice g1 gn1 gc1, .bool up], .int .i64 n, .int .i64 m] w fun e w' => RPost (x0) (p0) (bn0) (gn0) (x1) (p1) (bn1) (gn1) (up) (bad0) (gap0) (bad1) (gap1) (.int .i64 6) w e w' := by
  obtain ⟨s_b0, q_b0, s_g0, q_g0, s_b1, q_b1, s_g1, q_g1⟩ := hR0
  have HO : Hid (∀ W, Below w.heap.size w W → Calls Try.prog 44 #[.agg #[.string x0, .int .i64 p0, .slice b0 bn0 bc0, .slice g0 gn0 gc0, .string x1, .int .i64 p1, .slice b1 bn1 bc1, .slice g1 gn1 gc1, .bool up]] W fun e w' => OwnPost x0 p0 bn0 gn0 x1 p1 bn1 gn1 up bad0 gap0 bad1 gap1 W e w') := fun W hW => rown_cells x0 p0 b0 bn0 bc0 g0 gn0 gc0 x1 p1 b1 bn1 bc1 g1 gn1 gc1 up bad0 gap0 bad1 gap1 W h_bn0 h_gn0 h_bn1 h_gn1 l_bn0 l_gn0 l_bn1 l_gn1 ⟨s_b0.below hW, q_b0, s_g0.below hW, q_g0, s_b1.below hW, q_b1, s_g1.below hW, q_g1⟩
  clear s_b0 q_b0 s_g0 q_g0 s_b1 q_b1 s_g1 q_g1
  have kB1 : Rg.Bk w.heap.size [.string x0, .int .i64 p0, .slice b0 bn0 bc0, .slice g0 gn0 gc0, .string x1, .int .i64 p1, .slice b1 bn1 bc1, .slice g1 gn1 gc1, .bool up] 30 ((w.alloc (.cells #[.string x0, .int .i64 p0, .slice b0 bn0 bc0, .slice g0 gn0 gc0, .string x1, .int .i64 p1, .slice b1 bn1 bc1, .slice g1 gn1 gc1, .bool up] 30)).alloc (.cells #[.string ⟨#[]⟩, .int .i64 0, .slice none 0 0, .slice none 0 0, .string ⟨#[]⟩, .int .i64 0, .slice none 0 0, .slice none 0 0, .bool false] 30)) := (Rg.Bk.new rfl).old _
  have kR1 : Rg.Bk (w.heap.size + 1) [.string ⟨#[]⟩, .int .i64 0, .slice none 0 0, .slice none 0 0, .string ⟨#[]⟩, .int .i64 0, .slice none 0 0, .slice none 0 0, .bool false] 30 ((w.alloc (.cells #[.string x0, .int .i64 p0, .slice b0 bn0 bc0, .slice g0 gn0 gc0, .string x1, .int .i64 p1, .slice b1 bn1 bc1, .slice g1 gn1 gc1, .bool up] 30)).alloc (.cells #[.string ⟨#[]⟩, .int .i64 0, .slice none 0 0, .slice none 0 0, .string ⟨#[]⟩, .int .i64 0, .slice none 0 0, .slice none 0 0, .bool false] 30)) := Rg.Bk.new (by simp)
  have hb1 := Rg.al2 w (.cells #[.string x0, .int .i64 p0, .slice b0 bn0 bc0, .slice g0 gn0 gc0, .string x1, .int .i64 p1, .slice b1 bn1 bc1, .slice g1 gn1 gc1, .bool up] 30) (.cells #[.string ⟨#[]⟩, .int .i64 0, .slice none 0 0, .slice none 0 0, .string ⟨#[]⟩, .int .i64 0, .slice none 0 0, .slice none 0 0, .bool false] 30)
  go_enter Try.func28, Try.ntmps28
  go_upto_region 1 with fail
  generalize World.alloc _ _ = w1 at *
  obtain ⟨B, hB⟩ : ∃ B, B = w.heap.size := ⟨_, rfl⟩
  obtain ⟨R, hR⟩ : ∃ R, R = w.heap.size + 1 := ⟨_, rfl⟩
  rw [← hR] at kR1 ⊢
  rw [← hB] at kB1 ⊢
  have hBR : B ≠ R := by omega
  have hBw : w.heap.size ≤ B := by omega
  have hRw : w.heap.size ≤ R := by omega
  clear hB hR
  have z0 : w1.cell? ⟨B, 0, none⟩ = some (.string x0) := kB1.cell 0
  have z1 : w1.cell? ⟨B, 1, none⟩ = some (.int .i64 p0) := kB1.cell 1
  have z2 : w1.cell? ⟨B, 2, none⟩ = some (.slice b0 bn0 bc0) := kB1.cell 2
  have z3 : w1.cell? ⟨B, 3, none⟩ = some (.slice g0 gn0 gc0) := kB1.cell 3
  have z4 : w1.cell? ⟨B, 4, none⟩ = some (.string x1) := kB1.cell 4
  have z5 : w1.cell? ⟨B, 5, none⟩ = some (.int .i64 p1) := kB1.cell 5
  have z6 : w1.cell? ⟨B, 6, none⟩ = some (.slice b1 bn1 bc1) := kB1.cell 6
  have z7 : w1.cell? ⟨B, 7, none⟩ = some (.slice g1 gn1 gc1) := kB1.cell 7
  have z8 : w1.cell? ⟨B, 8, none⟩ = some (.bool up) := kB1.cell 8
  replace kB1 := Rg.hid kB1
  replace kR1 := Rg.hid kR1
  replace hb1 := Rg.hid hb1
  go_upto_region 2 with (go_at_call 44; refine (HO.out _ hb1.out).mono ?_; rintro e w2 ⟨b0', bc0', g0', gc0', b1', bc1', g1', gc1', rfl, ⟨r_b0, q_b0, r_g0, q_g0, r_b1, q_b1, r_g1, q_g1⟩, b2⟩; have kB2 := kB1.out.below b2 kB1.out.lt; have y0 := kB2.cell 0; have y1 := kB2.cell 1; have y2 := kB2.cell 2; have y3 := kB2.cell 3; have y4 := kB2.cell 4; have y5 := kB2.cell 5; have y6 := kB2.cell 6; have y7 := kB2.cell 7; have y8 := kB2.cell 8; simp only [List.getElem?_cons_zero, List.getElem?_cons_succ] at y0 y1 y2 y3 y4 y5 y6 y7 y8; have yf := kB2.thaw)
  obtain ⟨kB3, oB⟩ := ret9 kB2 rfl (.string x0) (.int .i64 p0) (.slice b0' bn0 bc0') (.slice g0' gn0 gc0') (.string x1) (.int .i64 p1) (.slice b1' bn1 bc1') (.slice g1' gn1 gc1') (.bool up)
  replace r_b0 := Rg.hid (r_b0.only kB2 line_int oB)
  replace r_g0 := Rg.hid (r_g0.only kB2 line_int oB)
  replace r_b1 := Rg.hid (r_b1.only kB2 line_int oB)
  replace r_g1 := Rg.hid (r_g1.only kB2 line_int oB)
  have kR3 := (kR1.out.below b2 kR1.out.lt).same (oB.block _ (Ne.symm hBR))
  have hb3 := Rg.hid ((Rg.chain hb1.out b2).trans (oB.bel hBw))
  clear kB1 kR1 hb1 kB2 oB b2 yf y0 y1 y2 y3 y4 y5 y6 y7 y8 z0 z1 z2 z3 z4 z5 z6 z7 z8 HO
  generalize World.setCell _ _ _ = w3 at *
  have HT : Hid (∀ W, Calls Try.prog 45 #[.agg #[.string x0, .int .i64 p0, .slice b0' bn0 bc0', .slice g0' gn0 gc0', .string x1, .int .i64 p1, .slice b1' bn1 bc1', .slice g1' gn1 gc1', .bool up], .int .i64 n, .int .i64 m] W fun e w' => e = .returned (.bool false) ∧ Below W.heap.size W w') := fun W => rthere_bad x0 p0 b0' bn0 bc0' g0' gn0 gc0' x1 p1 b1' bn1 bc1' g1' gn1 gc1' up n m W h0 h1
  have u0 : w3.cell? ⟨B, 0, none⟩ = some (.string x0) := kB3.cell 0
  have u1 : w3.cell? ⟨B, 1, none⟩ = some (.int .i64 p0) := kB3.cell 1
  have u2 : w3.cell? ⟨B, 2, none⟩ = some (.slice b0' bn0 bc0') := kB3.cell 2
  have u3 : w3.cell? ⟨B, 3, none⟩ = some (.slice g0' gn0 gc0') := kB3.cell 3
  have u4 : w3.cell? ⟨B, 4, none⟩ = some (.string x1) := kB3.cell 4
  have u5 : w3.cell? ⟨B, 5, none⟩ = some (.int .i64 p1) := kB3.cell 5
  have u6 : w3.cell? ⟨B, 6, none⟩ = some (.slice b1' bn1 bc1') := kB3.cell 6
  have u7 : w3.cell? ⟨B, 7, none⟩ = some (.slice g1' gn1 gc1') := kB3.cell 7
  have u8 : w3.cell? ⟨B, 8, none⟩ = some (.bool up) := kB3.cell 8
  replace kB3 := Rg.hid kB3
  replace kR3 := Rg.hid kR3
  go_upto_region 3 with (go_at_call 45; refine (HT.out _).mono ?_; rintro e w4 ⟨rfl, b4⟩)
  have kB4 := kB3.out.below b4 kB3.out.lt
  have kR4 := kR3.out.below b4 kR3.out.lt
  have hb4 := Rg.hid (Rg.chain hb3.out b4)
  replace r_b0 := Rg.hid (r_b0.out.below b4)
  replace r_g0 := Rg.hid (r_g0.out.below b4)
  replace r_b1 := Rg.hid (r_b1.out.below b4)
  replace r_g1 := Rg.hid (r_g1.out.below b4)
  clear kB3 kR3 hb3 b4 HT u0 u1 u2 u3 u4 u5 u6 u7 u8
  obtain ⟨kE, oE⟩ := ret9 kR4 rfl (.string x0) (.int .i64 p0) (.slice b0' bn0 bc0') (.slice g0' gn0 gc0') (.string x1) (.int .i64 p1) (.slice b1' bn1 bc1') (.slice g1' gn1 gc1') (.bool up)
  have post := Rg.hid ((⟨_, _, _, _, _, _, _, _, rfl, ⟨r_b0.out.only kR4 line_int oE, q_b0, r_g0.out.only kR4 line_int oE, q_g0, r_b1.out.only kR4 line_int oE, q_b1, r_g1.out.only kR4 line_int oE, q_g1⟩, hb4.out.trans (oE.bel hRw)⟩ : RPost (x0) (p0) (bn0) (gn0) (x1) (p1) (bn1) (gn1) (up) (bad0) (gap0) (bad1) (gap1) (.int .i64 6) w (.returned (.tuple #[.agg #[.string x0, .int .i64 p0, .slice b0' bn0 bc0', .slice g0' gn0 gc0', .string x1, .int .i64 p1, .slice b1' bn1 bc1', .slice g1' gn1 gc1', .bool up], .int .i64 6])) _))
  replace kE := Rg.hid kE
  have d0' : w4.cell? ⟨B, 0, none⟩ = some (.string x0) := kB4.cell 0
  have d1' : w4.cell? ⟨B, 1, none⟩ = some (.int .i64 p0) := kB4.cell 1
  have d2' : w4.cell? ⟨B, 2, none⟩ = some (.slice b0' bn0 bc0') := kB4.cell 2
  have d3' : w4.cell? ⟨B, 3, none⟩ = some (.slice g0' gn0 gc0') := kB4.cell 3
  have d4' : w4.cell? ⟨B, 4, none⟩ = some (.string x1) := kB4.cell 4
  have d5' : w4.cell? ⟨B, 5, none⟩ = some (.int .i64 p1) := kB4.cell 5
  have d6' : w4.cell? ⟨B, 6, none⟩ = some (.slice b1' bn1 bc1') := kB4.cell 6
  have d7' : w4.cell? ⟨B, 7, none⟩ = some (.slice g1' gn1 gc1') := kB4.cell 7
  have d8' : w4.cell? ⟨B, 8, none⟩ = some (.bool up) := kB4.cell 8
  have r0 : w4.cell? ⟨R, 0, none⟩ = some (.string ⟨#[]⟩) := kR4.cell 0
  have r1 : w4.cell? ⟨R, 1, none⟩ = some (.int .i64 0) := kR4.cell 1
  have r2 : w4.cell? ⟨R, 2, none⟩ = some (.slice none 0 0) := kR4.cell 2
  have r3 : w4.cell? ⟨R, 3, none⟩ = some (.slice none 0 0) := kR4.cell 3
  have r4 : w4.cell? ⟨R, 4, none⟩ = some (.string ⟨#[]⟩) := kR4.cell 4
  have r5 : w4.cell? ⟨R, 5, none⟩ = some (.int .i64 0) := kR4.cell 5
  have r6 : w4.cell? ⟨R, 6, none⟩ = some (.slice none 0 0) := kR4.cell 6
  have r7 : w4.cell? ⟨R, 7, none⟩ = some (.slice none 0 0) := kR4.cell 7
  have r8 : w4.cell? ⟨R, 8, none⟩ = some (.bool false) := kR4.cell 8
  have rf := kR4.thaw
  clear oE kR4 kB4 hb4
  go_wp2
  replace kE := kE.out
  replace post := post.out
  generalize World.setCell _ _ _ = WE at *
  exact bodyPost_ret (v := .tuple #[.agg #[.string x0, .int .i64 p0, .slice b0' bn0 bc0', .slice g0' gn0 gc0', .string x1, .int .i64 p1, .slice b1' bn1 bc1', .slice g1' gn1 gc1', .bool up], .int .i64 6]) (by simp [results, Try.results28, go_sem, kE.cell]) rfl post

set_option maxHeartbeats 1000000 in
set_option maxRecDepth 100000 in
theorem rlose_down0 (x0 : ByteArray) (p0 : Int) (b0 : Option Addr) (bn0 bc0 : Nat) (g0 : Option Addr) (gn0 gc0 : Nat) (x1 : ByteArray) (p1 : Int) (b1 : Option Addr) (bn1 bc1 : Nat) (g1 : Option Addr) (gn1 gc1 : Nat) (m : Int) (bad0 gap0 bad1 gap1 : List Int) (h_bn0 : Hid (bn0 = bad0.length)) (h_gn0 : Hid (gn0 = gap0.length)) (h_bn1 : Hid (bn1 = bad1.length)) (h_gn1 : Hid (gn1 = gap1.length)) (l_bn0 : bn0 ≤ 1000000000) (l_gn0 : gn0 ≤ 1000000000) (l_bn1 : bn1 ≤ 1000000000) (l_gn1 : gn1 ≤ 1000000000) (w : World) (hR0 : IRow w b0 bad0 ∧ bn0 ≤ bc0 ∧ IRow w g0 gap0 ∧ gn0 ≤ gc0 ∧ IRow w b1 bad1 ∧ bn1 ≤ bc1 ∧ IRow w g1 gap1 ∧ gn1 ≤ gc1) :
    Calls Try.prog 28 #[.agg #[.string x0, .int .i64 p0, .slice b0 bn0 bc0, .slice g0 gn0 gc0, .string x1, .int .i64 p1, .slice b1 bn1 bc1, .slice g1 gn1 gc1, .bool false], .int .i64 0, .int .i64 m] w fun e w' => RPost (x0) (p0) (bn0) (gn0) (x1) (p1) (bn1) (gn1) (false) (bad0) (gap0) (bad1) (gap1) (.int .i64 6) w e w' := by
  obtain ⟨s_b0, q_b0, s_g0, q_g0, s_b1, q_b1, s_g1, q_g1⟩ := hR0
  have HO : Hid (∀ W, Below w.heap.size w W → Calls Try.prog 44 #[.agg #[.string x0, .int .i64 p0, .slice b0 bn0 bc0, .slice g0 gn0 gc0, .string x1, .int .i64 p1, .slice b1 bn1 bc1, .slice g1 gn1 gc1, .bool false]] W fun e w' => OwnPost x0 p0 bn0 gn0 x1 p1 bn1 gn1 false bad0 gap0 bad1 gap1 W e w') := fun W hW => rown_cells x0 p0 b0 bn0 bc0 g0 gn0 gc0 x1 p1 b1 bn1 bc1 g1 gn1 gc1 false bad0 gap0 bad1 gap1 W h_bn0 h_gn0 h_bn1 h_gn1 l_bn0 l_gn0 l_bn1 l_gn1 ⟨s_b0.below hW, q_b0, s_g0.below hW, q_g0, s_b1.below hW, q_b1, s_g1.below hW, q_g1⟩
  clear s_b0 q_b0 s_g0 q_g0 s_b1 q_b1 s_g1 q_g1
  have kB1 : Rg.Bk w.heap.size [.string x0, .int .i64 p0, .slice b0 bn0 bc0, .slice g0 gn0 gc0, .string x1, .int .i64 p1, .slice b1 bn1 bc1, .slice g1 gn1 gc1, .bool false] 30 ((w.alloc (.cells #[.string x0, .int .i64 p0, .slice b0 bn0 bc0, .slice g0 gn0 gc0, .string x1, .int .i64 p1, .slice b1 bn1 bc1, .slice g1 gn1 gc1, .bool false] 30)).alloc (.cells #[.string ⟨#[]⟩, .int .i64 0, .slice none 0 0, .slice none 0 0, .string ⟨#[]⟩, .int .i64 0, .slice none 0 0, .slice none 0 0, .bool false] 30)) := (Rg.Bk.new rfl).old _
  have kR1 : Rg.Bk (w.heap.size + 1) [.string ⟨#[]⟩, .int .i64 0, .slice none 0 0, .slice none 0 0, .string ⟨#[]⟩, .int .i64 0, .slice none 0 0, .slice none 0 0, .bool false] 30 ((w.alloc (.cells #[.string x0, .int .i64 p0, .slice b0 bn0 bc0, .slice g0 gn0 gc0, .string x1, .int .i64 p1, .slice b1 bn1 bc1, .slice g1 gn1 gc1, .bool false] 30)).alloc (.cells #[.string ⟨#[]⟩, .int .i64 0, .slice none 0 0, .slice none 0 0, .string ⟨#[]⟩, .int .i64 0, .slice none 0 0, .slice none 0 0, .bool false] 30)) := Rg.Bk.new (by simp)
  have hb1 := Rg.al2 w (.cells #[.string x0, .int .i64 p0, .slice b0 bn0 bc0, .slice g0 gn0 gc0, .string x1, .int .i64 p1, .slice b1 bn1 bc1, .slice g1 gn1 gc1, .bool false] 30) (.cells #[.string ⟨#[]⟩, .int .i64 0, .slice none 0 0, .slice none 0 0, .string ⟨#[]⟩, .int .i64 0, .slice none 0 0, .slice none 0 0, .bool false] 30)
  go_enter Try.func28, Try.ntmps28
  go_upto_region 1 with fail
  generalize World.alloc _ _ = w1 at *
  obtain ⟨B, hB⟩ : ∃ B, B = w.heap.size := ⟨_, rfl⟩
  obtain ⟨R, hR⟩ : ∃ R, R = w.heap.size + 1 := ⟨_, rfl⟩
  rw [← hR] at kR1 ⊢
  rw [← hB] at kB1 ⊢
  have hBR : B ≠ R := by omega
  have hBw : w.heap.size ≤ B := by omega
  have hRw : w.heap.size ≤ R := by omega
  clear hB hR
  have z0 : w1.cell? ⟨B, 0, none⟩ = some (.string x0) := kB1.cell 0
  have z1 : w1.cell? ⟨B, 1, none⟩ = some (.int .i64 p0) := kB1.cell 1
  have z2 : w1.cell? ⟨B, 2, none⟩ = some (.slice b0 bn0 bc0) := kB1.cell 2
  have z3 : w1.cell? ⟨B, 3, none⟩ = some (.slice g0 gn0 gc0) := kB1.cell 3
  have z4 : w1.cell? ⟨B, 4, none⟩ = some (.string x1) := kB1.cell 4
  have z5 : w1.cell? ⟨B, 5, none⟩ = some (.int .i64 p1) := kB1.cell 5
  have z6 : w1.cell? ⟨B, 6, none⟩ = some (.slice b1 bn1 bc1) := kB1.cell 6
  have z7 : w1.cell? ⟨B, 7, none⟩ = some (.slice g1 gn1 gc1) := kB1.cell 7
  have z8 : w1.cell? ⟨B, 8, none⟩ = some (.bool false) := kB1.cell 8
  replace kB1 := Rg.hid kB1
  replace kR1 := Rg.hid kR1
  replace hb1 := Rg.hid hb1
  go_upto_region 2 with (go_at_call 44; refine (HO.out _ hb1.out).mono ?_; rintro e w2 ⟨b0', bc0', g0', gc0', b1', bc1', g1', gc1', rfl, ⟨r_b0, q_b0, r_g0, q_g0, r_b1, q_b1, r_g1, q_g1⟩, b2⟩; have kB2 := kB1.out.below b2 kB1.out.lt; have y0 := kB2.cell 0; have y1 := kB2.cell 1; have y2 := kB2.cell 2; have y3 := kB2.cell 3; have y4 := kB2.cell 4; have y5 := kB2.cell 5; have y6 := kB2.cell 6; have y7 := kB2.cell 7; have y8 := kB2.cell 8; simp only [List.getElem?_cons_zero, List.getElem?_cons_succ] at y0 y1 y2 y3 y4 y5 y6 y7 y8; have yf := kB2.thaw)
  obtain ⟨kB3, oB⟩ := ret9 kB2 rfl (.string x0) (.int .i64 p0) (.slice b0' bn0 bc0') (.slice g0' gn0 gc0') (.string x1) (.int .i64 p1) (.slice b1' bn1 bc1') (.slice g1' gn1 gc1') (.bool false)
  replace r_b0 := Rg.hid (r_b0.only kB2 line_int oB)
  replace r_g0 := Rg.hid (r_g0.only kB2 line_int oB)
  replace r_b1 := Rg.hid (r_b1.only kB2 line_int oB)
  replace r_g1 := Rg.hid (r_g1.only kB2 line_int oB)
  have kR3 := (kR1.out.below b2 kR1.out.lt).same (oB.block _ (Ne.symm hBR))
  have hb3 := Rg.hid ((Rg.chain hb1.out b2).trans (oB.bel hBw))
  clear kB1 kR1 hb1 kB2 oB b2 yf y0 y1 y2 y3 y4 y5 y6 y7 y8 z0 z1 z2 z3 z4 z5 z6 z7 z8 HO
  generalize World.setCell _ _ _ = w3 at *
  have HT : Hid (∀ W, Calls Try.prog 45 #[.agg #[.string x0, .int .i64 p0, .slice b0' bn0 bc0', .slice g0' gn0 gc0', .string x1, .int .i64 p1, .slice b1' bn1 bc1', .slice g1' gn1 gc1', .bool false], .int .i64 0, .int .i64 m] W fun e w' => e = .returned (.bool false) ∧ Below W.heap.size W w') := fun W => rthere_down0 x0 p0 b0' bn0 bc0' g0' gn0 gc0' x1 p1 b1' bn1 bc1' g1' gn1 gc1' m W
  have u0 : w3.cell? ⟨B, 0, none⟩ = some (.string x0) := kB3.cell 0
  have u1 : w3.cell? ⟨B, 1, none⟩ = some (.int .i64 p0) := kB3.cell 1
  have u2 : w3.cell? ⟨B, 2, none⟩ = some (.slice b0' bn0 bc0') := kB3.cell 2
  have u3 : w3.cell? ⟨B, 3, none⟩ = some (.slice g0' gn0 gc0') := kB3.cell 3
  have u4 : w3.cell? ⟨B, 4, none⟩ = some (.string x1) := kB3.cell 4
  have u5 : w3.cell? ⟨B, 5, none⟩ = some (.int .i64 p1) := kB3.cell 5
  have u6 : w3.cell? ⟨B, 6, none⟩ = some (.slice b1' bn1 bc1') := kB3.cell 6
  have u7 : w3.cell? ⟨B, 7, none⟩ = some (.slice g1' gn1 gc1') := kB3.cell 7
  have u8 : w3.cell? ⟨B, 8, none⟩ = some (.bool false) := kB3.cell 8
  replace kB3 := Rg.hid kB3
  replace kR3 := Rg.hid kR3
  go_upto_region 3 with (go_at_call 45; refine (HT.out _).mono ?_; rintro e w4 ⟨rfl, b4⟩)
  have kB4 := kB3.out.below b4 kB3.out.lt
  have kR4 := kR3.out.below b4 kR3.out.lt
  have hb4 := Rg.hid (Rg.chain hb3.out b4)
  replace r_b0 := Rg.hid (r_b0.out.below b4)
  replace r_g0 := Rg.hid (r_g0.out.below b4)
  replace r_b1 := Rg.hid (r_b1.out.below b4)
  replace r_g1 := Rg.hid (r_g1.out.below b4)
  clear kB3 kR3 hb3 b4 HT u0 u1 u2 u3 u4 u5 u6 u7 u8
  obtain ⟨kE, oE⟩ := ret9 kR4 rfl (.string x0) (.int .i64 p0) (.slice b0' bn0 bc0') (.slice g0' gn0 gc0') (.string x1) (.int .i64 p1) (.slice b1' bn1 bc1') (.slice g1' gn1 gc1') (.bool false)
  have post := Rg.hid ((⟨_, _, _, _, _, _, _, _, rfl, ⟨r_b0.out.only kR4 line_int oE, q_b0, r_g0.out.only kR4 line_int oE, q_g0, r_b1.out.only kR4 line_int oE, q_b1, r_g1.out.only kR4 line_int oE, q_g1⟩, hb4.out.trans (oE.bel hRw)⟩ : RPost (x0) (p0) (bn0) (gn0) (x1) (p1) (bn1) (gn1) (false) (bad0) (gap0) (bad1) (gap1) (.int .i64 6) w (.returned (.tuple #[.agg #[.string x0, .int .i64 p0, .slice b0' bn0 bc0', .slice g0' gn0 gc0', .string x1, .int .i64 p1, .slice b1' bn1 bc1', .slice g1' gn1 gc1', .bool false], .int .i64 6])) _))
  replace kE := Rg.hid kE
  have d0' : w4.cell? ⟨B, 0, none⟩ = some (.string x0) := kB4.cell 0
  have d1' : w4.cell? ⟨B, 1, none⟩ = some (.int .i64 p0) := kB4.cell 1
  have d2' : w4.cell? ⟨B, 2, none⟩ = some (.slice b0' bn0 bc0') := kB4.cell 2
  have d3' : w4.cell? ⟨B, 3, none⟩ = some (.slice g0' gn0 gc0') := kB4.cell 3
  have d4' : w4.cell? ⟨B, 4, none⟩ = some (.string x1) := kB4.cell 4
  have d5' : w4.cell? ⟨B, 5, none⟩ = some (.int .i64 p1) := kB4.cell 5
  have d6' : w4.cell? ⟨B, 6, none⟩ = some (.slice b1' bn1 bc1') := kB4.cell 6
  have d7' : w4.cell? ⟨B, 7, none⟩ = some (.slice g1' gn1 gc1') := kB4.cell 7
  have d8' : w4.cell? ⟨B, 8, none⟩ = some (.bool false) := kB4.cell 8
  have r0 : w4.cell? ⟨R, 0, none⟩ = some (.string ⟨#[]⟩) := kR4.cell 0
  have r1 : w4.cell? ⟨R, 1, none⟩ = some (.int .i64 0) := kR4.cell 1
  have r2 : w4.cell? ⟨R, 2, none⟩ = some (.slice none 0 0) := kR4.cell 2
  have r3 : w4.cell? ⟨R, 3, none⟩ = some (.slice none 0 0) := kR4.cell 3
  have r4 : w4.cell? ⟨R, 4, none⟩ = some (.string ⟨#[]⟩) := kR4.cell 4
  have r5 : w4.cell? ⟨R, 5, none⟩ = some (.int .i64 0) := kR4.cell 5
  have r6 : w4.cell? ⟨R, 6, none⟩ = some (.slice none 0 0) := kR4.cell 6
  have r7 : w4.cell? ⟨R, 7, none⟩ = some (.slice none 0 0) := kR4.cell 7
  have r8 : w4.cell? ⟨R, 8, none⟩ = some (.bool false) := kR4.cell 8
  have rf := kR4.thaw
  clear oE kR4 kB4 hb4
  go_wp2
  replace kE := kE.out
  replace post := post.out
  generalize World.setCell _ _ _ = WE at *
  exact bodyPost_ret (v := .tuple #[.agg #[.string x0, .int .i64 p0, .slice b0' bn0 bc0', .slice g0' gn0 gc0', .string x1, .int .i64 p1, .slice b1' bn1 bc1', .slice g1' gn1 gc1', .bool false], .int .i64 6]) (by simp [results, Try.results28, go_sem, kE.cell]) rfl post

set_option maxHeartbeats 1000000 in
set_option maxRecDepth 100000 in
theorem rlose_none0 (x0 : ByteArray) (p0 : Int) (b0 : Option Addr) (bn0 bc0 : Nat) (g0 : Option Addr) (gn0 gc0 : Nat) (x1 : ByteArray) (p1 : Int) (b1 : Option Addr) (bn1 bc1 : Nat) (g1 : Option Addr) (gn1 gc1 : Nat) (m : Int) (bad0 gap0 bad1 gap1 : List Int) (h_bn0 : Hid (bn0 = bad0.length)) (h_gn0 : Hid (gn0 = gap0.length)) (h_bn1 : Hid (bn1 = bad1.length)) (h_gn1 : Hid (gn1 = gap1.length)) (l_bn0 : bn0 ≤ 1000000000) (l_gn0 : gn0 ≤ 1000000000) (l_bn1 : bn1 ≤ 1000000000) (l_gn1 : gn1 ≤ 1000000000) (w : World) (hR0 : IRow w b0 bad0 ∧ bn0 ≤ bc0 ∧ IRow w g0 gap0 ∧ gn0 ≤ gc0 ∧ IRow w b1 bad1 ∧ bn1 ≤ bc1 ∧ IRow w g1 gap1 ∧ gn1 ≤ gc1) (hat : ¬ (0 ≤ m ∧ m < (x0.size : Int))) :
    Calls Try.prog 28 #[.agg #[.string x0, .int .i64 p0, .slice b0 bn0 bc0, .slice g0 gn0 gc0, .string x1, .int .i64 p1, .slice b1 bn1 bc1, .slice g1 gn1 gc1, .bool true], .int .i64 0, .int .i64 m] w fun e w' => RPost (x0) (p0) (bn0) (gn0) (x1) (p1) (bn1) (gn1) (true) (bad0) (gap0) (bad1) (gap1) (.int .i64 6) w e w' := by
  obtain ⟨s_b0, q_b0, s_g0, q_g0, s_b1, q_b1, s_g1, q_g1⟩ := hR0
  have HO : Hid (∀ W, Below w.heap.size w W → Calls Try.prog 44 #[.agg #[.string x0, .int .i64 p0, .slice b0 bn0 bc0, .slice g0 gn0 gc0, .string x1, .int .i64 p1, .slice b1 bn1 bc1, .slice g1 gn1 gc1, .bool true]] W fun e w' => OwnPost x0 p0 bn0 gn0 x1 p1 bn1 gn1 true bad0 gap0 bad1 gap1 W e w') := fun W hW => rown_cells x0 p0 b0 bn0 bc0 g0 gn0 gc0 x1 p1 b1 bn1 bc1 g1 gn1 gc1 true bad0 gap0 bad1 gap1 W h_bn0 h_gn0 h_bn1 h_gn1 l_bn0 l_gn0 l_bn1 l_gn1 ⟨s_b0.below hW, q_b0, s_g0.below hW, q_g0, s_b1.below hW, q_b1, s_g1.below hW, q_g1⟩
  clear s_b0 q_b0 s_g0 q_g0 s_b1 q_b1 s_g1 q_g1
  have kB1 : Rg.Bk w.heap.size [.string x0, .int .i64 p0, .slice b0 bn0 bc0, .slice g0 gn0 gc0, .string x1, .int .i64 p1, .slice b1 bn1 bc1, .slice g1 gn1 gc1, .bool true] 30 ((w.alloc (.cells #[.string x0, .int .i64 p0, .slice b0 bn0 bc0, .slice g0 gn0 gc0, .string x1, .int .i64 p1, .slice b1 bn1 bc1, .slice g1 gn1 gc1, .bool true] 30)).alloc (.cells #[.string ⟨#[]⟩, .int .i64 0, .slice none 0 0, .slice none 0 0, .string ⟨#[]⟩, .int .i64 0, .slice none 0 0, .slice none 0 0, .bool false] 30)) := (Rg.Bk.new rfl).old _
  have kR1 : Rg.Bk (w.heap.size + 1) [.string ⟨#[]⟩, .int .i64 0, .slice none 0 0, .slice none 0 0, .string ⟨#[]⟩, .int .i64 0, .slice none 0 0, .slice none 0 0, .bool false] 30 ((w.alloc (.cells #[.string x0, .int .i64 p0, .slice b0 bn0 bc0, .slice g0 gn0 gc0, .string x1, .int .i64 p1, .slice b1 bn1 bc1, .slice g1 gn1 gc1, .bool true] 30)).alloc (.cells #[.string ⟨#[]⟩, .int .i64 0, .slice none 0 0, .slice none 0 0, .string ⟨#[]⟩, .int .i64 0, .slice none 0 0, .slice none 0 0, .bool false] 30)) := Rg.Bk.new (by simp)
  have hb1 := Rg.al2 w (.cells #[.string x0, .int .i64 p0, .slice b0 bn0 bc0, .slice g0 gn0 gc0, .string x1, .int .i64 p1, .slice b1 bn1 bc1, .slice g1 gn1 gc1, .bool true] 30) (.cells #[.string ⟨#[]⟩, .int .i64 0, .slice none 0 0, .slice none 0 0, .string ⟨#[]⟩, .int .i64 0, .slice none 0 0, .slice none 0 0, .bool false] 30)
  go_enter Try.func28, Try.ntmps28
  go_upto_region 1 with fail
  generalize World.alloc _ _ = w1 at *
  obtain ⟨B, hB⟩ : ∃ B, B = w.heap.size := ⟨_, rfl⟩
  obtain ⟨R, hR⟩ : ∃ R, R = w.heap.size + 1 := ⟨_, rfl⟩
  rw [← hR] at kR1 ⊢
  rw [← hB] at kB1 ⊢
  have hBR : B ≠ R := by omega
  have hBw : w.heap.size ≤ B := by omega
  have hRw : w.heap.size ≤ R := by omega
  clear hB hR
  have z0 : w1.cell? ⟨B, 0, none⟩ = some (.string x0) := kB1.cell 0
  have z1 : w1.cell? ⟨B, 1, none⟩ = some (.int .i64 p0) := kB1.cell 1
  have z2 : w1.cell? ⟨B, 2, none⟩ = some (.slice b0 bn0 bc0) := kB1.cell 2
  have z3 : w1.cell? ⟨B, 3, none⟩ = some (.slice g0 gn0 gc0) := kB1.cell 3
  have z4 : w1.cell? ⟨B, 4, none⟩ = some (.string x1) := kB1.cell 4
  have z5 : w1.cell? ⟨B, 5, none⟩ = some (.int .i64 p1) := kB1.cell 5
  have z6 : w1.cell? ⟨B, 6, none⟩ = some (.slice b1 bn1 bc1) := kB1.cell 6
  have z7 : w1.cell? ⟨B, 7, none⟩ = some (.slice g1 gn1 gc1) := kB1.cell 7
  have z8 : w1.cell? ⟨B, 8, none⟩ = some (.bool true) := kB1.cell 8
  replace kB1 := Rg.hid kB1
  replace kR1 := Rg.hid kR1
  replace hb1 := Rg.hid hb1
  go_upto_region 2 with (go_at_call 44; refine (HO.out _ hb1.out).mono ?_; rintro e w2 ⟨b0', bc0', g0', gc0', b1', bc1', g1', gc1', rfl, ⟨r_b0, q_b0, r_g0, q_g0, r_b1, q_b1, r_g1, q_g1⟩, b2⟩; have kB2 := kB1.out.below b2 kB1.out.lt; have y0 := kB2.cell 0; have y1 := kB2.cell 1; have y2 := kB2.cell 2; have y3 := kB2.cell 3; have y4 := kB2.cell 4; have y5 := kB2.cell 5; have y6 := kB2.cell 6; have y7 := kB2.cell 7; have y8 := kB2.cell 8; simp only [List.getElem?_cons_zero, List.getElem?_cons_succ] at y0 y1 y2 y3 y4 y5 y6 y7 y8; have yf := kB2.thaw)
  obtain ⟨kB3, oB⟩ := ret9 kB2 rfl (.string x0) (.int .i64 p0) (.slice b0' bn0 bc0') (.slice g0' gn0 gc0') (.string x1) (.int .i64 p1) (.slice b1' bn1 bc1') (.slice g1' gn1 gc1') (.bool true)
  replace r_b0 := Rg.hid (r_b0.only kB2 line_int oB)
  replace r_g0 := Rg.hid (r_g0.only kB2 line_int oB)
  replace r_b1 := Rg.hid (r_b1.only kB2 line_int oB)
  replace r_g1 := Rg.hid (r_g1.only kB2 line_int oB)
  have kR3 := (kR1.out.below b2 kR1.out.lt).same (oB.block _ (Ne.symm hBR))
  have hb3 := Rg.hid ((Rg.chain hb1.out b2).trans (oB.bel hBw))
  clear kB1 kR1 hb1 kB2 oB b2 yf y0 y1 y2 y3 y4 y5 y6 y7 y8 z0 z1 z2 z3 z4 z5 z6 z7 z8 HO
  generalize World.setCell _ _ _ = w3 at *
  have HT : Hid (∀ W, Calls Try.prog 45 #[.agg #[.string x0, .int .i64 p0, .slice b0' bn0 bc0', .slice g0' gn0 gc0', .string x1, .int .i64 p1, .slice b1' bn1 bc1', .slice g1' gn1 gc1', .bool true], .int .i64 0, .int .i64 m] W fun e w' => e = .returned (.bool false) ∧ Below W.heap.size W w') := fun W => (by have := rthere_up0 x0 p0 b0' bn0 bc0' g0' gn0 gc0' x1 p1 b1' bn1 bc1' g1' gn1 gc1' m W; rw [show decide (0 ≤ m ∧ m < (x0.size : Int)) = false by simp only [decide_eq_false_iff_not]; exact hat] at this; exact this)
  have u0 : w3.cell? ⟨B, 0, none⟩ = some (.string x0) := kB3.cell 0
  have u1 : w3.cell? ⟨B, 1, none⟩ = some (.int .i64 p0) := kB3.cell 1
  have u2 : w3.cell? ⟨B, 2, none⟩ = some (.slice b0' bn0 bc0') := kB3.cell 2
  have u3 : w3.cell? ⟨B, 3, none⟩ = some (.slice g0' gn0 gc0') := kB3.cell 3
  have u4 : w3.cell? ⟨B, 4, none⟩ = some (.string x1) := kB3.cell 4
  have u5 : w3.cell? ⟨B, 5, none⟩ = some (.int .i64 p1) := kB3.cell 5
  have u6 : w3.cell? ⟨B, 6, none⟩ = some (.slice b1' bn1 bc1') := kB3.cell 6
  have u7 : w3.cell? ⟨B, 7, none⟩ = some (.slice g1' gn1 gc1') := kB3.cell 7
  have u8 : w3.cell? ⟨B, 8, none⟩ = some (.bool true) := kB3.cell 8
  replace kB3 := Rg.hid kB3
  replace kR3 := Rg.hid kR3
  go_upto_region 3 with (go_at_call 45; refine (HT.out _).mono ?_; rintro e w4 ⟨rfl, b4⟩)
  have kB4 := kB3.out.below b4 kB3.out.lt
  have kR4 := kR3.out.below b4 kR3.out.lt
  have hb4 := Rg.hid (Rg.chain hb3.out b4)
  replace r_b0 := Rg.hid (r_b0.out.below b4)
  replace r_g0 := Rg.hid (r_g0.out.below b4)
  replace r_b1 := Rg.hid (r_b1.out.below b4)
  replace r_g1 := Rg.hid (r_g1.out.below b4)
  clear kB3 kR3 hb3 b4 HT u0 u1 u2 u3 u4 u5 u6 u7 u8
  obtain ⟨kE, oE⟩ := ret9 kR4 rfl (.string x0) (.int .i64 p0) (.slice b0' bn0 bc0') (.slice g0' gn0 gc0') (.string x1) (.int .i64 p1) (.slice b1' bn1 bc1') (.slice g1' gn1 gc1') (.bool true)
  have post := Rg.hid ((⟨_, _, _, _, _, _, _, _, rfl, ⟨r_b0.out.only kR4 line_int oE, q_b0, r_g0.out.only kR4 line_int oE, q_g0, r_b1.out.only kR4 line_int oE, q_b1, r_g1.out.only kR4 line_int oE, q_g1⟩, hb4.out.trans (oE.bel hRw)⟩ : RPost (x0) (p0) (bn0) (gn0) (x1) (p1) (bn1) (gn1) (true) (bad0) (gap0) (bad1) (gap1) (.int .i64 6) w (.returned (.tuple #[.agg #[.string x0, .int .i64 p0, .slice b0' bn0 bc0', .slice g0' gn0 gc0', .string x1, .int .i64 p1, .slice b1' bn1 bc1', .slice g1' gn1 gc1', .bool true], .int .i64 6])) _))
  replace kE := Rg.hid kE
  have d0' : w4.cell? ⟨B, 0, none⟩ = some (.string x0) := kB4.cell 0
  have d1' : w4.cell? ⟨B, 1, none⟩ = some (.int .i64 p0) := kB4.cell 1
  have d2' : w4.cell? ⟨B, 2, none⟩ = some (.slice b0' bn0 bc0') := kB4.cell 2
  have d3' : w4.cell? ⟨B, 3, none⟩ = some (.slice g0' gn0 gc0') := kB4.cell 3
  have d4' : w4.cell? ⟨B, 4, none⟩ = some (.string x1) := kB4.cell 4
  have d5' : w4.cell? ⟨B, 5, none⟩ = some (.int .i64 p1) := kB4.cell 5
  have d6' : w4.cell? ⟨B, 6, none⟩ = some (.slice b1' bn1 bc1') := kB4.cell 6
  have d7' : w4.cell? ⟨B, 7, none⟩ = some (.slice g1' gn1 gc1') := kB4.cell 7
  have d8' : w4.cell? ⟨B, 8, none⟩ = some (.bool true) := kB4.cell 8
  have r0 : w4.cell? ⟨R, 0, none⟩ = some (.string ⟨#[]⟩) := kR4.cell 0
  have r1 : w4.cell? ⟨R, 1, none⟩ = some (.int .i64 0) := kR4.cell 1
  have r2 : w4.cell? ⟨R, 2, none⟩ = some (.slice none 0 0) := kR4.cell 2
  have r3 : w4.cell? ⟨R, 3, none⟩ = some (.slice none 0 0) := kR4.cell 3
  have r4 : w4.cell? ⟨R, 4, none⟩ = some (.string ⟨#[]⟩) := kR4.cell 4
  have r5 : w4.cell? ⟨R, 5, none⟩ = some (.int .i64 0) := kR4.cell 5
  have r6 : w4.cell? ⟨R, 6, none⟩ = some (.slice none 0 0) := kR4.cell 6
  have r7 : w4.cell? ⟨R, 7, none⟩ = some (.slice none 0 0) := kR4.cell 7
  have r8 : w4.cell? ⟨R, 8, none⟩ = some (.bool false) := kR4.cell 8
  have rf := kR4.thaw
  clear oE kR4 kB4 hb4
  go_wp2
  replace kE := kE.out
  replace post := post.out
  generalize World.setCell _ _ _ = WE at *
  exact bodyPost_ret (v := .tuple #[.agg #[.string x0, .int .i64 p0, .slice b0' bn0 bc0', .slice g0' gn0 gc0', .string x1, .int .i64 p1, .slice b1' bn1 bc1', .slice g1' gn1 gc1', .bool true], .int .i64 6]) (by simp [results, Try.results28, go_sem, kE.cell]) rfl post

set_option maxHeartbeats 1000000 in
set_option maxRecDepth 100000 in
theorem rlose_down1 (x0 : ByteArray) (p0 : Int) (b0 : Option Addr) (bn0 bc0 : Nat) (g0 : Option Addr) (gn0 gc0 : Nat) (x1 : ByteArray) (p1 : Int) (b1 : Option Addr) (bn1 bc1 : Nat) (g1 : Option Addr) (gn1 gc1 : Nat) (m : Int) (bad0 gap0 bad1 gap1 : List Int) (h_bn0 : Hid (bn0 = bad0.length)) (h_gn0 : Hid (gn0 = gap0.length)) (h_bn1 : Hid (bn1 = bad1.length)) (h_gn1 : Hid (gn1 = gap1.length)) (l_bn0 : bn0 ≤ 1000000000) (l_gn0 : gn0 ≤ 1000000000) (l_bn1 : bn1 ≤ 1000000000) (l_gn1 : gn1 ≤ 1000000000) (w : World) (hR0 : IRow w b0 bad0 ∧ bn0 ≤ bc0 ∧ IRow w g0 gap0 ∧ gn0 ≤ gc0 ∧ IRow w b1 bad1 ∧ bn1 ≤ bc1 ∧ IRow w g1 gap1 ∧ gn1 ≤ gc1) :
    Calls Try.prog 28 #[.agg #[.string x0, .int .i64 p0, .slice b0 bn0 bc0, .slice g0 gn0 gc0, .string x1, .int .i64 p1, .slice b1 bn1 bc1, .slice g1 gn1 gc1, .bool false], .int .i64 1, .int .i64 m] w fun e w' => RPost (x0) (p0) (bn0) (gn0) (x1) (p1) (bn1) (gn1) (false) (bad0) (gap0) (bad1) (gap1) (.int .i64 6) w e w' := by
  obtain ⟨s_b0, q_b0, s_g0, q_g0, s_b1, q_b1, s_g1, q_g1⟩ := hR0
  have HO : Hid (∀ W, Below w.heap.size w W → Calls Try.prog 44 #[.agg #[.string x0, .int .i64 p0, .slice b0 bn0 bc0, .slice g0 gn0 gc0, .string x1, .int .i64 p1, .slice b1 bn1 bc1, .slice g1 gn1 gc1, .bool false]] W fun e w' => OwnPost x0 p0 bn0 gn0 x1 p1 bn1 gn1 false bad0 gap0 bad1 gap1 W e w') := fun W hW => rown_cells x0 p0 b0 bn0 bc0 g0 gn0 gc0 x1 p1 b1 bn1 bc1 g1 gn1 gc1 false bad0 gap0 bad1 gap1 W h_bn0 h_gn0 h_bn1 h_gn1 l_bn0 l_gn0 l_bn1 l_gn1 ⟨s_b0.below hW, q_b0, s_g0.below hW, q_g0, s_b1.below hW, q_b1, s_g1.below hW, q_g1⟩
  clear s_b0 q_b0 s_g0 q_g0 s_b1 q_b1 s_g1 q_g1
  have kB1 : Rg.Bk w.heap.size [.string x0, .int .i64 p0, .slice b0 bn0 bc0, .slice g0 gn0 gc0, .string x1, .int .i64 p1, .slice b1 bn1 bc1, .slice g1 gn1 gc1, .bool false] 30 ((w.alloc (.cells #[.string x0, .int .i64 p0, .slice b0 bn0 bc0, .slice g0 gn0 gc0, .string x1, .int .i64 p1, .slice b1 bn1 bc1, .slice g1 gn1 gc1, .bool false] 30)).alloc (.cells #[.string ⟨#[]⟩, .int .i64 0, .slice none 0 0, .slice none 0 0, .string ⟨#[]⟩, .int .i64 0, .slice none 0 0, .slice none 0 0, .bool false] 30)) := (Rg.Bk.new rfl).old _
  have kR1 : Rg.Bk (w.heap.size + 1) [.string ⟨#[]⟩, .int .i64 0, .slice none 0 0, .slice none 0 0, .string ⟨#[]⟩, .int .i64 0, .slice none 0 0, .slice none 0 0, .bool false] 30 ((w.alloc (.cells #[.string x0, .int .i64 p0, .slice b0 bn0 bc0, .slice g0 gn0 gc0, .string x1, .int .i64 p1, .slice b1 bn1 bc1, .slice g1 gn1 gc1, .bool false] 30)).alloc (.cells #[.string ⟨#[]⟩, .int .i64 0, .slice none 0 0, .slice none 0 0, .string ⟨#[]⟩, .int .i64 0, .slice none 0 0, .slice none 0 0, .bool false] 30)) := Rg.Bk.new (by simp)
  have hb1 := Rg.al2 w (.cells #[.string x0, .int .i64 p0, .slice b0 bn0 bc0, .slice g0 gn0 gc0, .string x1, .int .i64 p1, .slice b1 bn1 bc1, .slice g1 gn1 gc1, .bool false] 30) (.cells #[.string ⟨#[]⟩, .int .i64 0, .slice none 0 0, .slice none 0 0, .string ⟨#[]⟩, .int .i64 0, .slice none 0 0, .slice none 0 0, .bool false] 30)
  go_enter Try.func28, Try.ntmps28
  go_upto_region 1 with fail
  generalize World.alloc _ _ = w1 at *
  obtain ⟨B, hB⟩ : ∃ B, B = w.heap.size := ⟨_, rfl⟩
  obtain ⟨R, hR⟩ : ∃ R, R = w.heap.size + 1 := ⟨_, rfl⟩
  rw [← hR] at kR1 ⊢
  rw [← hB] at kB1 ⊢
  have hBR : B ≠ R := by omega
  have hBw : w.heap.size ≤ B := by omega
  have hRw : w.heap.size ≤ R := by omega
  clear hB hR
  have z0 : w1.cell? ⟨B, 0, none⟩ = some (.string x0) := kB1.cell 0
  have z1 : w1.cell? ⟨B, 1, none⟩ = some (.int .i64 p0) := kB1.cell 1
  have z2 : w1.cell? ⟨B, 2, none⟩ = some (.slice b0 bn0 bc0) := kB1.cell 2
  have z3 : w1.cell? ⟨B, 3, none⟩ = some (.slice g0 gn0 gc0) := kB1.cell 3
  have z4 : w1.cell? ⟨B, 4, none⟩ = some (.string x1) := kB1.cell 4
  have z5 : w1.cell? ⟨B, 5, none⟩ = some (.int .i64 p1) := kB1.cell 5
  have z6 : w1.cell? ⟨B, 6, none⟩ = some (.slice b1 bn1 bc1) := kB1.cell 6
  have z7 : w1.cell? ⟨B, 7, none⟩ = some (.slice g1 gn1 gc1) := kB1.cell 7
  have z8 : w1.cell? ⟨B, 8, none⟩ = some (.bool false) := kB1.cell 8
  replace kB1 := Rg.hid kB1
  replace kR1 := Rg.hid kR1
  replace hb1 := Rg.hid hb1
  go_upto_region 2 with (go_at_call 44; refine (HO.out _ hb1.out).mono ?_; rintro e w2 ⟨b0', bc0', g0', gc0', b1', bc1', g1', gc1', rfl, ⟨r_b0, q_b0, r_g0, q_g0, r_b1, q_b1, r_g1, q_g1⟩, b2⟩; have kB2 := kB1.out.below b2 kB1.out.lt; have y0 := kB2.cell 0; have y1 := kB2.cell 1; have y2 := kB2.cell 2; have y3 := kB2.cell 3; have y4 := kB2.cell 4; have y5 := kB2.cell 5; have y6 := kB2.cell 6; have y7 := kB2.cell 7; have y8 := kB2.cell 8; simp only [List.getElem?_cons_zero, List.getElem?_cons_succ] at y0 y1 y2 y3 y4 y5 y6 y7 y8; have yf := kB2.thaw)
  obtain ⟨kB3, oB⟩ := ret9 kB2 rfl (.string x0) (.int .i64 p0) (.slice b0' bn0 bc0') (.slice g0' gn0 gc0') (.string x1) (.int .i64 p1) (.slice b1' bn1 bc1') (.slice g1' gn1 gc1') (.bool false)
  replace r_b0 := Rg.hid (r_b0.only kB2 line_int oB)
  replace r_g0 := Rg.hid (r_g0.only kB2 line_int oB)
  replace r_b1 := Rg.hid (r_b1.only kB2 line_int oB)
  replace r_g1 := Rg.hid (r_g1.only kB2 line_int oB)
  have kR3 := (kR1.out.below b2 kR1.out.lt).same (oB.block _ (Ne.symm hBR))
  have hb3 := Rg.hid ((Rg.chain hb1.out b2).trans (oB.bel hBw))
  clear kB1 kR1 hb1 kB2 oB b2 yf y0 y1 y2 y3 y4 y5 y6 y7 y8 z0 z1 z2 z3 z4 z5 z6 z7 z8 HO
  generalize World.setCell _ _ _ = w3 at *
  have HT : Hid (∀ W, Calls Try.prog 45 #[.agg #[.string x0, .int .i64 p0, .slice b0' bn0 bc0', .slice g0' gn0 gc0', .string x1, .int .i64 p1, .slice b1' bn1 bc1', .slice g1' gn1 gc1', .bool false], .int .i64 1, .int .i64 m] W fun e w' => e = .returned (.bool false) ∧ Below W.heap.size W w') := fun W => rthere_down1 x0 p0 b0' bn0 bc0' g0' gn0 gc0' x1 p1 b1' bn1 bc1' g1' gn1 gc1' m W
  have u0 : w3.cell? ⟨B, 0, none⟩ = some (.string x0) := kB3.cell 0
  have u1 : w3.cell? ⟨B, 1, none⟩ = some (.int .i64 p0) := kB3.cell 1
  have u2 : w3.cell? ⟨B, 2, none⟩ = some (.slice b0' bn0 bc0') := kB3.cell 2
  have u3 : w3.cell? ⟨B, 3, none⟩ = some (.slice g0' gn0 gc0') := kB3.cell 3
  have u4 : w3.cell? ⟨B, 4, none⟩ = some (.string x1) := kB3.cell 4
  have u5 : w3.cell? ⟨B, 5, none⟩ = some (.int .i64 p1) := kB3.cell 5
  have u6 : w3.cell? ⟨B, 6, none⟩ = some (.slice b1' bn1 bc1') := kB3.cell 6
  have u7 : w3.cell? ⟨B, 7, none⟩ = some (.slice g1' gn1 gc1') := kB3.cell 7
  have u8 : w3.cell? ⟨B, 8, none⟩ = some (.bool false) := kB3.cell 8
  replace kB3 := Rg.hid kB3
  replace kR3 := Rg.hid kR3
  go_upto_region 3 with (go_at_call 45; refine (HT.out _).mono ?_; rintro e w4 ⟨rfl, b4⟩)
  have kB4 := kB3.out.below b4 kB3.out.lt
  have kR4 := kR3.out.below b4 kR3.out.lt
  have hb4 := Rg.hid (Rg.chain hb3.out b4)
  replace r_b0 := Rg.hid (r_b0.out.below b4)
  replace r_g0 := Rg.hid (r_g0.out.below b4)
  replace r_b1 := Rg.hid (r_b1.out.below b4)
  replace r_g1 := Rg.hid (r_g1.out.below b4)
  clear kB3 kR3 hb3 b4 HT u0 u1 u2 u3 u4 u5 u6 u7 u8
  obtain ⟨kE, oE⟩ := ret9 kR4 rfl (.string x0) (.int .i64 p0) (.slice b0' bn0 bc0') (.slice g0' gn0 gc0') (.string x1) (.int .i64 p1) (.slice b1' bn1 bc1') (.slice g1' gn1 gc1') (.bool false)
  have post := Rg.hid ((⟨_, _, _, _, _, _, _, _, rfl, ⟨r_b0.out.only kR4 line_int oE, q_b0, r_g0.out.only kR4 line_int oE, q_g0, r_b1.out.only kR4 line_int oE, q_b1, r_g1.out.only kR4 line_int oE, q_g1⟩, hb4.out.trans (oE.bel hRw)⟩ : RPost (x0) (p0) (bn0) (gn0) (x1) (p1) (bn1) (gn1) (false) (bad0) (gap0) (bad1) (gap1) (.int .i64 6) w (.returned (.tuple #[.agg #[.string x0, .int .i64 p0, .slice b0' bn0 bc0', .slice g0' gn0 gc0', .string x1, .int .i64 p1, .slice b1' bn1 bc1', .slice g1' gn1 gc1', .bool false], .int .i64 6])) _))
  replace kE := Rg.hid kE
  have d0' : w4.cell? ⟨B, 0, none⟩ = some (.string x0) := kB4.cell 0
  have d1' : w4.cell? ⟨B, 1, none⟩ = some (.int .i64 p0) := kB4.cell 1
  have d2' : w4.cell? ⟨B, 2, none⟩ = some (.slice b0' bn0 bc0') := kB4.cell 2
  have d3' : w4.cell? ⟨B, 3, none⟩ = some (.slice g0' gn0 gc0') := kB4.cell 3
  have d4' : w4.cell? ⟨B, 4, none⟩ = some (.string x1) := kB4.cell 4
  have d5' : w4.cell? ⟨B, 5, none⟩ = some (.int .i64 p1) := kB4.cell 5
  have d6' : w4.cell? ⟨B, 6, none⟩ = some (.slice b1' bn1 bc1') := kB4.cell 6
  have d7' : w4.cell? ⟨B, 7, none⟩ = some (.slice g1' gn1 gc1') := kB4.cell 7
  have d8' : w4.cell? ⟨B, 8, none⟩ = some (.bool false) := kB4.cell 8
  have r0 : w4.cell? ⟨R, 0, none⟩ = some (.string ⟨#[]⟩) := kR4.cell 0
  have r1 : w4.cell? ⟨R, 1, none⟩ = some (.int .i64 0) := kR4.cell 1
  have r2 : w4.cell? ⟨R, 2, none⟩ = some (.slice none 0 0) := kR4.cell 2
  have r3 : w4.cell? ⟨R, 3, none⟩ = some (.slice none 0 0) := kR4.cell 3
  have r4 : w4.cell? ⟨R, 4, none⟩ = some (.string ⟨#[]⟩) := kR4.cell 4
  have r5 : w4.cell? ⟨R, 5, none⟩ = some (.int .i64 0) := kR4.cell 5
  have r6 : w4.cell? ⟨R, 6, none⟩ = some (.slice none 0 0) := kR4.cell 6
  have r7 : w4.cell? ⟨R, 7, none⟩ = some (.slice none 0 0) := kR4.cell 7
  have r8 : w4.cell? ⟨R, 8, none⟩ = some (.bool false) := kR4.cell 8
  have rf := kR4.thaw
  clear oE kR4 kB4 hb4
  go_wp2
  replace kE := kE.out
  replace post := post.out
  generalize World.setCell _ _ _ = WE at *
  exact bodyPost_ret (v := .tuple #[.agg #[.string x0, .int .i64 p0, .slice b0' bn0 bc0', .slice g0' gn0 gc0', .string x1, .int .i64 p1, .slice b1' bn1 bc1', .slice g1' gn1 gc1', .bool false], .int .i64 6]) (by simp [results, Try.results28, go_sem, kE.cell]) rfl post

set_option maxHeartbeats 1000000 in
set_option maxRecDepth 100000 in
theorem rlose_none1 (x0 : ByteArray) (p0 : Int) (b0 : Option Addr) (bn0 bc0 : Nat) (g0 : Option Addr) (gn0 gc0 : Nat) (x1 : ByteArray) (p1 : Int) (b1 : Option Addr) (bn1 bc1 : Nat) (g1 : Option Addr) (gn1 gc1 : Nat) (m : Int) (bad0 gap0 bad1 gap1 : List Int) (h_bn0 : Hid (bn0 = bad0.length)) (h_gn0 : Hid (gn0 = gap0.length)) (h_bn1 : Hid (bn1 = bad1.length)) (h_gn1 : Hid (gn1 = gap1.length)) (l_bn0 : bn0 ≤ 1000000000) (l_gn0 : gn0 ≤ 1000000000) (l_bn1 : bn1 ≤ 1000000000) (l_gn1 : gn1 ≤ 1000000000) (w : World) (hR0 : IRow w b0 bad0 ∧ bn0 ≤ bc0 ∧ IRow w g0 gap0 ∧ gn0 ≤ gc0 ∧ IRow w b1 bad1 ∧ bn1 ≤ bc1 ∧ IRow w g1 gap1 ∧ gn1 ≤ gc1) (hat : ¬ (0 ≤ m ∧ m < (x1.size : Int))) :
    Calls Try.prog 28 #[.agg #[.string x0, .int .i64 p0, .slice b0 bn0 bc0, .slice g0 gn0 gc0, .string x1, .int .i64 p1, .slice b1 bn1 bc1, .slice g1 gn1 gc1, .bool true], .int .i64 1, .int .i64 m] w fun e w' => RPost (x0) (p0) (bn0) (gn0) (x1) (p1) (bn1) (gn1) (true) (bad0) (gap0) (bad1) (gap1) (.int .i64 6) w e w' := by
  obtain ⟨s_b0, q_b0, s_g0, q_g0, s_b1, q_b1, s_g1, q_g1⟩ := hR0
  have HO : Hid (∀ W, Below w.heap.size w W → Calls Try.prog 44 #[.agg #[.string x0, .int .i64 p0, .slice b0 bn0 bc0, .slice g0 gn0 gc0, .string x1, .int .i64 p1, .slice b1 bn1 bc1, .slice g1 gn1 gc1, .bool true]] W fun e w' => OwnPost x0 p0 bn0 gn0 x1 p1 bn1 gn1 true bad0 gap0 bad1 gap1 W e w') := fun W hW => rown_cells x0 p0 b0 bn0 bc0 g0 gn0 gc0 x1 p1 b1 bn1 bc1 g1 gn1 gc1 true bad0 gap0 bad1 gap1 W h_bn0 h_gn0 h_bn1 h_gn1 l_bn0 l_gn0 l_bn1 l_gn1 ⟨s_b0.below hW, q_b0, s_g0.below hW, q_g0, s_b1.below hW, q_b1, s_g1.below hW, q_g1⟩
  clear s_b0 q_b0 s_g0 q_g0 s_b1 q_b1 s_g1 q_g1
  have kB1 : Rg.Bk w.heap.size [.string x0, .int .i64 p0, .slice b0 bn0 bc0, .slice g0 gn0 gc0, .string x1, .int .i64 p1, .slice b1 bn1 bc1, .slice g1 gn1 gc1, .bool true] 30 ((w.alloc (.cells #[.string x0, .int .i64 p0, .slice b0 bn0 bc0, .slice g0 gn0 gc0, .string x1, .int .i64 p1, .slice b1 bn1 bc1, .slice g1 gn1 gc1, .bool true] 30)).alloc (.cells #[.string ⟨#[]⟩, .int .i64 0, .slice none 0 0, .slice none 0 0, .string ⟨#[]⟩, .int .i64 0, .slice none 0 0, .slice none 0 0, .bool false] 30)) := (Rg.Bk.new rfl).old _
  have kR1 : Rg.Bk (w.heap.size + 1) [.string ⟨#[]⟩, .int .i64 0, .slice none 0 0, .slice none 0 0, .string ⟨#[]⟩, .int .i64 0, .slice none 0 0, .slice none 0 0, .bool false] 30 ((w.alloc (.cells #[.string x0, .int .i64 p0, .slice b0 bn0 bc0, .slice g0 gn0 gc0, .string x1, .int .i64 p1, .slice b1 bn1 bc1, .slice g1 gn1 gc1, .bool true] 30)).alloc (.cells #[.string ⟨#[]⟩, .int .i64 0, .slice none 0 0, .slice none 0 0, .string ⟨#[]⟩, .int .i64 0, .slice none 0 0, .slice none 0 0, .bool false] 30)) := Rg.Bk.new (by simp)
  have hb1 := Rg.al2 w (.cells #[.string x0, .int .i64 p0, .slice b0 bn0 bc0, .slice g0 gn0 gc0, .string x1, .int .i64 p1, .slice b1 bn1 bc1, .slice g1 gn1 gc1, .bool true] 30) (.cells #[.string ⟨#[]⟩, .int .i64 0, .slice none 0 0, .slice none 0 0, .string ⟨#[]⟩, .int .i64 0, .slice none 0 0, .slice none 0 0, .bool false] 30)
  go_enter Try.func28, Try.ntmps28
  go_upto_region 1 with fail
  generalize World.alloc _ _ = w1 at *
  obtain ⟨B, hB⟩ : ∃ B, B = w.heap.size := ⟨_, rfl⟩
  obtain ⟨R, hR⟩ : ∃ R, R = w.heap.size + 1 := ⟨_, rfl⟩
  rw [← hR] at kR1 ⊢
  rw [← hB] at kB1 ⊢
  have hBR : B ≠ R := by omega
  have hBw : w.heap.size ≤ B := by omega
  have hRw : w.heap.size ≤ R := by omega
  clear hB hR
  have z0 : w1.cell? ⟨B, 0, none⟩ = some (.string x0) := kB1.cell 0
  have z1 : w1.cell? ⟨B, 1, none⟩ = some (.int .i64 p0) := kB1.cell 1
  have z2 : w1.cell? ⟨B, 2, none⟩ = some (.slice b0 bn0 bc0) := kB1.cell 2
  have z3 : w1.cell? ⟨B, 3, none⟩ = some (.slice g0 gn0 gc0) := kB1.cell 3
  have z4 : w1.cell? ⟨B, 4, none⟩ = some (.string x1) := kB1.cell 4
  have z5 : w1.cell? ⟨B, 5, none⟩ = some (.int .i64 p1) := kB1.cell 5
  have z6 : w1.cell? ⟨B, 6, none⟩ = some (.slice b1 bn1 bc1) := kB1.cell 6
  have z7 : w1.cell? ⟨B, 7, none⟩ = some (.slice g1 gn1 gc1) := kB1.cell 7
  have z8 : w1.cell? ⟨B, 8, none⟩ = some (.bool true) := kB1.cell 8
  replace kB1 := Rg.hid kB1
  replace kR1 := Rg.hid kR1
  replace hb1 := Rg.hid hb1
  go_upto_region 2 with (go_at_call 44; refine (HO.out _ hb1.out).mono ?_; rintro e w2 ⟨b0', bc0', g0', gc0', b1', bc1', g1', gc1', rfl, ⟨r_b0, q_b0, r_g0, q_g0, r_b1, q_b1, r_g1, q_g1⟩, b2⟩; have kB2 := kB1.out.below b2 kB1.out.lt; have y0 := kB2.cell 0; have y1 := kB2.cell 1; have y2 := kB2.cell 2; have y3 := kB2.cell 3; have y4 := kB2.cell 4; have y5 := kB2.cell 5; have y6 := kB2.cell 6; have y7 := kB2.cell 7; have y8 := kB2.cell 8; simp only [List.getElem?_cons_zero, List.getElem?_cons_succ] at y0 y1 y2 y3 y4 y5 y6 y7 y8; have yf := kB2.thaw)
  obtain ⟨kB3, oB⟩ := ret9 kB2 rfl (.string x0) (.int .i64 p0) (.slice b0' bn0 bc0') (.slice g0' gn0 gc0') (.string x1) (.int .i64 p1) (.slice b1' bn1 bc1') (.slice g1' gn1 gc1') (.bool true)
  replace r_b0 := Rg.hid (r_b0.only kB2 line_int oB)
  replace r_g0 := Rg.hid (r_g0.only kB2 line_int oB)
  replace r_b1 := Rg.hid (r_b1.only kB2 line_int oB)
  replace r_g1 := Rg.hid (r_g1.only kB2 line_int oB)
  have kR3 := (kR1.out.below b2 kR1.out.lt).same (oB.block _ (Ne.symm hBR))
  have hb3 := Rg.hid ((Rg.chain hb1.out b2).trans (oB.bel hBw))
  clear kB1 kR1 hb1 kB2 oB b2 yf y0 y1 y2 y3 y4 y5 y6 y7 y8 z0 z1 z2 z3 z4 z5 z6 z7 z8 HO
  generalize World.setCell _ _ _ = w3 at *
  have HT : Hid (∀ W, Calls Try.prog 45 #[.agg #[.string x0, .int .i64 p0, .slice b0' bn0 bc0', .slice g0' gn0 gc0', .string x1, .int .i64 p1, .slice b1' bn1 bc1', .slice g1' gn1 gc1', .bool true], .int .i64 1, .int .i64 m] W fun e w' => e = .returned (.bool false) ∧ Below W.heap.size W w') := fun W => (by have := rthere_up1 x0 p0 b0' bn0 bc0' g0' gn0 gc0' x1 p1 b1' bn1 bc1' g1' gn1 gc1' m W; rw [show decide (0 ≤ m ∧ m < (x1.size : Int)) = false by simp only [decide_eq_false_iff_not]; exact hat] at this; exact this)
  have u0 : w3.cell? ⟨B, 0, none⟩ = some (.string x0) := kB3.cell 0
  have u1 : w3.cell? ⟨B, 1, none⟩ = some (.int .i64 p0) := kB3.cell 1
  have u2 : w3.cell? ⟨B, 2, none⟩ = some (.slice b0' bn0 bc0') := kB3.cell 2
  have u3 : w3.cell? ⟨B, 3, none⟩ = some (.slice g0' gn0 gc0') := kB3.cell 3
  have u4 : w3.cell? ⟨B, 4, none⟩ = some (.string x1) := kB3.cell 4
  have u5 : w3.cell? ⟨B, 5, none⟩ = some (.int .i64 p1) := kB3.cell 5
  have u6 : w3.cell? ⟨B, 6, none⟩ = some (.slice b1' bn1 bc1') := kB3.cell 6
  have u7 : w3.cell? ⟨B, 7, none⟩ = some (.slice g1' gn1 gc1') := kB3.cell 7
  have u8 : w3.cell? ⟨B, 8, none⟩ = some (.bool true) := kB3.cell 8
  replace kB3 := Rg.hid kB3
  replace kR3 := Rg.hid kR3
  go_upto_region 3 with (go_at_call 45; refine (HT.out _).mono ?_; rintro e w4 ⟨rfl, b4⟩)
  have kB4 := kB3.out.below b4 kB3.out.lt
  have kR4 := kR3.out.below b4 kR3.out.lt
  have hb4 := Rg.hid (Rg.chain hb3.out b4)
  replace r_b0 := Rg.hid (r_b0.out.below b4)
  replace r_g0 := Rg.hid (r_g0.out.below b4)
  replace r_b1 := Rg.hid (r_b1.out.below b4)
  replace r_g1 := Rg.hid (r_g1.out.below b4)
  clear kB3 kR3 hb3 b4 HT u0 u1 u2 u3 u4 u5 u6 u7 u8
  obtain ⟨kE, oE⟩ := ret9 kR4 rfl (.string x0) (.int .i64 p0) (.slice b0' bn0 bc0') (.slice g0' gn0 gc0') (.string x1) (.int .i64 p1) (.slice b1' bn1 bc1') (.slice g1' gn1 gc1') (.bool true)
  have post := Rg.hid ((⟨_, _, _, _, _, _, _, _, rfl, ⟨r_b0.out.only kR4 line_int oE, q_b0, r_g0.out.only kR4 line_int oE, q_g0, r_b1.out.only kR4 line_int oE, q_b1, r_g1.out.only kR4 line_int oE, q_g1⟩, hb4.out.trans (oE.bel hRw)⟩ : RPost (x0) (p0) (bn0) (gn0) (x1) (p1) (bn1) (gn1) (true) (bad0) (gap0) (bad1) (gap1) (.int .i64 6) w (.returned (.tuple #[.agg #[.string x0, .int .i64 p0, .slice b0' bn0 bc0', .slice g0' gn0 gc0', .string x1, .int .i64 p1, .slice b1' bn1 bc1', .slice g1' gn1 gc1', .bool true], .int .i64 6])) _))
  replace kE := Rg.hid kE
  have d0' : w4.cell? ⟨B, 0, none⟩ = some (.string x0) := kB4.cell 0
  have d1' : w4.cell? ⟨B, 1, none⟩ = some (.int .i64 p0) := kB4.cell 1
  have d2' : w4.cell? ⟨B, 2, none⟩ = some (.slice b0' bn0 bc0') := kB4.cell 2
  have d3' : w4.cell? ⟨B, 3, none⟩ = some (.slice g0' gn0 gc0') := kB4.cell 3
  have d4' : w4.cell? ⟨B, 4, none⟩ = some (.string x1) := kB4.cell 4
  have d5' : w4.cell? ⟨B, 5, none⟩ = some (.int .i64 p1) := kB4.cell 5
  have d6' : w4.cell? ⟨B, 6, none⟩ = some (.slice b1' bn1 bc1') := kB4.cell 6
  have d7' : w4.cell? ⟨B, 7, none⟩ = some (.slice g1' gn1 gc1') := kB4.cell 7
  have d8' : w4.cell? ⟨B, 8, none⟩ = some (.bool true) := kB4.cell 8
  have r0 : w4.cell? ⟨R, 0, none⟩ = some (.string ⟨#[]⟩) := kR4.cell 0
  have r1 : w4.cell? ⟨R, 1, none⟩ = some (.int .i64 0) := kR4.cell 1
  have r2 : w4.cell? ⟨R, 2, none⟩ = some (.slice none 0 0) := kR4.cell 2
  have r3 : w4.cell? ⟨R, 3, none⟩ = some (.slice none 0 0) := kR4.cell 3
  have r4 : w4.cell? ⟨R, 4, none⟩ = some (.string ⟨#[]⟩) := kR4.cell 4
  have r5 : w4.cell? ⟨R, 5, none⟩ = some (.int .i64 0) := kR4.cell 5
  have r6 : w4.cell? ⟨R, 6, none⟩ = some (.slice none 0 0) := kR4.cell 6
  have r7 : w4.cell? ⟨R, 7, none⟩ = some (.slice none 0 0) := kR4.cell 7
  have r8 : w4.cell? ⟨R, 8, none⟩ = some (.bool false) := kR4.cell 8
  have rf := kR4.thaw
  clear oE kR4 kB4 hb4
  go_wp2
  replace kE := kE.out
  replace post := post.out
  generalize World.setCell _ _ _ = WE at *
  exact bodyPost_ret (v := .tuple #[.agg #[.string x0, .int .i64 p0, .slice b0' bn0 bc0', .slice g0' gn0 gc0', .string x1, .int .i64 p1, .slice b1' bn1 bc1', .slice g1' gn1 gc1', .bool true], .int .i64 6]) (by simp [results, Try.results28, go_sem, kE.cell]) rfl post

set_option maxHeartbeats 1000000 in
set_option maxRecDepth 100000 in
theorem rflip_bad (x0 : ByteArray) (p0 : Int) (b0 : Option Addr) (bn0 bc0 : Nat) (g0 : Option Addr) (gn0 gc0 : Nat) (x1 : ByteArray) (p1 : Int) (b1 : Option Addr) (bn1 bc1 : Nat) (g1 : Option Addr) (gn1 gc1 : Nat) (up : Bool) (n : Int) (m : Int) (bit : Int) (bad0 gap0 bad1 gap1 : List Int) (h_bn0 : Hid (bn0 = bad0.length)) (h_gn0 : Hid (gn0 = gap0.length)) (h_bn1 : Hid (bn1 = bad1.length)) (h_gn1 : Hid (gn1 = gap1.length)) (l_bn0 : bn0 ≤ 1000000000) (l_gn0 : gn0 ≤ 1000000000) (l_bn1 : bn1 ≤ 1000000000) (l_gn1 : gn1 ≤ 1000000000) (w : World) (hR0 : IRow w b0 bad0 ∧ bn0 ≤ bc0 ∧ IRow w g0 gap0 ∧ gn0 ≤ gc0 ∧ IRow w b1 bad1 ∧ bn1 ≤ bc1 ∧ IRow w g1 gap1 ∧ gn1 ≤ gc1) (h0 : n ≠ 0) (h1 : n ≠ 1) :
    Calls Try.prog 27 #[.agg #[.string x0, .int .i64 p0, .slice b0 bn0 bc0, .slice g0 gn0 gc0, .string x1, .int .i64 p1, .slice b1 bn1 bc1, .slice g1 gn1 gc1, .bool up], .int .i64 n, .int .i64 m, .int .i64 bit] w fun e w' => RPost (x0) (p0) (bn0) (gn0) (x1) (p1) (bn1) (gn1) (up) (bad0) (gap0) (bad1) (gap1) (.int .i64 6) w e w' := by
  obtain ⟨s_b0, q_b0, s_g0, q_g0, s_b1, q_b1, s_g1, q_g1⟩ := hR0
  have HO : Hid (∀ W, Below w.heap.size w W → Calls Try.prog 44 #[.agg #[.string x0, .int .i64 p0, .slice b0 bn0 bc0, .slice g0 gn0 gc0, .string x1, .int .i64 p1, .slice b1 bn1 bc1, .slice g1 gn1 gc1, .bool up]] W fun e w' => OwnPost x0 p0 bn0 gn0 x1 p1 bn1 gn1 up bad0 gap0 bad1 gap1 W e w') := fun W hW => rown_cells x0 p0 b0 bn0 bc0 g0 gn0 gc0 x1 p1 b1 bn1 bc1 g1 gn1 gc1 up bad0 gap0 bad1 gap1 W h_bn0 h_gn0 h_bn1 h_gn1 l_bn0 l_gn0 l_bn1 l_gn1 ⟨s_b0.below hW, q_b0, s_g0.below hW, q_g0, s_b1.below hW, q_b1, s_g1.below hW, q_g1⟩
  clear s_b0 q_b0 s_g0 q_g0 s_b1 q_b1 s_g1 q_g1
  have kB1 : Rg.Bk w.heap.size [.string x0, .int .i64 p0, .slice b0 bn0 bc0, .slice g0 gn0 gc0, .string x1, .int .i64 p1, .slice b1 bn1 bc1, .slice g1 gn1 gc1, .bool up] 30 ((w.alloc (.cells #[.string x0, .int .i64 p0, .slice b0 bn0 bc0, .slice g0 gn0 gc0, .string x1, .int .i64 p1, .slice b1 bn1 bc1, .slice g1 gn1 gc1, .bool up] 30)).alloc (.cells #[.string ⟨#[]⟩, .int .i64 0, .slice none 0 0, .slice none 0 0, .string ⟨#[]⟩, .int .i64 0, .slice none 0 0, .slice none 0 0, .bool false] 30)) := (Rg.Bk.new rfl).old _
  have kR1 : Rg.Bk (w.heap.size + 1) [.string ⟨#[]⟩, .int .i64 0, .slice none 0 0, .slice none 0 0, .string ⟨#[]⟩, .int .i64 0, .slice none 0 0, .slice none 0 0, .bool false] 30 ((w.alloc (.cells #[.string x0, .int .i64 p0, .slice b0 bn0 bc0, .slice g0 gn0 gc0, .string x1, .int .i64 p1, .slice b1 bn1 bc1, .slice g1 gn1 gc1, .bool up] 30)).alloc (.cells #[.string ⟨#[]⟩, .int .i64 0, .slice none 0 0, .slice none 0 0, .string ⟨#[]⟩, .int .i64 0, .slice none 0 0, .slice none 0 0, .bool false] 30)) := Rg.Bk.new (by simp)
  have hb1 := Rg.al2 w (.cells #[.string x0, .int .i64 p0, .slice b0 bn0 bc0, .slice g0 gn0 gc0, .string x1, .int .i64 p1, .slice b1 bn1 bc1, .slice g1 gn1 gc1, .bool up] 30) (.cells #[.string ⟨#[]⟩, .int .i64 0, .slice none 0 0, .slice none 0 0, .string ⟨#[]⟩, .int .i64 0, .slice none 0 0, .slice none 0 0, .bool false] 30)
  go_enter Try.func27, Try.ntmps27
  go_upto_region 1 with fail
  generalize World.alloc _ _ = w1 at *
  obtain ⟨B, hB⟩ : ∃ B, B = w.heap.size := ⟨_, rfl⟩
  obtain ⟨R, hR⟩ : ∃ R, R = w.heap.size + 1 := ⟨_, rfl⟩
  rw [← hR] at kR1 ⊢
  rw [← hB] at kB1 ⊢
  have hBR : B ≠ R := by omega
  have hBw : w.heap.size ≤ B := by omega
  have hRw : w.heap.size ≤ R := by omega
  clear hB hR
  have z0 : w1.cell? ⟨B, 0, none⟩ = some (.string x0) := kB1.cell 0
  have z1 : w1.cell? ⟨B, 1, none⟩ = some (.int .i64 p0) := kB1.cell 1
  have z2 : w1.cell? ⟨B, 2, none⟩ = some (.slice b0 bn0 bc0) := kB1.cell 2
  have z3 : w1.cell? ⟨B, 3, none⟩ = some (.slice g0 gn0 gc0) := kB1.cell 3
  have z4 : w1.cell? ⟨B, 4, none⟩ = some (.string x1) := kB1.cell 4
  have z5 : w1.cell? ⟨B, 5, none⟩ = some (.int .i64 p1) := kB1.cell 5
  have z6 : w1.cell? ⟨B, 6, none⟩ = some (.slice b1 bn1 bc1) := kB1.cell 6
  have z7 : w1.cell? ⟨B, 7, none⟩ = some (.slice g1 gn1 gc1) := kB1.cell 7
  have z8 : w1.cell? ⟨B, 8, none⟩ = some (.bool up) := kB1.cell 8
  replace kB1 := Rg.hid kB1
  replace kR1 := Rg.hid kR1
  replace hb1 := Rg.hid hb1
  go_upto_region 2 with (go_at_call 44; refine (HO.out _ hb1.out).mono ?_; rintro e w2 ⟨b0', bc0', g0', gc0', b1', bc1', g1', gc1', rfl, ⟨r_b0, q_b0, r_g0, q_g0, r_b1, q_b1, r_g1, q_g1⟩, b2⟩; have kB2 := kB1.out.below b2 kB1.out.lt; have y0 := kB2.cell 0; have y1 := kB2.cell 1; have y2 := kB2.cell 2; have y3 := kB2.cell 3; have y4 := kB2.cell 4; have y5 := kB2.cell 5; have y6 := kB2.cell 6; have y7 := kB2.cell 7; have y8 := kB2.cell 8; simp only [List.getElem?_cons_zero, List.getElem?_cons_succ] at y0 y1 y2 y3 y4 y5 y6 y7 y8; have yf := kB2.thaw)
  obtain ⟨kB3, oB⟩ := ret9 kB2 rfl (.string x0) (.int .i64 p0) (.slice b0' bn0 bc0') (.slice g0' gn0 gc0') (.string x1) (.int .i64 p1) (.slice b1' bn1 bc1') (.slice g1' gn1 gc1') (.bool up)
  replace r_b0 := Rg.hid (r_b0.only kB2 line_int oB)
  replace r_g0 := Rg.hid (r_g0.only kB2 line_int oB)
  replace r_b1 := Rg.hid (r_b1.only kB2 line_int oB)
  replace r_g1 := Rg.hid (r_g1.only kB2 line_int oB)
  have kR3 := (kR1.out.below b2 kR1.out.lt).same (oB.block _ (Ne.symm hBR))
  have hb3 := Rg.hid ((Rg.chain hb1.out b2).trans (oB.bel hBw))
  clear kB1 kR1 hb1 kB2 oB b2 yf y0 y1 y2 y3 y4 y5 y6 y7 y8 z0 z1 z2 z3 z4 z5 z6 z7 z8 HO
  generalize World.setCell _ _ _ = w3 at *
  have HT : Hid (∀ W, Calls Try.prog 45 #[.agg #[.string x0, .int .i64 p0, .slice b0' bn0 bc0', .slice g0' gn0 gc0', .string x1, .int .i64 p1, .slice b1' bn1 bc1', .slice g1' gn1 gc1', .bool up], .int .i64 n, .int .i64 m] W fun e w' => e = .returned (.bool false) ∧ Below W.heap.size W w') := fun W => rthere_bad x0 p0 b0' bn0 bc0' g0' gn0 gc0' x1 p1 b1' bn1 bc1' g1' gn1 gc1' up n m W h0 h1
  have u0 : w3.cell? ⟨B, 0, none⟩ = some (.string x0) := kB3.cell 0
  have u1 : w3.cell? ⟨B, 1, none⟩ = some (.int .i64 p0) := kB3.cell 1
  have u2 : w3.cell? ⟨B, 2, none⟩ = some (.slice b0' bn0 bc0') := kB3.cell 2
  have u3 : w3.cell? ⟨B, 3, none⟩ = some (.slice g0' gn0 gc0') := kB3.cell 3
  have u4 : w3.cell? ⟨B, 4, none⟩ = some (.string x1) := kB3.cell 4
  have u5 : w3.cell? ⟨B, 5, none⟩ = some (.int .i64 p1) := kB3.cell 5
  have u6 : w3.cell? ⟨B, 6, none⟩ = some (.slice b1' bn1 bc1') := kB3.cell 6
  have u7 : w3.cell? ⟨B, 7, none⟩ = some (.slice g1' gn1 gc1') := kB3.cell 7
  have u8 : w3.cell? ⟨B, 8, none⟩ = some (.bool up) := kB3.cell 8
  replace kB3 := Rg.hid kB3
  replace kR3 := Rg.hid kR3
  go_upto_region 3 with (go_at_call 45; refine (HT.out _).mono ?_; rintro e w4 ⟨rfl, b4⟩)
  have kB4 := kB3.out.below b4 kB3.out.lt
  have kR4 := kR3.out.below b4 kR3.out.lt
  have hb4 := Rg.hid (Rg.chain hb3.out b4)
  replace r_b0 := Rg.hid (r_b0.out.below b4)
  replace r_g0 := Rg.hid (r_g0.out.below b4)
  replace r_b1 := Rg.hid (r_b1.out.below b4)
  replace r_g1 := Rg.hid (r_g1.out.below b4)
  clear kB3 kR3 hb3 b4 HT u0 u1 u2 u3 u4 u5 u6 u7 u8
  obtain ⟨kE, oE⟩ := ret9 kR4 rfl (.string x0) (.int .i64 p0) (.slice b0' bn0 bc0') (.slice g0' gn0 gc0') (.string x1) (.int .i64 p1) (.slice b1' bn1 bc1') (.slice g1' gn1 gc1') (.bool up)
  have post := Rg.hid ((⟨_, _, _, _, _, _, _, _, rfl, ⟨r_b0.out.only kR4 line_int oE, q_b0, r_g0.out.only kR4 line_int oE, q_g0, r_b1.out.only kR4 line_int oE, q_b1, r_g1.out.only kR4 line_int oE, q_g1⟩, hb4.out.trans (oE.bel hRw)⟩ : RPost (x0) (p0) (bn0) (gn0) (x1) (p1) (bn1) (gn1) (up) (bad0) (gap0) (bad1) (gap1) (.int .i64 6) w (.returned (.tuple #[.agg #[.string x0, .int .i64 p0, .slice b0' bn0 bc0', .slice g0' gn0 gc0', .string x1, .int .i64 p1, .slice b1' bn1 bc1', .slice g1' gn1 gc1', .bool up], .int .i64 6])) _))
  replace kE := Rg.hid kE
  have d0' : w4.cell? ⟨B, 0, none⟩ = some (.string x0) := kB4.cell 0
  have d1' : w4.cell? ⟨B, 1, none⟩ = some (.int .i64 p0) := kB4.cell 1
  have d2' : w4.cell? ⟨B, 2, none⟩ = some (.slice b0' bn0 bc0') := kB4.cell 2
  have d3' : w4.cell? ⟨B, 3, none⟩ = some (.slice g0' gn0 gc0') := kB4.cell 3
  have d4' : w4.cell? ⟨B, 4, none⟩ = some (.string x1) := kB4.cell 4
  have d5' : w4.cell? ⟨B, 5, none⟩ = some (.int .i64 p1) := kB4.cell 5
  have d6' : w4.cell? ⟨B, 6, none⟩ = some (.slice b1' bn1 bc1') := kB4.cell 6
  have d7' : w4.cell? ⟨B, 7, none⟩ = some (.slice g1' gn1 gc1') := kB4.cell 7
  have d8' : w4.cell? ⟨B, 8, none⟩ = some (.bool up) := kB4.cell 8
  have r0 : w4.cell? ⟨R, 0, none⟩ = some (.string ⟨#[]⟩) := kR4.cell 0
  have r1 : w4.cell? ⟨R, 1, none⟩ = some (.int .i64 0) := kR4.cell 1
  have r2 : w4.cell? ⟨R, 2, none⟩ = some (.slice none 0 0) := kR4.cell 2
  have r3 : w4.cell? ⟨R, 3, none⟩ = some (.slice none 0 0) := kR4.cell 3
  have r4 : w4.cell? ⟨R, 4, none⟩ = some (.string ⟨#[]⟩) := kR4.cell 4
  have r5 : w4.cell? ⟨R, 5, none⟩ = some (.int .i64 0) := kR4.cell 5
  have r6 : w4.cell? ⟨R, 6, none⟩ = some (.slice none 0 0) := kR4.cell 6
  have r7 : w4.cell? ⟨R, 7, none⟩ = some (.slice none 0 0) := kR4.cell 7
  have r8 : w4.cell? ⟨R, 8, none⟩ = some (.bool false) := kR4.cell 8
  have rf := kR4.thaw
  clear oE kR4 kB4 hb4
  go_wp2
  replace kE := kE.out
  replace post := post.out
  generalize World.setCell _ _ _ = WE at *
  exact bodyPost_ret (v := .tuple #[.agg #[.string x0, .int .i64 p0, .slice b0' bn0 bc0', .slice g0' gn0 gc0', .string x1, .int .i64 p1, .slice b1' bn1 bc1', .slice g1' gn1 gc1', .bool up], .int .i64 6]) (by simp [results, Try.results27, go_sem, kE.cell]) rfl post

set_option maxHeartbeats 1000000 in
set_option maxRecDepth 100000 in
theorem rflip_down0 (x0 : ByteArray) (p0 : Int) (b0 : Option Addr) (bn0 bc0 : Nat) (g0 : Option Addr) (gn0 gc0 : Nat) (x1 : ByteArray) (p1 : Int) (b1 : Option Addr) (bn1 bc1 : Nat) (g1 : Option Addr) (gn1 gc1 : Nat) (m : Int) (bit : Int) (bad0 gap0 bad1 gap1 : List Int) (h_bn0 : Hid (bn0 = bad0.length)) (h_gn0 : Hid (gn0 = gap0.length)) (h_bn1 : Hid (bn1 = bad1.length)) (h_gn1 : Hid (gn1 = gap1.length)) (l_bn0 : bn0 ≤ 1000000000) (l_gn0 : gn0 ≤ 1000000000) (l_bn1 : bn1 ≤ 1000000000) (l_gn1 : gn1 ≤ 1000000000) (w : World) (hR0 : IRow w b0 bad0 ∧ bn0 ≤ bc0 ∧ IRow w g0 gap0 ∧ gn0 ≤ gc0 ∧ IRow w b1 bad1 ∧ bn1 ≤ bc1 ∧ IRow w g1 gap1 ∧ gn1 ≤ gc1) :
    Calls Try.prog 27 #[.agg #[.string x0, .int .i64 p0, .slice b0 bn0 bc0, .slice g0 gn0 gc0, .string x1, .int .i64 p1, .slice b1 bn1 bc1, .slice g1 gn1 gc1, .bool false], .int .i64 0, .int .i64 m, .int .i64 bit] w fun e w' => RPost (x0) (p0) (bn0) (gn0) (x1) (p1) (bn1) (gn1) (false) (bad0) (gap0) (bad1) (gap1) (.int .i64 6) w e w' := by
  obtain ⟨s_b0, q_b0, s_g0, q_g0, s_b1, q_b1, s_g1, q_g1⟩ := hR0
  have HO : Hid (∀ W, Below w.heap.size w W → Calls Try.prog 44 #[.agg #[.string x0, .int .i64 p0, .slice b0 bn0 bc0, .slice g0 gn0 gc0, .string x1, .int .i64 p1, .slice b1 bn1 bc1, .slice g1 gn1 gc1, .bool false]] W fun e w' => OwnPost x0 p0 bn0 gn0 x1 p1 bn1 gn1 false bad0 gap0 bad1 gap1 W e w') := fun W hW => rown_cells x0 p0 b0 bn0 bc0 g0 gn0 gc0 x1 p1 b1 bn1 bc1 g1 gn1 gc1 false bad0 gap0 bad1 gap1 W h_bn0 h_gn0 h_bn1 h_gn1 l_bn0 l_gn0 l_bn1 l_gn1 ⟨s_b0.below hW, q_b0, s_g0.below hW, q_g0, s_b1.below hW, q_b1, s_g1.below hW, q_g1⟩
  clear s_b0 q_b0 s_g0 q_g0 s_b1 q_b1 s_g1 q_g1
  have kB1 : Rg.Bk w.heap.size [.string x0, .int .i64 p0, .slice b0 bn0 bc0, .slice g0 gn0 gc0, .string x1, .int .i64 p1, .slice b1 bn1 bc1, .slice g1 gn1 gc1, .bool false] 30 ((w.alloc (.cells #[.string x0, .int .i64 p0, .slice b0 bn0 bc0, .slice g0 gn0 gc0, .string x1, .int .i64 p1, .slice b1 bn1 bc1, .slice g1 gn1 gc1, .bool false] 30)).alloc (.cells #[.string ⟨#[]⟩, .int .i64 0, .slice none 0 0, .slice none 0 0, .string ⟨#[]⟩, .int .i64 0, .slice none 0 0, .slice none 0 0, .bool false] 30)) := (Rg.Bk.new rfl).old _
  have kR1 : Rg.Bk (w.heap.size + 1) [.string ⟨#[]⟩, .int .i64 0, .slice none 0 0, .slice none 0 0, .string ⟨#[]⟩, .int .i64 0, .slice none 0 0, .slice none 0 0, .bool false] 30 ((w.alloc (.cells #[.string x0, .int .i64 p0, .slice b0 bn0 bc0, .slice g0 gn0 gc0, .string x1, .int .i64 p1, .slice b1 bn1 bc1, .slice g1 gn1 gc1, .bool false] 30)).alloc (.cells #[.string ⟨#[]⟩, .int .i64 0, .slice none 0 0, .slice none 0 0, .string ⟨#[]⟩, .int .i64 0, .slice none 0 0, .slice none 0 0, .bool false] 30)) := Rg.Bk.new (by simp)
  have hb1 := Rg.al2 w (.cells #[.string x0, .int .i64 p0, .slice b0 bn0 bc0, .slice g0 gn0 gc0, .string x1, .int .i64 p1, .slice b1 bn1 bc1, .slice g1 gn1 gc1, .bool false] 30) (.cells #[.string ⟨#[]⟩, .int .i64 0, .slice none 0 0, .slice none 0 0, .string ⟨#[]⟩, .int .i64 0, .slice none 0 0, .slice none 0 0, .bool false] 30)
  go_enter Try.func27, Try.ntmps27
  go_upto_region 1 with fail
  generalize World.alloc _ _ = w1 at *
  obtain ⟨B, hB⟩ : ∃ B, B = w.heap.size := ⟨_, rfl⟩
  obtain ⟨R, hR⟩ : ∃ R, R = w.heap.size + 1 := ⟨_, rfl⟩
  rw [← hR] at kR1 ⊢
  rw [← hB] at kB1 ⊢
  have hBR : B ≠ R := by omega
  have hBw : w.heap.size ≤ B := by omega
  have hRw : w.heap.size ≤ R := by omega
  clear hB hR
  have z0 : w1.cell? ⟨B, 0, none⟩ = some (.string x0) := kB1.cell 0
  have z1 : w1.cell? ⟨B, 1, none⟩ = some (.int .i64 p0) := kB1.cell 1
  have z2 : w1.cell? ⟨B, 2, none⟩ = some (.slice b0 bn0 bc0) := kB1.cell 2
  have z3 : w1.cell? ⟨B, 3, none⟩ = some (.slice g0 gn0 gc0) := kB1.cell 3
  have z4 : w1.cell? ⟨B, 4, none⟩ = some (.string x1) := kB1.cell 4
  have z5 : w1.cell? ⟨B, 5, none⟩ = some (.int .i64 p1) := kB1.cell 5
  have z6 : w1.cell? ⟨B, 6, none⟩ = some (.slice b1 bn1 bc1) := kB1.cell 6
  have z7 : w1.cell? ⟨B, 7, none⟩ = some (.slice g1 gn1 gc1) := kB1.cell 7
  have z8 : w1.cell? ⟨B, 8, none⟩ = some (.bool false) := kB1.cell 8
  replace kB1 := Rg.hid kB1
  replace kR1 := Rg.hid kR1
  replace hb1 := Rg.hid hb1
  go_upto_region 2 with (go_at_call 44; refine (HO.out _ hb1.out).mono ?_; rintro e w2 ⟨b0', bc0', g0', gc0', b1', bc1', g1', gc1', rfl, ⟨r_b0, q_b0, r_g0, q_g0, r_b1, q_b1, r_g1, q_g1⟩, b2⟩; have kB2 := kB1.out.below b2 kB1.out.lt; have y0 := kB2.cell 0; have y1 := kB2.cell 1; have y2 := kB2.cell 2; have y3 := kB2.cell 3; have y4 := kB2.cell 4; have y5 := kB2.cell 5; have y6 := kB2.cell 6; have y7 := kB2.cell 7; have y8 := kB2.cell 8; simp only [List.getElem?_cons_zero, List.getElem?_cons_succ] at y0 y1 y2 y3 y4 y5 y6 y7 y8; have yf := kB2.thaw)
  obtain ⟨kB3, oB⟩ := ret9 kB2 rfl (.string x0) (.int .i64 p0) (.slice b0' bn0 bc0') (.slice g0' gn0 gc0') (.string x1) (.int .i64 p1) (.slice b1' bn1 bc1') (.slice g1' gn1 gc1') (.bool false)
  replace r_b0 := Rg.hid (r_b0.only kB2 line_int oB)
  replace r_g0 := Rg.hid (r_g0.only kB2 line_int oB)
  replace r_b1 := Rg.hid (r_b1.only kB2 line_int oB)
  replace r_g1 := Rg.hid (r_g1.only kB2 line_int oB)
  have kR3 := (kR1.out.below b2 kR1.out.lt).same (oB.block _ (Ne.symm hBR))
  have hb3 := Rg.hid ((Rg.chain hb1.out b2).trans (oB.bel hBw))
  clear kB1 kR1 hb1 kB2 oB b2 yf y0 y1 y2 y3 y4 y5 y6 y7 y8 z0 z1 z2 z3 z4 z5 z6 z7 z8 HO
  generalize World.setCell _ _ _ = w3 at *
  have HT : Hid (∀ W, Calls Try.prog 45 #[.agg #[.string x0, .int .i64 p0, .slice b0' bn0 bc0', .slice g0' gn0 gc0', .string x1, .int .i64 p1, .slice b1' bn1 bc1', .slice g1' gn1 gc1', .bool false], .int .i64 0, .int .i64 m] W fun e w' => e = .returned (.bool false) ∧ Below W.heap.size W w') := fun W => rthere_down0 x0 p0 b0' bn0 bc0' g0' gn0 gc0' x1 p1 b1' bn1 bc1' g1' gn1 gc1' m W
  have u0 : w3.cell? ⟨B, 0, none⟩ = some (.string x0) := kB3.cell 0
  have u1 : w3.cell? ⟨B, 1, none⟩ = some (.int .i64 p0) := kB3.cell 1
  have u2 : w3.cell? ⟨B, 2, none⟩ = some (.slice b0' bn0 bc0') := kB3.cell 2
  have u3 : w3.cell? ⟨B, 3, none⟩ = some (.slice g0' gn0 gc0') := kB3.cell 3
  have u4 : w3.cell? ⟨B, 4, none⟩ = some (.string x1) := kB3.cell 4
  have u5 : w3.cell? ⟨B, 5, none⟩ = some (.int .i64 p1) := kB3.cell 5
  have u6 : w3.cell? ⟨B, 6, none⟩ = some (.slice b1' bn1 bc1') := kB3.cell 6
  have u7 : w3.cell? ⟨B, 7, none⟩ = some (.slice g1' gn1 gc1') := kB3.cell 7
  have u8 : w3.cell? ⟨B, 8, none⟩ = some (.bool false) := kB3.cell 8
  replace kB3 := Rg.hid kB3
  replace kR3 := Rg.hid kR3
  go_upto_region 3 with (go_at_call 45; refine (HT.out _).mono ?_; rintro e w4 ⟨rfl, b4⟩)
  have kB4 := kB3.out.below b4 kB3.out.lt
  have kR4 := kR3.out.below b4 kR3.out.lt
  have hb4 := Rg.hid (Rg.chain hb3.out b4)
  replace r_b0 := Rg.hid (r_b0.out.below b4)
  replace r_g0 := Rg.hid (r_g0.out.below b4)
  replace r_b1 := Rg.hid (r_b1.out.below b4)
  replace r_g1 := Rg.hid (r_g1.out.below b4)
  clear kB3 kR3 hb3 b4 HT u0 u1 u2 u3 u4 u5 u6 u7 u8
  obtain ⟨kE, oE⟩ := ret9 kR4 rfl (.string x0) (.int .i64 p0) (.slice b0' bn0 bc0') (.slice g0' gn0 gc0') (.string x1) (.int .i64 p1) (.slice b1' bn1 bc1') (.slice g1' gn1 gc1') (.bool false)
  have post := Rg.hid ((⟨_, _, _, _, _, _, _, _, rfl, ⟨r_b0.out.only kR4 line_int oE, q_b0, r_g0.out.only kR4 line_int oE, q_g0, r_b1.out.only kR4 line_int oE, q_b1, r_g1.out.only kR4 line_int oE, q_g1⟩, hb4.out.trans (oE.bel hRw)⟩ : RPost (x0) (p0) (bn0) (gn0) (x1) (p1) (bn1) (gn1) (false) (bad0) (gap0) (bad1) (gap1) (.int .i64 6) w (.returned (.tuple #[.agg #[.string x0, .int .i64 p0, .slice b0' bn0 bc0', .slice g0' gn0 gc0', .string x1, .int .i64 p1, .slice b1' bn1 bc1', .slice g1' gn1 gc1', .bool false], .int .i64 6])) _))
  replace kE := Rg.hid kE
  have d0' : w4.cell? ⟨B, 0, none⟩ = some (.string x0) := kB4.cell 0
  have d1' : w4.cell? ⟨B, 1, none⟩ = some (.int .i64 p0) := kB4.cell 1
  have d2' : w4.cell? ⟨B, 2, none⟩ = some (.slice b0' bn0 bc0') := kB4.cell 2
  have d3' : w4.cell? ⟨B, 3, none⟩ = some (.slice g0' gn0 gc0') := kB4.cell 3
  have d4' : w4.cell? ⟨B, 4, none⟩ = some (.string x1) := kB4.cell 4
  have d5' : w4.cell? ⟨B, 5, none⟩ = some (.int .i64 p1) := kB4.cell 5
  have d6' : w4.cell? ⟨B, 6, none⟩ = some (.slice b1' bn1 bc1') := kB4.cell 6
  have d7' : w4.cell? ⟨B, 7, none⟩ = some (.slice g1' gn1 gc1') := kB4.cell 7
  have d8' : w4.cell? ⟨B, 8, none⟩ = some (.bool false) := kB4.cell 8
  have r0 : w4.cell? ⟨R, 0, none⟩ = some (.string ⟨#[]⟩) := kR4.cell 0
  have r1 : w4.cell? ⟨R, 1, none⟩ = some (.int .i64 0) := kR4.cell 1
  have r2 : w4.cell? ⟨R, 2, none⟩ = some (.slice none 0 0) := kR4.cell 2
  have r3 : w4.cell? ⟨R, 3, none⟩ = some (.slice none 0 0) := kR4.cell 3
  have r4 : w4.cell? ⟨R, 4, none⟩ = some (.string ⟨#[]⟩) := kR4.cell 4
  have r5 : w4.cell? ⟨R, 5, none⟩ = some (.int .i64 0) := kR4.cell 5
  have r6 : w4.cell? ⟨R, 6, none⟩ = some (.slice none 0 0) := kR4.cell 6
  have r7 : w4.cell? ⟨R, 7, none⟩ = some (.slice none 0 0) := kR4.cell 7
  have r8 : w4.cell? ⟨R, 8, none⟩ = some (.bool false) := kR4.cell 8
  have rf := kR4.thaw
  clear oE kR4 kB4 hb4
  go_wp2
  replace kE := kE.out
  replace post := post.out
  generalize World.setCell _ _ _ = WE at *
  exact bodyPost_ret (v := .tuple #[.agg #[.string x0, .int .i64 p0, .slice b0' bn0 bc0', .slice g0' gn0 gc0', .string x1, .int .i64 p1, .slice b1' bn1 bc1', .slice g1' gn1 gc1', .bool false], .int .i64 6]) (by simp [results, Try.results27, go_sem, kE.cell]) rfl post

set_option maxHeartbeats 1000000 in
set_option maxRecDepth 100000 in
theorem rflip_none0 (x0 : ByteArray) (p0 : Int) (b0 : Option Addr) (bn0 bc0 : Nat) (g0 : Option Addr) (gn0 gc0 : Nat) (x1 : ByteArray) (p1 : Int) (b1 : Option Addr) (bn1 bc1 : Nat) (g1 : Option Addr) (gn1 gc1 : Nat) (m : Int) (bit : Int) (bad0 gap0 bad1 gap1 : List Int) (h_bn0 : Hid (bn0 = bad0.length)) (h_gn0 : Hid (gn0 = gap0.length)) (h_bn1 : Hid (bn1 = bad1.length)) (h_gn1 : Hid (gn1 = gap1.length)) (l_bn0 : bn0 ≤ 1000000000) (l_gn0 : gn0 ≤ 1000000000) (l_bn1 : bn1 ≤ 1000000000) (l_gn1 : gn1 ≤ 1000000000) (w : World) (hR0 : IRow w b0 bad0 ∧ bn0 ≤ bc0 ∧ IRow w g0 gap0 ∧ gn0 ≤ gc0 ∧ IRow w b1 bad1 ∧ bn1 ≤ bc1 ∧ IRow w g1 gap1 ∧ gn1 ≤ gc1) (hat : ¬ (0 ≤ m ∧ m < (x0.size : Int))) :
    Calls Try.prog 27 #[.agg #[.string x0, .int .i64 p0, .slice b0 bn0 bc0, .slice g0 gn0 gc0, .string x1, .int .i64 p1, .slice b1 bn1 bc1, .slice g1 gn1 gc1, .bool true], .int .i64 0, .int .i64 m, .int .i64 bit] w fun e w' => RPost (x0) (p0) (bn0) (gn0) (x1) (p1) (bn1) (gn1) (true) (bad0) (gap0) (bad1) (gap1) (.int .i64 6) w e w' := by
  obtain ⟨s_b0, q_b0, s_g0, q_g0, s_b1, q_b1, s_g1, q_g1⟩ := hR0
  have HO : Hid (∀ W, Below w.heap.size w W → Calls Try.prog 44 #[.agg #[.string x0, .int .i64 p0, .slice b0 bn0 bc0, .slice g0 gn0 gc0, .string x1, .int .i64 p1, .slice b1 bn1 bc1, .slice g1 gn1 gc1, .bool true]] W fun e w' => OwnPost x0 p0 bn0 gn0 x1 p1 bn1 gn1 true bad0 gap0 bad1 gap1 W e w') := fun W hW => rown_cells x0 p0 b0 bn0 bc0 g0 gn0 gc0 x1 p1 b1 bn1 bc1 g1 gn1 gc1 true bad0 gap0 bad1 gap1 W h_bn0 h_gn0 h_bn1 h_gn1 l_bn0 l_gn0 l_bn1 l_gn1 ⟨s_b0.below hW, q_b0, s_g0.below hW, q_g0, s_b1.below hW, q_b1, s_g1.below hW, q_g1⟩
  clear s_b0 q_b0 s_g0 q_g0 s_b1 q_b1 s_g1 q_g1
  have kB1 : Rg.Bk w.heap.size [.string x0, .int .i64 p0, .slice b0 bn0 bc0, .slice g0 gn0 gc0, .string x1, .int .i64 p1, .slice b1 bn1 bc1, .slice g1 gn1 gc1, .bool true] 30 ((w.alloc (.cells #[.string x0, .int .i64 p0, .slice b0 bn0 bc0, .slice g0 gn0 gc0, .string x1, .int .i64 p1, .slice b1 bn1 bc1, .slice g1 gn1 gc1, .bool true] 30)).alloc (.cells #[.string ⟨#[]⟩, .int .i64 0, .slice none 0 0, .slice none 0 0, .string ⟨#[]⟩, .int .i64 0, .slice none 0 0, .slice none 0 0, .bool false] 30)) := (Rg.Bk.new rfl).old _
  have kR1 : Rg.Bk (w.heap.size + 1) [.string ⟨#[]⟩, .int .i64 0, .slice none 0 0, .slice none 0 0, .string ⟨#[]⟩, .int .i64 0, .slice none 0 0, .slice none 0 0, .bool false] 30 ((w.alloc (.cells #[.string x0, .int .i64 p0, .slice b0 bn0 bc0, .slice g0 gn0 gc0, .string x1, .int .i64 p1, .slice b1 bn1 bc1, .slice g1 gn1 gc1, .bool true] 30)).alloc (.cells #[.string ⟨#[]⟩, .int .i64 0, .slice none 0 0, .slice none 0 0, .string ⟨#[]⟩, .int .i64 0, .slice none 0 0, .slice none 0 0, .bool false] 30)) := Rg.Bk.new (by simp)
  have hb1 := Rg.al2 w (.cells #[.string x0, .int .i64 p0, .slice b0 bn0 bc0, .slice g0 gn0 gc0, .string x1, .int .i64 p1, .slice b1 bn1 bc1, .slice g1 gn1 gc1, .bool true] 30) (.cells #[.string ⟨#[]⟩, .int .i64 0, .slice none 0 0, .slice none 0 0, .string ⟨#[]⟩, .int .i64 0, .slice none 0 0, .slice none 0 0, .bool false] 30)
  go_enter Try.func27, Try.ntmps27
  go_upto_region 1 with fail
  generalize World.alloc _ _ = w1 at *
  obtain ⟨B, hB⟩ : ∃ B, B = w.heap.size := ⟨_, rfl⟩
  obtain ⟨R, hR⟩ : ∃ R, R = w.heap.size + 1 := ⟨_, rfl⟩
  rw [← hR] at kR1 ⊢
  rw [← hB] at kB1 ⊢
  have hBR : B ≠ R := by omega
  have hBw : w.heap.size ≤ B := by omega
  have hRw : w.heap.size ≤ R := by omega
  clear hB hR
  have z0 : w1.cell? ⟨B, 0, none⟩ = some (.string x0) := kB1.cell 0
  have z1 : w1.cell? ⟨B, 1, none⟩ = some (.int .i64 p0) := kB1.cell 1
  have z2 : w1.cell? ⟨B, 2, none⟩ = some (.slice b0 bn0 bc0) := kB1.cell 2
  have z3 : w1.cell? ⟨B, 3, none⟩ = some (.slice g0 gn0 gc0) := kB1.cell 3
  have z4 : w1.cell? ⟨B, 4, none⟩ = some (.string x1) := kB1.cell 4
  have z5 : w1.cell? ⟨B, 5, none⟩ = some (.int .i64 p1) := kB1.cell 5
  have z6 : w1.cell? ⟨B, 6, none⟩ = some (.slice b1 bn1 bc1) := kB1.cell 6
  have z7 : w1.cell? ⟨B, 7, none⟩ = some (.slice g1 gn1 gc1) := kB1.cell 7
  have z8 : w1.cell? ⟨B, 8, none⟩ = some (.bool true) := kB1.cell 8
  replace kB1 := Rg.hid kB1
  replace kR1 := Rg.hid kR1
  replace hb1 := Rg.hid hb1
  go_upto_region 2 with (go_at_call 44; refine (HO.out _ hb1.out).mono ?_; rintro e w2 ⟨b0', bc0', g0', gc0', b1', bc1', g1', gc1', rfl, ⟨r_b0, q_b0, r_g0, q_g0, r_b1, q_b1, r_g1, q_g1⟩, b2⟩; have kB2 := kB1.out.below b2 kB1.out.lt; have y0 := kB2.cell 0; have y1 := kB2.cell 1; have y2 := kB2.cell 2; have y3 := kB2.cell 3; have y4 := kB2.cell 4; have y5 := kB2.cell 5; have y6 := kB2.cell 6; have y7 := kB2.cell 7; have y8 := kB2.cell 8; simp only [List.getElem?_cons_zero, List.getElem?_cons_succ] at y0 y1 y2 y3 y4 y5 y6 y7 y8; have yf := kB2.thaw)
  obtain ⟨kB3, oB⟩ := ret9 kB2 rfl (.string x0) (.int .i64 p0) (.slice b0' bn0 bc0') (.slice g0' gn0 gc0') (.string x1) (.int .i64 p1) (.slice b1' bn1 bc1') (.slice g1' gn1 gc1') (.bool true)
  replace r_b0 := Rg.hid (r_b0.only kB2 line_int oB)
  replace r_g0 := Rg.hid (r_g0.only kB2 line_int oB)
  replace r_b1 := Rg.hid (r_b1.only kB2 line_int oB)
  replace r_g1 := Rg.hid (r_g1.only kB2 line_int oB)
  have kR3 := (kR1.out.below b2 kR1.out.lt).same (oB.block _ (Ne.symm hBR))
  have hb3 := Rg.hid ((Rg.chain hb1.out b2).trans (oB.bel hBw))
  clear kB1 kR1 hb1 kB2 oB b2 yf y0 y1 y2 y3 y4 y5 y6 y7 y8 z0 z1 z2 z3 z4 z5 z6 z7 z8 HO
  generalize World.setCell _ _ _ = w3 at *
  have HT : Hid (∀ W, Calls Try.prog 45 #[.agg #[.string x0, .int .i64 p0, .slice b0' bn0 bc0', .slice g0' gn0 gc0', .string x1, .int .i64 p1, .slice b1' bn1 bc1', .slice g1' gn1 gc1', .bool true], .int .i64 0, .int .i64 m] W fun e w' => e = .returned (.bool false) ∧ Below W.heap.size W w') := fun W => (by have := rthere_up0 x0 p0 b0' bn0 bc0' g0' gn0 gc0' x1 p1 b1' bn1 bc1' g1' gn1 gc1' m W; rw [show decide (0 ≤ m ∧ m < (x0.size : Int)) = false by simp only [decide_eq_false_iff_not]; exact hat] at this; exact this)
  have u0 : w3.cell? ⟨B, 0, none⟩ = some (.string x0) := kB3.cell 0
  have u1 : w3.cell? ⟨B, 1, none⟩ = some (.int .i64 p0) := kB3.cell 1
  have u2 : w3.cell? ⟨B, 2, none⟩ = some (.slice b0' bn0 bc0') := kB3.cell 2
  have u3 : w3.cell? ⟨B, 3, none⟩ = some (.slice g0' gn0 gc0') := kB3.cell 3
  have u4 : w3.cell? ⟨B, 4, none⟩ = some (.string x1) := kB3.cell 4
  have u5 : w3.cell? ⟨B, 5, none⟩ = some (.int .i64 p1) := kB3.cell 5
  have u6 : w3.cell? ⟨B, 6, none⟩ = some (.slice b1' bn1 bc1') := kB3.cell 6
  have u7 : w3.cell? ⟨B, 7, none⟩ = some (.slice g1' gn1 gc1') := kB3.cell 7
  have u8 : w3.cell? ⟨B, 8, none⟩ = some (.bool true) := kB3.cell 8
  replace kB3 := Rg.hid kB3
  replace kR3 := Rg.hid kR3
  go_upto_region 3 with (go_at_call 45; refine (HT.out _).mono ?_; rintro e w4 ⟨rfl, b4⟩)
  have kB4 := kB3.out.below b4 kB3.out.lt
  have kR4 := kR3.out.below b4 kR3.out.lt
  have hb4 := Rg.hid (Rg.chain hb3.out b4)
  replace r_b0 := Rg.hid (r_b0.out.below b4)
  replace r_g0 := Rg.hid (r_g0.out.below b4)
  replace r_b1 := Rg.hid (r_b1.out.below b4)
  replace r_g1 := Rg.hid (r_g1.out.below b4)
  clear kB3 kR3 hb3 b4 HT u0 u1 u2 u3 u4 u5 u6 u7 u8
  obtain ⟨kE, oE⟩ := ret9 kR4 rfl (.string x0) (.int .i64 p0) (.slice b0' bn0 bc0') (.slice g0' gn0 gc0') (.string x1) (.int .i64 p1) (.slice b1' bn1 bc1') (.slice g1' gn1 gc1') (.bool true)
  have post := Rg.hid ((⟨_, _, _, _, _, _, _, _, rfl, ⟨r_b0.out.only kR4 line_int oE, q_b0, r_g0.out.only kR4 line_int oE, q_g0, r_b1.out.only kR4 line_int oE, q_b1, r_g1.out.only kR4 line_int oE, q_g1⟩, hb4.out.trans (oE.bel hRw)⟩ : RPost (x0) (p0) (bn0) (gn0) (x1) (p1) (bn1) (gn1) (true) (bad0) (gap0) (bad1) (gap1) (.int .i64 6) w (.returned (.tuple #[.agg #[.string x0, .int .i64 p0, .slice b0' bn0 bc0', .slice g0' gn0 gc0', .string x1, .int .i64 p1, .slice b1' bn1 bc1', .slice g1' gn1 gc1', .bool true], .int .i64 6])) _))
  replace kE := Rg.hid kE
  have d0' : w4.cell? ⟨B, 0, none⟩ = some (.string x0) := kB4.cell 0
  have d1' : w4.cell? ⟨B, 1, none⟩ = some (.int .i64 p0) := kB4.cell 1
  have d2' : w4.cell? ⟨B, 2, none⟩ = some (.slice b0' bn0 bc0') := kB4.cell 2
  have d3' : w4.cell? ⟨B, 3, none⟩ = some (.slice g0' gn0 gc0') := kB4.cell 3
  have d4' : w4.cell? ⟨B, 4, none⟩ = some (.string x1) := kB4.cell 4
  have d5' : w4.cell? ⟨B, 5, none⟩ = some (.int .i64 p1) := kB4.cell 5
  have d6' : w4.cell? ⟨B, 6, none⟩ = some (.slice b1' bn1 bc1') := kB4.cell 6
  have d7' : w4.cell? ⟨B, 7, none⟩ = some (.slice g1' gn1 gc1') := kB4.cell 7
  have d8' : w4.cell? ⟨B, 8, none⟩ = some (.bool true) := kB4.cell 8
  have r0 : w4.cell? ⟨R, 0, none⟩ = some (.string ⟨#[]⟩) := kR4.cell 0
  have r1 : w4.cell? ⟨R, 1, none⟩ = some (.int .i64 0) := kR4.cell 1
  have r2 : w4.cell? ⟨R, 2, none⟩ = some (.slice none 0 0) := kR4.cell 2
  have r3 : w4.cell? ⟨R, 3, none⟩ = some (.slice none 0 0) := kR4.cell 3
  have r4 : w4.cell? ⟨R, 4, none⟩ = some (.string ⟨#[]⟩) := kR4.cell 4
  have r5 : w4.cell? ⟨R, 5, none⟩ = some (.int .i64 0) := kR4.cell 5
  have r6 : w4.cell? ⟨R, 6, none⟩ = some (.slice none 0 0) := kR4.cell 6
  have r7 : w4.cell? ⟨R, 7, none⟩ = some (.slice none 0 0) := kR4.cell 7
  have r8 : w4.cell? ⟨R, 8, none⟩ = some (.bool false) := kR4.cell 8
  have rf := kR4.thaw
  clear oE kR4 kB4 hb4
  go_wp2
  replace kE := kE.out
  replace post := post.out
  generalize World.setCell _ _ _ = WE at *
  exact bodyPost_ret (v := .tuple #[.agg #[.string x0, .int .i64 p0, .slice b0' bn0 bc0', .slice g0' gn0 gc0', .string x1, .int .i64 p1, .slice b1' bn1 bc1', .slice g1' gn1 gc1', .bool true], .int .i64 6]) (by simp [results, Try.results27, go_sem, kE.cell]) rfl post

set_option maxHeartbeats 1000000 in
set_option maxRecDepth 100000 in
theorem rflip_down1 (x0 : ByteArray) (p0 : Int) (b0 : Option Addr) (bn0 bc0 : Nat) (g0 : Option Addr) (gn0 gc0 : Nat) (x1 : ByteArray) (p1 : Int) (b1 : Option Addr) (bn1 bc1 : Nat) (g1 : Option Addr) (gn1 gc1 : Nat) (m : Int) (bit : Int) (bad0 gap0 bad1 gap1 : List Int) (h_bn0 : Hid (bn0 = bad0.length)) (h_gn0 : Hid (gn0 = gap0.length)) (h_bn1 : Hid (bn1 = bad1.length)) (h_gn1 : Hid (gn1 = gap1.length)) (l_bn0 : bn0 ≤ 1000000000) (l_gn0 : gn0 ≤ 1000000000) (l_bn1 : bn1 ≤ 1000000000) (l_gn1 : gn1 ≤ 1000000000) (w : World) (hR0 : IRow w b0 bad0 ∧ bn0 ≤ bc0 ∧ IRow w g0 gap0 ∧ gn0 ≤ gc0 ∧ IRow w b1 bad1 ∧ bn1 ≤ bc1 ∧ IRow w g1 gap1 ∧ gn1 ≤ gc1) :
    Calls Try.prog 27 #[.agg #[.string x0, .int .i64 p0, .slice b0 bn0 bc0, .slice g0 gn0 gc0, .string x1, .int .i64 p1, .slice b1 bn1 bc1, .slice g1 gn1 gc1, .bool false], .int .i64 1, .int .i64 m, .int .i64 bit] w fun e w' => RPost (x0) (p0) (bn0) (gn0) (x1) (p1) (bn1) (gn1) (false) (bad0) (gap0) (bad1) (gap1) (.int .i64 6) w e w' := by
  obtain ⟨s_b0, q_b0, s_g0, q_g0, s_b1, q_b1, s_g1, q_g1⟩ := hR0
  have HO : Hid (∀ W, Below w.heap.size w W → Calls Try.prog 44 #[.agg #[.string x0, .int .i64 p0, .slice b0 bn0 bc0, .slice g0 gn0 gc0, .string x1, .int .i64 p1, .slice b1 bn1 bc1, .slice g1 gn1 gc1, .bool false]] W fun e w' => OwnPost x0 p0 bn0 gn0 x1 p1 bn1 gn1 false bad0 gap0 bad1 gap1 W e w') := fun W hW => rown_cells x0 p0 b0 bn0 bc0 g0 gn0 gc0 x1 p1 b1 bn1 bc1 g1 gn1 gc1 false bad0 gap0 bad1 gap1 W h_bn0 h_gn0 h_bn1 h_gn1 l_bn0 l_gn0 l_bn1 l_gn1 ⟨s_b0.below hW, q_b0, s_g0.below hW, q_g0, s_b1.below hW, q_b1, s_g1.below hW, q_g1⟩
  clear s_b0 q_b0 s_g0 q_g0 s_b1 q_b1 s_g1 q_g1
  have kB1 : Rg.Bk w.heap.size [.string x0, .int .i64 p0, .slice b0 bn0 bc0, .slice g0 gn0 gc0, .string x1, .int .i64 p1, .slice b1 bn1 bc1, .slice g1 gn1 gc1, .bool false] 30 ((w.alloc (.cells #[.string x0, .int .i64 p0, .slice b0 bn0 bc0, .slice g0 gn0 gc0, .string x1, .int .i64 p1, .slice b1 bn1 bc1, .slice g1 gn1 gc1, .bool false] 30)).alloc (.cells #[.string ⟨#[]⟩, .int .i64 0, .slice none 0 0, .slice none 0 0, .string ⟨#[]⟩, .int .i64 0, .slice none 0 0, .slice none 0 0, .bool false] 30)) := (Rg.Bk.new rfl).old _
  have kR1 : Rg.Bk (w.heap.size + 1) [.string ⟨#[]⟩, .int .i64 0, .slice none 0 0, .slice none 0 0, .string ⟨#[]⟩, .int .i64 0, .slice none 0 0, .slice none 0 0, .bool false] 30 ((w.alloc (.cells #[.string x0, .int .i64 p0, .slice b0 bn0 bc0, .slice g0 gn0 gc0, .string x1, .int .i64 p1, .slice b1 bn1 bc1, .slice g1 gn1 gc1, .bool false] 30)).alloc (.cells #[.string ⟨#[]⟩, .int .i64 0, .slice none 0 0, .slice none 0 0, .string ⟨#[]⟩, .int .i64 0, .slice none 0 0, .slice none 0 0, .bool false] 30)) := Rg.Bk.new (by simp)
  have hb1 := Rg.al2 w (.cells #[.string x0, .int .i64 p0, .slice b0 bn0 bc0, .slice g0 gn0 gc0, .string x1, .int .i64 p1, .slice b1 bn1 bc1, .slice g1 gn1 gc1, .bool false] 30) (.cells #[.string ⟨#[]⟩, .int .i64 0, .slice none 0 0, .slice none 0 0, .string ⟨#[]⟩, .int .i64 0, .slice none 0 0, .slice none 0 0, .bool false] 30)
  go_enter Try.func27, Try.ntmps27
  go_upto_region 1 with fail
  generalize World.alloc _ _ = w1 at *
  obtain ⟨B, hB⟩ : ∃ B, B = w.heap.size := ⟨_, rfl⟩
  obtain ⟨R, hR⟩ : ∃ R, R = w.heap.size + 1 := ⟨_, rfl⟩
  rw [← hR] at kR1 ⊢
  rw [← hB] at kB1 ⊢
  have hBR : B ≠ R := by omega
  have hBw : w.heap.size ≤ B := by omega
  have hRw : w.heap.size ≤ R := by omega
  clear hB hR
  have z0 : w1.cell? ⟨B, 0, none⟩ = some (.string x0) := kB1.cell 0
  have z1 : w1.cell? ⟨B, 1, none⟩ = some (.int .i64 p0) := kB1.cell 1
  have z2 : w1.cell? ⟨B, 2, none⟩ = some (.slice b0 bn0 bc0) := kB1.cell 2
  have z3 : w1.cell? ⟨B, 3, none⟩ = some (.slice g0 gn0 gc0) := kB1.cell 3
  have z4 : w1.cell? ⟨B, 4, none⟩ = some (.string x1) := kB1.cell 4
  have z5 : w1.cell? ⟨B, 5, none⟩ = some (.int .i64 p1) := kB1.cell 5
  have z6 : w1.cell? ⟨B, 6, none⟩ = some (.slice b1 bn1 bc1) := kB1.cell 6
  have z7 : w1.cell? ⟨B, 7, none⟩ = some (.slice g1 gn1 gc1) := kB1.cell 7
  have z8 : w1.cell? ⟨B, 8, none⟩ = some (.bool false) := kB1.cell 8
  replace kB1 := Rg.hid kB1
  replace kR1 := Rg.hid kR1
  replace hb1 := Rg.hid hb1
  go_upto_region 2 with (go_at_call 44; refine (HO.out _ hb1.out).mono ?_; rintro e w2 ⟨b0', bc0', g0', gc0', b1', bc1', g1', gc1', rfl, ⟨r_b0, q_b0, r_g0, q_g0, r_b1, q_b1, r_g1, q_g1⟩, b2⟩; have kB2 := kB1.out.below b2 kB1.out.lt; have y0 := kB2.cell 0; have y1 := kB2.cell 1; have y2 := kB2.cell 2; have y3 := kB2.cell 3; have y4 := kB2.cell 4; have y5 := kB2.cell 5; have y6 := kB2.cell 6; have y7 := kB2.cell 7; have y8 := kB2.cell 8; simp only [List.getElem?_cons_zero, List.getElem?_cons_succ] at y0 y1 y2 y3 y4 y5 y6 y7 y8; have yf := kB2.thaw)
  obtain ⟨kB3, oB⟩ := ret9 kB2 rfl (.string x0) (.int .i64 p0) (.slice b0' bn0 bc0') (.slice g0' gn0 gc0') (.string x1) (.int .i64 p1) (.slice b1' bn1 bc1') (.slice g1' gn1 gc1') (.bool false)
  replace r_b0 := Rg.hid (r_b0.only kB2 line_int oB)
  replace r_g0 := Rg.hid (r_g0.only kB2 line_int oB)
  replace r_b1 := Rg.hid (r_b1.only kB2 line_int oB)
  replace r_g1 := Rg.hid (r_g1.only kB2 line_int oB)
  have kR3 := (kR1.out.below b2 kR1.out.lt).same (oB.block _ (Ne.symm hBR))
  have hb3 := Rg.hid ((Rg.chain hb1.out b2).trans (oB.bel hBw))
  clear kB1 kR1 hb1 kB2 oB b2 yf y0 y1 y2 y3 y4 y5 y6 y7 y8 z0 z1 z2 z3 z4 z5 z6 z7 z8 HO
  generalize World.setCell _ _ _ = w3 at *
  have HT : Hid (∀ W, Calls Try.prog 45 #[.agg #[.string x0, .int .i64 p0, .slice b0' bn0 bc0', .slice g0' gn0 gc0', .string x1, .int .i64 p1, .slice b1' bn1 bc1', .slice g1' gn1 gc1', .bool false], .int .i64 1, .int .i64 m] W fun e w' => e = .returned (.bool false) ∧ Below W.heap.size W w') := fun W => rthere_down1 x0 p0 b0' bn0 bc0' g0' gn0 gc0' x1 p1 b1' bn1 bc1' g1' gn1 gc1' m W
  have u0 : w3.cell? ⟨B, 0, none⟩ = some (.string x0) := kB3.cell 0
  have u1 : w3.cell? ⟨B, 1, none⟩ = some (.int .i64 p0) := kB3.cell 1
  have u2 : w3.cell? ⟨B, 2, none⟩ = some (.slice b0' bn0 bc0') := kB3.cell 2
  have u3 : w3.cell? ⟨B, 3, none⟩ = some (.slice g0' gn0 gc0') := kB3.cell 3
  have u4 : w3.cell? ⟨B, 4, none⟩ = some (.string x1) := kB3.cell 4
  have u5 : w3.cell? ⟨B, 5, none⟩ = some (.int .i64 p1) := kB3.cell 5
  have u6 : w3.cell? ⟨B, 6, none⟩ = some (.slice b1' bn1 bc1') := kB3.cell 6
  have u7 : w3.cell? ⟨B, 7, none⟩ = some (.slice g1' gn1 gc1') := kB3.cell 7
  have u8 : w3.cell? ⟨B, 8, none⟩ = some (.bool false) := kB3.cell 8
  replace kB3 := Rg.hid kB3
  replace kR3 := Rg.hid kR3
  go_upto_region 3 with (go_at_call 45; refine (HT.out _).mono ?_; rintro e w4 ⟨rfl, b4⟩)
  have kB4 := kB3.out.below b4 kB3.out.lt
  have kR4 := kR3.out.below b4 kR3.out.lt
  have hb4 := Rg.hid (Rg.chain hb3.out b4)
  replace r_b0 := Rg.hid (r_b0.out.below b4)
  replace r_g0 := Rg.hid (r_g0.out.below b4)
  replace r_b1 := Rg.hid (r_b1.out.below b4)
  replace r_g1 := Rg.hid (r_g1.out.below b4)
  clear kB3 kR3 hb3 b4 HT u0 u1 u2 u3 u4 u5 u6 u7 u8
  obtain ⟨kE, oE⟩ := ret9 kR4 rfl (.string x0) (.int .i64 p0) (.slice b0' bn0 bc0') (.slice g0' gn0 gc0') (.string x1) (.int .i64 p1) (.slice b1' bn1 bc1') (.slice g1' gn1 gc1') (.bool false)
  have post := Rg.hid ((⟨_, _, _, _, _, _, _, _, rfl, ⟨r_b0.out.only kR4 line_int oE, q_b0, r_g0.out.only kR4 line_int oE, q_g0, r_b1.out.only kR4 line_int oE, q_b1, r_g1.out.only kR4 line_int oE, q_g1⟩, hb4.out.trans (oE.bel hRw)⟩ : RPost (x0) (p0) (bn0) (gn0) (x1) (p1) (bn1) (gn1) (false) (bad0) (gap0) (bad1) (gap1) (.int .i64 6) w (.returned (.tuple #[.agg #[.string x0, .int .i64 p0, .slice b0' bn0 bc0', .slice g0' gn0 gc0', .string x1, .int .i64 p1, .slice b1' bn1 bc1', .slice g1' gn1 gc1', .bool false], .int .i64 6])) _))
  replace kE := Rg.hid kE
  have d0' : w4.cell? ⟨B, 0, none⟩ = some (.string x0) := kB4.cell 0
  have d1' : w4.cell? ⟨B, 1, none⟩ = some (.int .i64 p0) := kB4.cell 1
  have d2' : w4.cell? ⟨B, 2, none⟩ = some (.slice b0' bn0 bc0') := kB4.cell 2
  have d3' : w4.cell? ⟨B, 3, none⟩ = some (.slice g0' gn0 gc0') := kB4.cell 3
  have d4' : w4.cell? ⟨B, 4, none⟩ = some (.string x1) := kB4.cell 4
  have d5' : w4.cell? ⟨B, 5, none⟩ = some (.int .i64 p1) := kB4.cell 5
  have d6' : w4.cell? ⟨B, 6, none⟩ = some (.slice b1' bn1 bc1') := kB4.cell 6
  have d7' : w4.cell? ⟨B, 7, none⟩ = some (.slice g1' gn1 gc1') := kB4.cell 7
  have d8' : w4.cell? ⟨B, 8, none⟩ = some (.bool false) := kB4.cell 8
  have r0 : w4.cell? ⟨R, 0, none⟩ = some (.string ⟨#[]⟩) := kR4.cell 0
  have r1 : w4.cell? ⟨R, 1, none⟩ = some (.int .i64 0) := kR4.cell 1
  have r2 : w4.cell? ⟨R, 2, none⟩ = some (.slice none 0 0) := kR4.cell 2
  have r3 : w4.cell? ⟨R, 3, none⟩ = some (.slice none 0 0) := kR4.cell 3
  have r4 : w4.cell? ⟨R, 4, none⟩ = some (.string ⟨#[]⟩) := kR4.cell 4
  have r5 : w4.cell? ⟨R, 5, none⟩ = some (.int .i64 0) := kR4.cell 5
  have r6 : w4.cell? ⟨R, 6, none⟩ = some (.slice none 0 0) := kR4.cell 6
  have r7 : w4.cell? ⟨R, 7, none⟩ = some (.slice none 0 0) := kR4.cell 7
  have r8 : w4.cell? ⟨R, 8, none⟩ = some (.bool false) := kR4.cell 8
  have rf := kR4.thaw
  clear oE kR4 kB4 hb4
  go_wp2
  replace kE := kE.out
  replace post := post.out
  generalize World.setCell _ _ _ = WE at *
  exact bodyPost_ret (v := .tuple #[.agg #[.string x0, .int .i64 p0, .slice b0' bn0 bc0', .slice g0' gn0 gc0', .string x1, .int .i64 p1, .slice b1' bn1 bc1', .slice g1' gn1 gc1', .bool false], .int .i64 6]) (by simp [results, Try.results27, go_sem, kE.cell]) rfl post

set_option maxHeartbeats 1000000 in
set_option maxRecDepth 100000 in
theorem rflip_none1 (x0 : ByteArray) (p0 : Int) (b0 : Option Addr) (bn0 bc0 : Nat) (g0 : Option Addr) (gn0 gc0 : Nat) (x1 : ByteArray) (p1 : Int) (b1 : Option Addr) (bn1 bc1 : Nat) (g1 : Option Addr) (gn1 gc1 : Nat) (m : Int) (bit : Int) (bad0 gap0 bad1 gap1 : List Int) (h_bn0 : Hid (bn0 = bad0.length)) (h_gn0 : Hid (gn0 = gap0.length)) (h_bn1 : Hid (bn1 = bad1.length)) (h_gn1 : Hid (gn1 = gap1.length)) (l_bn0 : bn0 ≤ 1000000000) (l_gn0 : gn0 ≤ 1000000000) (l_bn1 : bn1 ≤ 1000000000) (l_gn1 : gn1 ≤ 1000000000) (w : World) (hR0 : IRow w b0 bad0 ∧ bn0 ≤ bc0 ∧ IRow w g0 gap0 ∧ gn0 ≤ gc0 ∧ IRow w b1 bad1 ∧ bn1 ≤ bc1 ∧ IRow w g1 gap1 ∧ gn1 ≤ gc1) (hat : ¬ (0 ≤ m ∧ m < (x1.size : Int))) :
    Calls Try.prog 27 #[.agg #[.string x0, .int .i64 p0, .slice b0 bn0 bc0, .slice g0 gn0 gc0, .string x1, .int .i64 p1, .slice b1 bn1 bc1, .slice g1 gn1 gc1, .bool true], .int .i64 1, .int .i64 m, .int .i64 bit] w fun e w' => RPost (x0) (p0) (bn0) (gn0) (x1) (p1) (bn1) (gn1) (true) (bad0) (gap0) (bad1) (gap1) (.int .i64 6) w e w' := by
  obtain ⟨s_b0, q_b0, s_g0, q_g0, s_b1, q_b1, s_g1, q_g1⟩ := hR0
  have HO : Hid (∀ W, Below w.heap.size w W → Calls Try.prog 44 #[.agg #[.string x0, .int .i64 p0, .slice b0 bn0 bc0, .slice g0 gn0 gc0, .string x1, .int .i64 p1, .slice b1 bn1 bc1, .slice g1 gn1 gc1, .bool true]] W fun e w' => OwnPost x0 p0 bn0 gn0 x1 p1 bn1 gn1 true bad0 gap0 bad1 gap1 W e w') := fun W hW => rown_cells x0 p0 b0 bn0 bc0 g0 gn0 gc0 x1 p1 b1 bn1 bc1 g1 gn1 gc1 true bad0 gap0 bad1 gap1 W h_bn0 h_gn0 h_bn1 h_gn1 l_bn0 l_gn0 l_bn1 l_gn1 ⟨s_b0.below hW, q_b0, s_g0.below hW, q_g0, s_b1.below hW, q_b1, s_g1.below hW, q_g1⟩
  clear s_b0 q_b0 s_g0 q_g0 s_b1 q_b1 s_g1 q_g1
  have kB1 : Rg.Bk w.heap.size [.string x0, .int .i64 p0, .slice b0 bn0 bc0, .slice g0 gn0 gc0, .string x1, .int .i64 p1, .slice b1 bn1 bc1, .slice g1 gn1 gc1, .bool true] 30 ((w.alloc (.cells #[.string x0, .int .i64 p0, .slice b0 bn0 bc0, .slice g0 gn0 gc0, .string x1, .int .i64 p1, .slice b1 bn1 bc1, .slice g1 gn1 gc1, .bool true] 30)).alloc (.cells #[.string ⟨#[]⟩, .int .i64 0, .slice none 0 0, .slice none 0 0, .string ⟨#[]⟩, .int .i64 0, .slice none 0 0, .slice none 0 0, .bool false] 30)) := (Rg.Bk.new rfl).old _
  have kR1 : Rg.Bk (w.heap.size + 1) [.string ⟨#[]⟩, .int .i64 0, .slice none 0 0, .slice none 0 0, .string ⟨#[]⟩, .int .i64 0, .slice none 0 0, .slice none 0 0, .bool false] 30 ((w.alloc (.cells #[.string x0, .int .i64 p0, .slice b0 bn0 bc0, .slice g0 gn0 gc0, .string x1, .int .i64 p1, .slice b1 bn1 bc1, .slice g1 gn1 gc1, .bool true] 30)).alloc (.cells #[.string ⟨#[]⟩, .int .i64 0, .slice none 0 0, .slice none 0 0, .string ⟨#[]⟩, .int .i64 0, .slice none 0 0, .slice none 0 0, .bool false] 30)) := Rg.Bk.new (by simp)
  have hb1 := Rg.al2 w (.cells #[.string x0, .int .i64 p0, .slice b0 bn0 bc0, .slice g0 gn0 gc0, .string x1, .int .i64 p1, .slice b1 bn1 bc1, .slice g1 gn1 gc1, .bool true] 30) (.cells #[.string ⟨#[]⟩, .int .i64 0, .slice none 0 0, .slice none 0 0, .string ⟨#[]⟩, .int .i64 0, .slice none 0 0, .slice none 0 0, .bool false] 30)
  go_enter Try.func27, Try.ntmps27
  go_upto_region 1 with fail
  generalize World.alloc _ _ = w1 at *
  obtain ⟨B, hB⟩ : ∃ B, B = w.heap.size := ⟨_, rfl⟩
  obtain ⟨R, hR⟩ : ∃ R, R = w.heap.size + 1 := ⟨_, rfl⟩
  rw [← hR] at kR1 ⊢
  rw [← hB] at kB1 ⊢
  have hBR : B ≠ R := by omega
  have hBw : w.heap.size ≤ B := by omega
  have hRw : w.heap.size ≤ R := by omega
  clear hB hR
  have z0 : w1.cell? ⟨B, 0, none⟩ = some (.string x0) := kB1.cell 0
  have z1 : w1.cell? ⟨B, 1, none⟩ = some (.int .i64 p0) := kB1.cell 1
  have z2 : w1.cell? ⟨B, 2, none⟩ = some (.slice b0 bn0 bc0) := kB1.cell 2
  have z3 : w1.cell? ⟨B, 3, none⟩ = some (.slice g0 gn0 gc0) := kB1.cell 3
  have z4 : w1.cell? ⟨B, 4, none⟩ = some (.string x1) := kB1.cell 4
  have z5 : w1.cell? ⟨B, 5, none⟩ = some (.int .i64 p1) := kB1.cell 5
  have z6 : w1.cell? ⟨B, 6, none⟩ = some (.slice b1 bn1 bc1) := kB1.cell 6
  have z7 : w1.cell? ⟨B, 7, none⟩ = some (.slice g1 gn1 gc1) := kB1.cell 7
  have z8 : w1.cell? ⟨B, 8, none⟩ = some (.bool true) := kB1.cell 8
  replace kB1 := Rg.hid kB1
  replace kR1 := Rg.hid kR1
  replace hb1 := Rg.hid hb1
  go_upto_region 2 with (go_at_call 44; refine (HO.out _ hb1.out).mono ?_; rintro e w2 ⟨b0', bc0', g0', gc0', b1', bc1', g1', gc1', rfl, ⟨r_b0, q_b0, r_g0, q_g0, r_b1, q_b1, r_g1, q_g1⟩, b2⟩; have kB2 := kB1.out.below b2 kB1.out.lt; have y0 := kB2.cell 0; have y1 := kB2.cell 1; have y2 := kB2.cell 2; have y3 := kB2.cell 3; have y4 := kB2.cell 4; have y5 := kB2.cell 5; have y6 := kB2.cell 6; have y7 := kB2.cell 7; have y8 := kB2.cell 8; simp only [List.getElem?_cons_zero, List.getElem?_cons_succ] at y0 y1 y2 y3 y4 y5 y6 y7 y8; have yf := kB2.thaw)
  obtain ⟨kB3, oB⟩ := ret9 kB2 rfl (.string x0) (.int .i64 p0) (.slice b0' bn0 bc0') (.slice g0' gn0 gc0') (.string x1) (.int .i64 p1) (.slice b1' bn1 bc1') (.slice g1' gn1 gc1') (.bool true)
  replace r_b0 := Rg.hid (r_b0.only kB2 line_int oB)
  replace r_g0 := Rg.hid (r_g0.only kB2 line_int oB)
  replace r_b1 := Rg.hid (r_b1.only kB2 line_int oB)
  replace r_g1 := Rg.hid (r_g1.only kB2 line_int oB)
  have kR3 := (kR1.out.below b2 kR1.out.lt).same (oB.block _ (Ne.symm hBR))
  have hb3 := Rg.hid ((Rg.chain hb1.out b2).trans (oB.bel hBw))
  clear kB1 kR1 hb1 kB2 oB b2 yf y0 y1 y2 y3 y4 y5 y6 y7 y8 z0 z1 z2 z3 z4 z5 z6 z7 z8 HO
  generalize World.setCell _ _ _ = w3 at *
  have HT : Hid (∀ W, Calls Try.prog 45 #[.agg #[.string x0, .int .i64 p0, .slice b0' bn0 bc0', .slice g0' gn0 gc0', .string x1, .int .i64 p1, .slice b1' bn1 bc1', .slice g1' gn1 gc1', .bool true], .int .i64 1, .int .i64 m] W fun e w' => e = .returned (.bool false) ∧ Below W.heap.size W w') := fun W => (by have := rthere_up1 x0 p0 b0' bn0 bc0' g0' gn0 gc0' x1 p1 b1' bn1 bc1' g1' gn1 gc1' m W; rw [show decide (0 ≤ m ∧ m < (x1.size : Int)) = false by simp only [decide_eq_false_iff_not]; exact hat] at this; exact this)
  have u0 : w3.cell? ⟨B, 0, none⟩ = some (.string x0) := kB3.cell 0
  have u1 : w3.cell? ⟨B, 1, none⟩ = some (.int .i64 p0) := kB3.cell 1
  have u2 : w3.cell? ⟨B, 2, none⟩ = some (.slice b0' bn0 bc0') := kB3.cell 2
  have u3 : w3.cell? ⟨B, 3, none⟩ = some (.slice g0' gn0 gc0') := kB3.cell 3
  have u4 : w3.cell? ⟨B, 4, none⟩ = some (.string x1) := kB3.cell 4
  have u5 : w3.cell? ⟨B, 5, none⟩ = some (.int .i64 p1) := kB3.cell 5
  have u6 : w3.cell? ⟨B, 6, none⟩ = some (.slice b1' bn1 bc1') := kB3.cell 6
  have u7 : w3.cell? ⟨B, 7, none⟩ = some (.slice g1' gn1 gc1') := kB3.cell 7
  have u8 : w3.cell? ⟨B, 8, none⟩ = some (.bool true) := kB3.cell 8
  replace kB3 := Rg.hid kB3
  replace kR3 := Rg.hid kR3
  go_upto_region 3 with (go_at_call 45; refine (HT.out _).mono ?_; rintro e w4 ⟨rfl, b4⟩)
  have kB4 := kB3.out.below b4 kB3.out.lt
  have kR4 := kR3.out.below b4 kR3.out.lt
  have hb4 := Rg.hid (Rg.chain hb3.out b4)
  replace r_b0 := Rg.hid (r_b0.out.below b4)
  replace r_g0 := Rg.hid (r_g0.out.below b4)
  replace r_b1 := Rg.hid (r_b1.out.below b4)
  replace r_g1 := Rg.hid (r_g1.out.below b4)
  clear kB3 kR3 hb3 b4 HT u0 u1 u2 u3 u4 u5 u6 u7 u8
  obtain ⟨kE, oE⟩ := ret9 kR4 rfl (.string x0) (.int .i64 p0) (.slice b0' bn0 bc0') (.slice g0' gn0 gc0') (.string x1) (.int .i64 p1) (.slice b1' bn1 bc1') (.slice g1' gn1 gc1') (.bool true)
  have post := Rg.hid ((⟨_, _, _, _, _, _, _, _, rfl, ⟨r_b0.out.only kR4 line_int oE, q_b0, r_g0.out.only kR4 line_int oE, q_g0, r_b1.out.only kR4 line_int oE, q_b1, r_g1.out.only kR4 line_int oE, q_g1⟩, hb4.out.trans (oE.bel hRw)⟩ : RPost (x0) (p0) (bn0) (gn0) (x1) (p1) (bn1) (gn1) (true) (bad0) (gap0) (bad1) (gap1) (.int .i64 6) w (.returned (.tuple #[.agg #[.string x0, .int .i64 p0, .slice b0' bn0 bc0', .slice g0' gn0 gc0', .string x1, .int .i64 p1, .slice b1' bn1 bc1', .slice g1' gn1 gc1', .bool true], .int .i64 6])) _))
  replace kE := Rg.hid kE
  have d0' : w4.cell? ⟨B, 0, none⟩ = some (.string x0) := kB4.cell 0
  have d1' : w4.cell? ⟨B, 1, none⟩ = some (.int .i64 p0) := kB4.cell 1
  have d2' : w4.cell? ⟨B, 2, none⟩ = some (.slice b0' bn0 bc0') := kB4.cell 2
  have d3' : w4.cell? ⟨B, 3, none⟩ = some (.slice g0' gn0 gc0') := kB4.cell 3
  have d4' : w4.cell? ⟨B, 4, none⟩ = some (.string x1) := kB4.cell 4
  have d5' : w4.cell? ⟨B, 5, none⟩ = some (.int .i64 p1) := kB4.cell 5
  have d6' : w4.cell? ⟨B, 6, none⟩ = some (.slice b1' bn1 bc1') := kB4.cell 6
  have d7' : w4.cell? ⟨B, 7, none⟩ = some (.slice g1' gn1 gc1') := kB4.cell 7
  have d8' : w4.cell? ⟨B, 8, none⟩ = some (.bool true) := kB4.cell 8
  have r0 : w4.cell? ⟨R, 0, none⟩ = some (.string ⟨#[]⟩) := kR4.cell 0
  have r1 : w4.cell? ⟨R, 1, none⟩ = some (.int .i64 0) := kR4.cell 1
  have r2 : w4.cell? ⟨R, 2, none⟩ = some (.slice none 0 0) := kR4.cell 2
  have r3 : w4.cell? ⟨R, 3, none⟩ = some (.slice none 0 0) := kR4.cell 3
  have r4 : w4.cell? ⟨R, 4, none⟩ = some (.string ⟨#[]⟩) := kR4.cell 4
  have r5 : w4.cell? ⟨R, 5, none⟩ = some (.int .i64 0) := kR4.cell 5
  have r6 : w4.cell? ⟨R, 6, none⟩ = some (.slice none 0 0) := kR4.cell 6
  have r7 : w4.cell? ⟨R, 7, none⟩ = some (.slice none 0 0) := kR4.cell 7
  have r8 : w4.cell? ⟨R, 8, none⟩ = some (.bool false) := kR4.cell 8
  have rf := kR4.thaw
  clear oE kR4 kB4 hb4
  go_wp2
  replace kE := kE.out
  replace post := post.out
  generalize World.setCell _ _ _ = WE at *
  exact bodyPost_ret (v := .tuple #[.agg #[.string x0, .int .i64 p0, .slice b0' bn0 bc0', .slice g0' gn0 gc0', .string x1, .int .i64 p1, .slice b1' bn1 bc1', .slice g1' gn1 gc1', .bool true], .int .i64 6]) (by simp [results, Try.results27, go_sem, kE.cell]) rfl post

set_option maxHeartbeats 1000000 in
set_option maxRecDepth 100000 in
theorem radd_bad (x0 : ByteArray) (p0 : Int) (b0 : Option Addr) (bn0 bc0 : Nat) (g0 : Option Addr) (gn0 gc0 : Nat) (x1 : ByteArray) (p1 : Int) (b1 : Option Addr) (bn1 bc1 : Nat) (g1 : Option Addr) (gn1 gc1 : Nat) (up : Bool) (n : Int) (m c : Int) (bad0 gap0 bad1 gap1 : List Int) (h_bn0 : Hid (bn0 = bad0.length)) (h_gn0 : Hid (gn0 = gap0.length)) (h_bn1 : Hid (bn1 = bad1.length)) (h_gn1 : Hid (gn1 = gap1.length)) (l_bn0 : bn0 ≤ 1000000000) (l_gn0 : gn0 ≤ 1000000000) (l_bn1 : bn1 ≤ 1000000000) (l_gn1 : gn1 ≤ 1000000000) (w : World) (hR0 : IRow w b0 bad0 ∧ bn0 ≤ bc0 ∧ IRow w g0 gap0 ∧ gn0 ≤ gc0 ∧ IRow w b1 bad1 ∧ bn1 ≤ bc1 ∧ IRow w g1 gap1 ∧ gn1 ≤ gc1) (h0 : n ≠ 0) (h1 : n ≠ 1) :
    Calls Try.prog 29 #[.agg #[.string x0, .int .i64 p0, .slice b0 bn0 bc0, .slice g0 gn0 gc0, .string x1, .int .i64 p1, .slice b1 bn1 bc1, .slice g1 gn1 gc1, .bool up], .int .i64 n, .int .i64 m, .int .u8 c] w fun e w' => RPost (x0) (p0) (bn0) (gn0) (x1) (p1) (bn1) (gn1) (up) (bad0) (gap0) (bad1) (gap1) (.int .i64 6) w e w' := by
  have HWy : Hid (∀ W, Calls Try.prog 37 #[.int .i64 n] W fun e w' => e = .returned (.bool false) ∧ W = w') := fun W => by have := rway_any n W; rw [show decide (n = 0 ∨ n = 1) = false by simp [h0, h1]] at this; exact this.mono fun e w' h => ⟨h.1, h.2.symm⟩
  obtain ⟨s_b0, q_b0, s_g0, q_g0, s_b1, q_b1, s_g1, q_g1⟩ := hR0
  have HO : Hid (∀ W, Below w.heap.size w W → Calls Try.prog 44 #[.agg #[.string x0, .int .i64 p0, .slice b0 bn0 bc0, .slice g0 gn0 gc0, .string x1, .int .i64 p1, .slice b1 bn1 bc1, .slice g1 gn1 gc1, .bool up]] W fun e w' => OwnPost x0 p0 bn0 gn0 x1 p1 bn1 gn1 up bad0 gap0 bad1 gap1 W e w') := fun W hW => rown_cells x0 p0 b0 bn0 bc0 g0 gn0 gc0 x1 p1 b1 bn1 bc1 g1 gn1 gc1 up bad0 gap0 bad1 gap1 W h_bn0 h_gn0 h_bn1 h_gn1 l_bn0 l_gn0 l_bn1 l_gn1 ⟨s_b0.below hW, q_b0, s_g0.below hW, q_g0, s_b1.below hW, q_b1, s_g1.below hW, q_g1⟩
  clear s_b0 q_b0 s_g0 q_g0 s_b1 q_b1 s_g1 q_g1
  have kB1 : Rg.Bk w.heap.size [.string x0, .int .i64 p0, .slice b0 bn0 bc0, .slice g0 gn0 gc0, .string x1, .int .i64 p1, .slice b1 bn1 bc1, .slice g1 gn1 gc1, .bool up] 30 ((w.alloc (.cells #[.string x0, .int .i64 p0, .slice b0 bn0 bc0, .slice g0 gn0 gc0, .string x1, .int .i64 p1, .slice b1 bn1 bc1, .slice g1 gn1 gc1, .bool up] 30)).alloc (.cells #[.string ⟨#[]⟩, .int .i64 0, .slice none 0 0, .slice none 0 0, .string ⟨#[]⟩, .int .i64 0, .slice none 0 0, .slice none 0 0, .bool false] 30)) := (Rg.Bk.new rfl).old _
  have kR1 : Rg.Bk (w.heap.size + 1) [.string ⟨#[]⟩, .int .i64 0, .slice none 0 0, .slice none 0 0, .string ⟨#[]⟩, .int .i64 0, .slice none 0 0, .slice none 0 0, .bool false] 30 ((w.alloc (.cells #[.string x0, .int .i64 p0, .slice b0 bn0 bc0, .slice g0 gn0 gc0, .string x1, .int .i64 p1, .slice b1 bn1 bc1, .slice g1 gn1 gc1, .bool up] 30)).alloc (.cells #[.string ⟨#[]⟩, .int .i64 0, .slice none 0 0, .slice none 0 0, .string ⟨#[]⟩, .int .i64 0, .slice none 0 0, .slice none 0 0, .bool false] 30)) := Rg.Bk.new (by simp)
  have hb1 := Rg.al2 w (.cells #[.string x0, .int .i64 p0, .slice b0 bn0 bc0, .slice g0 gn0 gc0, .string x1, .int .i64 p1, .slice b1 bn1 bc1, .slice g1 gn1 gc1, .bool up] 30) (.cells #[.string ⟨#[]⟩, .int .i64 0, .slice none 0 0, .slice none 0 0, .string ⟨#[]⟩, .int .i64 0, .slice none 0 0, .slice none 0 0, .bool false] 30)
  go_enter Try.func29, Try.ntmps29
  go_upto_region 1 with fail
  generalize World.alloc _ _ = w1 at *
  obtain ⟨B, hB⟩ : ∃ B, B = w.heap.size := ⟨_, rfl⟩
  obtain ⟨R, hR⟩ : ∃ R, R = w.heap.size + 1 := ⟨_, rfl⟩
  rw [← hR] at kR1 ⊢
  rw [← hB] at kB1 ⊢
  have hBR : B ≠ R := by omega
  have hBw : w.heap.size ≤ B := by omega
  have hRw : w.heap.size ≤ R := by omega
  clear hB hR
  have z0 : w1.cell? ⟨B, 0, none⟩ = some (.string x0) := kB1.cell 0
  have z1 : w1.cell? ⟨B, 1, none⟩ = some (.int .i64 p0) := kB1.cell 1
  have z2 : w1.cell? ⟨B, 2, none⟩ = some (.slice b0 bn0 bc0) := kB1.cell 2
  have z3 : w1.cell? ⟨B, 3, none⟩ = some (.slice g0 gn0 gc0) := kB1.cell 3
  have z4 : w1.cell? ⟨B, 4, none⟩ = some (.string x1) := kB1.cell 4
  have z5 : w1.cell? ⟨B, 5, none⟩ = some (.int .i64 p1) := kB1.cell 5
  have z6 : w1.cell? ⟨B, 6, none⟩ = some (.slice b1 bn1 bc1) := kB1.cell 6
  have z7 : w1.cell? ⟨B, 7, none⟩ = some (.slice g1 gn1 gc1) := kB1.cell 7
  have z8 : w1.cell? ⟨B, 8, none⟩ = some (.bool up) := kB1.cell 8
  replace kB1 := Rg.hid kB1
  replace kR1 := Rg.hid kR1
  replace hb1 := Rg.hid hb1
  go_upto_region 2 with (go_at_call 44; refine (HO.out _ hb1.out).mono ?_; rintro e w2 ⟨b0', bc0', g0', gc0', b1', bc1', g1', gc1', rfl, ⟨r_b0, q_b0, r_g0, q_g0, r_b1, q_b1, r_g1, q_g1⟩, b2⟩; have kB2 := kB1.out.below b2 kB1.out.lt; have y0 := kB2.cell 0; have y1 := kB2.cell 1; have y2 := kB2.cell 2; have y3 := kB2.cell 3; have y4 := kB2.cell 4; have y5 := kB2.cell 5; have y6 := kB2.cell 6; have y7 := kB2.cell 7; have y8 := kB2.cell 8; simp only [List.getElem?_cons_zero, List.getElem?_cons_succ] at y0 y1 y2 y3 y4 y5 y6 y7 y8; have yf := kB2.thaw)
  obtain ⟨kB3, oB⟩ := ret9 kB2 rfl (.string x0) (.int .i64 p0) (.slice b0' bn0 bc0') (.slice g0' gn0 gc0') (.string x1) (.int .i64 p1) (.slice b1' bn1 bc1') (.slice g1' gn1 gc1') (.bool up)
  replace r_b0 := Rg.hid (r_b0.only kB2 line_int oB)
  replace r_g0 := Rg.hid (r_g0.only kB2 line_int oB)
  replace r_b1 := Rg.hid (r_b1.only kB2 line_int oB)
  replace r_g1 := Rg.hid (r_g1.only kB2 line_int oB)
  have kR3 := (kR1.out.below b2 kR1.out.lt).same (oB.block _ (Ne.symm hBR))
  have hb3 := Rg.hid ((Rg.chain hb1.out b2).trans (oB.bel hBw))
  clear kB1 kR1 hb1 kB2 oB b2 yf y0 y1 y2 y3 y4 y5 y6 y7 y8 z0 z1 z2 z3 z4 z5 z6 z7 z8 HO
  generalize World.setCell _ _ _ = w3 at *
  replace kB3 := Rg.hid kB3
  replace kR3 := Rg.hid kR3
  go_upto_region 3 with (go_at_call 37; refine (HWy.out _).mono ?_; rintro e w9 ⟨rfl, rfl⟩)
  clear HWy 
  replace kB3 := kB3.out
  replace kR3 := kR3.out
  obtain ⟨kE, oE⟩ := ret9 kR3 rfl (.string x0) (.int .i64 p0) (.slice b0' bn0 bc0') (.slice g0' gn0 gc0') (.string x1) (.int .i64 p1) (.slice b1' bn1 bc1') (.slice g1' gn1 gc1') (.bool up)
  have post := Rg.hid ((⟨_, _, _, _, _, _, _, _, rfl, ⟨r_b0.out.only kR3 line_int oE, q_b0, r_g0.out.only kR3 line_int oE, q_g0, r_b1.out.only kR3 line_int oE, q_b1, r_g1.out.only kR3 line_int oE, q_g1⟩, hb3.out.trans (oE.bel hRw)⟩ : RPost (x0) (p0) (bn0) (gn0) (x1) (p1) (bn1) (gn1) (up) (bad0) (gap0) (bad1) (gap1) (.int .i64 6) w (.returned (.tuple #[.agg #[.string x0, .int .i64 p0, .slice b0' bn0 bc0', .slice g0' gn0 gc0', .string x1, .int .i64 p1, .slice b1' bn1 bc1', .slice g1' gn1 gc1', .bool up], .int .i64 6])) _))
  replace kE := Rg.hid kE
  have d0' : w3.cell? ⟨B, 0, none⟩ = some (.string x0) := kB3.cell 0
  have d1' : w3.cell? ⟨B, 1, none⟩ = some (.int .i64 p0) := kB3.cell 1
  have d2' : w3.cell? ⟨B, 2, none⟩ = some (.slice b0' bn0 bc0') := kB3.cell 2
  have d3' : w3.cell? ⟨B, 3, none⟩ = some (.slice g0' gn0 gc0') := kB3.cell 3
  have d4' : w3.cell? ⟨B, 4, none⟩ = some (.string x1) := kB3.cell 4
  have d5' : w3.cell? ⟨B, 5, none⟩ = some (.int .i64 p1) := kB3.cell 5
  have d6' : w3.cell? ⟨B, 6, none⟩ = some (.slice b1' bn1 bc1') := kB3.cell 6
  have d7' : w3.cell? ⟨B, 7, none⟩ = some (.slice g1' gn1 gc1') := kB3.cell 7
  have d8' : w3.cell? ⟨B, 8, none⟩ = some (.bool up) := kB3.cell 8
  have r0 : w3.cell? ⟨R, 0, none⟩ = some (.string ⟨#[]⟩) := kR3.cell 0
  have r1 : w3.cell? ⟨R, 1, none⟩ = some (.int .i64 0) := kR3.cell 1
  have r2 : w3.cell? ⟨R, 2, none⟩ = some (.slice none 0 0) := kR3.cell 2
  have r3 : w3.cell? ⟨R, 3, none⟩ = some (.slice none 0 0) := kR3.cell 3
  have r4 : w3.cell? ⟨R, 4, none⟩ = some (.string ⟨#[]⟩) := kR3.cell 4
  have r5 : w3.cell? ⟨R, 5, none⟩ = some (.int .i64 0) := kR3.cell 5
  have r6 : w3.cell? ⟨R, 6, none⟩ = some (.slice none 0 0) := kR3.cell 6
  have r7 : w3.cell? ⟨R, 7, none⟩ = some (.slice none 0 0) := kR3.cell 7
  have r8 : w3.cell? ⟨R, 8, none⟩ = some (.bool false) := kR3.cell 8
  have rf := kR3.thaw
  clear oE kR3 kB3 hb3
  go_wp2
  replace kE := kE.out
  replace post := post.out
  generalize World.setCell _ _ _ = WE at *
  exact bodyPost_ret (v := .tuple #[.agg #[.string x0, .int .i64 p0, .slice b0' bn0 bc0', .slice g0' gn0 gc0', .string x1, .int .i64 p1, .slice b1' bn1 bc1', .slice g1' gn1 gc1', .bool up], .int .i64 6]) (by simp [results, Try.results29, go_sem, kE.cell]) rfl post

set_option maxHeartbeats 1000000 in
set_option maxRecDepth 100000 in
theorem radd_down0 (x0 : ByteArray) (p0 : Int) (b0 : Option Addr) (bn0 bc0 : Nat) (g0 : Option Addr) (gn0 gc0 : Nat) (x1 : ByteArray) (p1 : Int) (b1 : Option Addr) (bn1 bc1 : Nat) (g1 : Option Addr) (gn1 gc1 : Nat) (m c : Int) (bad0 gap0 bad1 gap1 : List Int) (h_bn0 : Hid (bn0 = bad0.length)) (h_gn0 : Hid (gn0 = gap0.length)) (h_bn1 : Hid (bn1 = bad1.length)) (h_gn1 : Hid (gn1 = gap1.length)) (l_bn0 : bn0 ≤ 1000000000) (l_gn0 : gn0 ≤ 1000000000) (l_bn1 : bn1 ≤ 1000000000) (l_gn1 : gn1 ≤ 1000000000) (w : World) (hR0 : IRow w b0 bad0 ∧ bn0 ≤ bc0 ∧ IRow w g0 gap0 ∧ gn0 ≤ gc0 ∧ IRow w b1 bad1 ∧ bn1 ≤ bc1 ∧ IRow w g1 gap1 ∧ gn1 ≤ gc1) :
    Calls Try.prog 29 #[.agg #[.string x0, .int .i64 p0, .slice b0 bn0 bc0, .slice g0 gn0 gc0, .string x1, .int .i64 p1, .slice b1 bn1 bc1, .slice g1 gn1 gc1, .bool false], .int .i64 0, .int .i64 m, .int .u8 c] w fun e w' => RPost (x0) (p0) (bn0) (gn0) (x1) (p1) (bn1) (gn1) (false) (bad0) (gap0) (bad1) (gap1) (.int .i64 6) w e w' := by
  have HWy : Hid (∀ W, Calls Try.prog 37 #[.int .i64 0] W fun e w' => e = .returned (.bool true) ∧ W = w') := fun W => (rway_any 0 W).mono fun e w' h => ⟨h.1, h.2.symm⟩
  obtain ⟨s_b0, q_b0, s_g0, q_g0, s_b1, q_b1, s_g1, q_g1⟩ := hR0
  have HO : Hid (∀ W, Below w.heap.size w W → Calls Try.prog 44 #[.agg #[.string x0, .int .i64 p0, .slice b0 bn0 bc0, .slice g0 gn0 gc0, .string x1, .int .i64 p1, .slice b1 bn1 bc1, .slice g1 gn1 gc1, .bool false]] W fun e w' => OwnPost x0 p0 bn0 gn0 x1 p1 bn1 gn1 false bad0 gap0 bad1 gap1 W e w') := fun W hW => rown_cells x0 p0 b0 bn0 bc0 g0 gn0 gc0 x1 p1 b1 bn1 bc1 g1 gn1 gc1 false bad0 gap0 bad1 gap1 W h_bn0 h_gn0 h_bn1 h_gn1 l_bn0 l_gn0 l_bn1 l_gn1 ⟨s_b0.below hW, q_b0, s_g0.below hW, q_g0, s_b1.below hW, q_b1, s_g1.below hW, q_g1⟩
  clear s_b0 q_b0 s_g0 q_g0 s_b1 q_b1 s_g1 q_g1
  have kB1 : Rg.Bk w.heap.size [.string x0, .int .i64 p0, .slice b0 bn0 bc0, .slice g0 gn0 gc0, .string x1, .int .i64 p1, .slice b1 bn1 bc1, .slice g1 gn1 gc1, .bool false] 30 ((w.alloc (.cells #[.string x0, .int .i64 p0, .slice b0 bn0 bc0, .slice g0 gn0 gc0, .string x1, .int .i64 p1, .slice b1 bn1 bc1, .slice g1 gn1 gc1, .bool false] 30)).alloc (.cells #[.string ⟨#[]⟩, .int .i64 0, .slice none 0 0, .slice none 0 0, .string ⟨#[]⟩, .int .i64 0, .slice none 0 0, .slice none 0 0, .bool false] 30)) := (Rg.Bk.new rfl).old _
  have kR1 : Rg.Bk (w.heap.size + 1) [.string ⟨#[]⟩, .int .i64 0, .slice none 0 0, .slice none 0 0, .string ⟨#[]⟩, .int .i64 0, .slice none 0 0, .slice none 0 0, .bool false] 30 ((w.alloc (.cells #[.string x0, .int .i64 p0, .slice b0 bn0 bc0, .slice g0 gn0 gc0, .string x1, .int .i64 p1, .slice b1 bn1 bc1, .slice g1 gn1 gc1, .bool false] 30)).alloc (.cells #[.string ⟨#[]⟩, .int .i64 0, .slice none 0 0, .slice none 0 0, .string ⟨#[]⟩, .int .i64 0, .slice none 0 0, .slice none 0 0, .bool false] 30)) := Rg.Bk.new (by simp)
  have hb1 := Rg.al2 w (.cells #[.string x0, .int .i64 p0, .slice b0 bn0 bc0, .slice g0 gn0 gc0, .string x1, .int .i64 p1, .slice b1 bn1 bc1, .slice g1 gn1 gc1, .bool false] 30) (.cells #[.string ⟨#[]⟩, .int .i64 0, .slice none 0 0, .slice none 0 0, .string ⟨#[]⟩, .int .i64 0, .slice none 0 0, .slice none 0 0, .bool false] 30)
  go_enter Try.func29, Try.ntmps29
  go_upto_region 1 with fail
  generalize World.alloc _ _ = w1 at *
  obtain ⟨B, hB⟩ : ∃ B, B = w.heap.size := ⟨_, rfl⟩
  obtain ⟨R, hR⟩ : ∃ R, R = w.heap.size + 1 := ⟨_, rfl⟩
  rw [← hR] at kR1 ⊢
  rw [← hB] at kB1 ⊢
  have hBR : B ≠ R := by omega
  have hBw : w.heap.size ≤ B := by omega
  have hRw : w.heap.size ≤ R := by omega
  clear hB hR
  have z0 : w1.cell? ⟨B, 0, none⟩ = some (.string x0) := kB1.cell 0
  have z1 : w1.cell? ⟨B, 1, none⟩ = some (.int .i64 p0) := kB1.cell 1
  have z2 : w1.cell? ⟨B, 2, none⟩ = some (.slice b0 bn0 bc0) := kB1.cell 2
  have z3 : w1.cell? ⟨B, 3, none⟩ = some (.slice g0 gn0 gc0) := kB1.cell 3
  have z4 : w1.cell? ⟨B, 4, none⟩ = some (.string x1) := kB1.cell 4
  have z5 : w1.cell? ⟨B, 5, none⟩ = some (.int .i64 p1) := kB1.cell 5
  have z6 : w1.cell? ⟨B, 6, none⟩ = some (.slice b1 bn1 bc1) := kB1.cell 6
  have z7 : w1.cell? ⟨B, 7, none⟩ = some (.slice g1 gn1 gc1) := kB1.cell 7
  have z8 : w1.cell? ⟨B, 8, none⟩ = some (.bool false) := kB1.cell 8
  replace kB1 := Rg.hid kB1
  replace kR1 := Rg.hid kR1
  replace hb1 := Rg.hid hb1
  go_upto_region 2 with (go_at_call 44; refine (HO.out _ hb1.out).mono ?_; rintro e w2 ⟨b0', bc0', g0', gc0', b1', bc1', g1', gc1', rfl, ⟨r_b0, q_b0, r_g0, q_g0, r_b1, q_b1, r_g1, q_g1⟩, b2⟩; have kB2 := kB1.out.below b2 kB1.out.lt; have y0 := kB2.cell 0; have y1 := kB2.cell 1; have y2 := kB2.cell 2; have y3 := kB2.cell 3; have y4 := kB2.cell 4; have y5 := kB2.cell 5; have y6 := kB2.cell 6; have y7 := kB2.cell 7; have y8 := kB2.cell 8; simp only [List.getElem?_cons_zero, List.getElem?_cons_succ] at y0 y1 y2 y3 y4 y5 y6 y7 y8; have yf := kB2.thaw)
  obtain ⟨kB3, oB⟩ := ret9 kB2 rfl (.string x0) (.int .i64 p0) (.slice b0' bn0 bc0') (.slice g0' gn0 gc0') (.string x1) (.int .i64 p1) (.slice b1' bn1 bc1') (.slice g1' gn1 gc1') (.bool false)
  replace r_b0 := Rg.hid (r_b0.only kB2 line_int oB)
  replace r_g0 := Rg.hid (r_g0.only kB2 line_int oB)
  replace r_b1 := Rg.hid (r_b1.only kB2 line_int oB)
  replace r_g1 := Rg.hid (r_g1.only kB2 line_int oB)
  have kR3 := (kR1.out.below b2 kR1.out.lt).same (oB.block _ (Ne.symm hBR))
  have hb3 := Rg.hid ((Rg.chain hb1.out b2).trans (oB.bel hBw))
  clear kB1 kR1 hb1 kB2 oB b2 yf y0 y1 y2 y3 y4 y5 y6 y7 y8 z0 z1 z2 z3 z4 z5 z6 z7 z8 HO
  generalize World.setCell _ _ _ = w3 at *
  have u8 : w3.cell? ⟨B, 8, none⟩ = some (.bool false) := kB3.cell 8
  replace kB3 := Rg.hid kB3
  replace kR3 := Rg.hid kR3
  go_upto_region 3 with (go_at_call 37; refine (HWy.out _).mono ?_; rintro e w9 ⟨rfl, rfl⟩)
  clear HWy u8
  replace kB3 := kB3.out
  replace kR3 := kR3.out
  obtain ⟨kE, oE⟩ := ret9 kR3 rfl (.string x0) (.int .i64 p0) (.slice b0' bn0 bc0') (.slice g0' gn0 gc0') (.string x1) (.int .i64 p1) (.slice b1' bn1 bc1') (.slice g1' gn1 gc1') (.bool false)
  have post := Rg.hid ((⟨_, _, _, _, _, _, _, _, rfl, ⟨r_b0.out.only kR3 line_int oE, q_b0, r_g0.out.only kR3 line_int oE, q_g0, r_b1.out.only kR3 line_int oE, q_b1, r_g1.out.only kR3 line_int oE, q_g1⟩, hb3.out.trans (oE.bel hRw)⟩ : RPost (x0) (p0) (bn0) (gn0) (x1) (p1) (bn1) (gn1) (false) (bad0) (gap0) (bad1) (gap1) (.int .i64 6) w (.returned (.tuple #[.agg #[.string x0, .int .i64 p0, .slice b0' bn0 bc0', .slice g0' gn0 gc0', .string x1, .int .i64 p1, .slice b1' bn1 bc1', .slice g1' gn1 gc1', .bool false], .int .i64 6])) _))
  replace kE := Rg.hid kE
  have d0' : w3.cell? ⟨B, 0, none⟩ = some (.string x0) := kB3.cell 0
  have d1' : w3.cell? ⟨B, 1, none⟩ = some (.int .i64 p0) := kB3.cell 1
  have d2' : w3.cell? ⟨B, 2, none⟩ = some (.slice b0' bn0 bc0') := kB3.cell 2
  have d3' : w3.cell? ⟨B, 3, none⟩ = some (.slice g0' gn0 gc0') := kB3.cell 3
  have d4' : w3.cell? ⟨B, 4, none⟩ = some (.string x1) := kB3.cell 4
  have d5' : w3.cell? ⟨B, 5, none⟩ = some (.int .i64 p1) := kB3.cell 5
  have d6' : w3.cell? ⟨B, 6, none⟩ = some (.slice b1' bn1 bc1') := kB3.cell 6
  have d7' : w3.cell? ⟨B, 7, none⟩ = some (.slice g1' gn1 gc1') := kB3.cell 7
  have d8' : w3.cell? ⟨B, 8, none⟩ = some (.bool false) := kB3.cell 8
  have r0 : w3.cell? ⟨R, 0, none⟩ = some (.string ⟨#[]⟩) := kR3.cell 0
  have r1 : w3.cell? ⟨R, 1, none⟩ = some (.int .i64 0) := kR3.cell 1
  have r2 : w3.cell? ⟨R, 2, none⟩ = some (.slice none 0 0) := kR3.cell 2
  have r3 : w3.cell? ⟨R, 3, none⟩ = some (.slice none 0 0) := kR3.cell 3
  have r4 : w3.cell? ⟨R, 4, none⟩ = some (.string ⟨#[]⟩) := kR3.cell 4
  have r5 : w3.cell? ⟨R, 5, none⟩ = some (.int .i64 0) := kR3.cell 5
  have r6 : w3.cell? ⟨R, 6, none⟩ = some (.slice none 0 0) := kR3.cell 6
  have r7 : w3.cell? ⟨R, 7, none⟩ = some (.slice none 0 0) := kR3.cell 7
  have r8 : w3.cell? ⟨R, 8, none⟩ = some (.bool false) := kR3.cell 8
  have rf := kR3.thaw
  clear oE kR3 kB3 hb3
  go_wp2
  replace kE := kE.out
  replace post := post.out
  generalize World.setCell _ _ _ = WE at *
  exact bodyPost_ret (v := .tuple #[.agg #[.string x0, .int .i64 p0, .slice b0' bn0 bc0', .slice g0' gn0 gc0', .string x1, .int .i64 p1, .slice b1' bn1 bc1', .slice g1' gn1 gc1', .bool false], .int .i64 6]) (by simp [results, Try.results29, go_sem, kE.cell]) rfl post

set_option maxHeartbeats 1000000 in
set_option maxRecDepth 100000 in
theorem radd_low0 (x0 : ByteArray) (p0 : Int) (b0 : Option Addr) (bn0 bc0 : Nat) (g0 : Option Addr) (gn0 gc0 : Nat) (x1 : ByteArray) (p1 : Int) (b1 : Option Addr) (bn1 bc1 : Nat) (g1 : Option Addr) (gn1 gc1 : Nat) (m c : Int) (bad0 gap0 bad1 gap1 : List Int) (h_bn0 : Hid (bn0 = bad0.length)) (h_gn0 : Hid (gn0 = gap0.length)) (h_bn1 : Hid (bn1 = bad1.length)) (h_gn1 : Hid (gn1 = gap1.length)) (l_bn0 : bn0 ≤ 1000000000) (l_gn0 : gn0 ≤ 1000000000) (l_bn1 : bn1 ≤ 1000000000) (l_gn1 : gn1 ≤ 1000000000) (w : World) (hR0 : IRow w b0 bad0 ∧ bn0 ≤ bc0 ∧ IRow w g0 gap0 ∧ gn0 ≤ gc0 ∧ IRow w b1 bad1 ∧ bn1 ≤ bc1 ∧ IRow w g1 gap1 ∧ gn1 ≤ gc1) (hat : m < 0) :
    Calls Try.prog 29 #[.agg #[.string x0, .int .i64 p0, .slice b0 bn0 bc0, .slice g0 gn0 gc0, .string x1, .int .i64 p1, .slice b1 bn1 bc1, .slice g1 gn1 gc1, .bool true], .int .i64 0, .int .i64 m, .int .u8 c] w fun e w' => RPost (x0) (p0) (bn0) (gn0) (x1) (p1) (bn1) (gn1) (true) (bad0) (gap0) (bad1) (gap1) (.int .i64 6) w e w' := by
  have HWy : Hid (∀ W, Calls Try.prog 37 #[.int .i64 0] W fun e w' => e = .returned (.bool true) ∧ W = w') := fun W => (rway_any 0 W).mono fun e w' h => ⟨h.1, h.2.symm⟩
  have d0 : decide (m < 0) = true := by simp only [decide_eq_true_eq]; exact hat
  obtain ⟨s_b0, q_b0, s_g0, q_g0, s_b1, q_b1, s_g1, q_g1⟩ := hR0
  have HO : Hid (∀ W, Below w.heap.size w W → Calls Try.prog 44 #[.agg #[.string x0, .int .i64 p0, .slice b0 bn0 bc0, .slice g0 gn0 gc0, .string x1, .int .i64 p1, .slice b1 bn1 bc1, .slice g1 gn1 gc1, .bool true]] W fun e w' => OwnPost x0 p0 bn0 gn0 x1 p1 bn1 gn1 true bad0 gap0 bad1 gap1 W e w') := fun W hW => rown_cells x0 p0 b0 bn0 bc0 g0 gn0 gc0 x1 p1 b1 bn1 bc1 g1 gn1 gc1 true bad0 gap0 bad1 gap1 W h_bn0 h_gn0 h_bn1 h_gn1 l_bn0 l_gn0 l_bn1 l_gn1 ⟨s_b0.below hW, q_b0, s_g0.below hW, q_g0, s_b1.below hW, q_b1, s_g1.below hW, q_g1⟩
  clear s_b0 q_b0 s_g0 q_g0 s_b1 q_b1 s_g1 q_g1
  have kB1 : Rg.Bk w.heap.size [.string x0, .int .i64 p0, .slice b0 bn0 bc0, .slice g0 gn0 gc0, .string x1, .int .i64 p1, .slice b1 bn1 bc1, .slice g1 gn1 gc1, .bool true] 30 ((w.alloc (.cells #[.string x0, .int .i64 p0, .slice b0 bn0 bc0, .slice g0 gn0 gc0, .string x1, .int .i64 p1, .slice b1 bn1 bc1, .slice g1 gn1 gc1, .bool true] 30)).alloc (.cells #[.string ⟨#[]⟩, .int .i64 0, .slice none 0 0, .slice none 0 0, .string ⟨#[]⟩, .int .i64 0, .slice none 0 0, .slice none 0 0, .bool false] 30)) := (Rg.Bk.new rfl).old _
  have kR1 : Rg.Bk (w.heap.size + 1) [.string ⟨#[]⟩, .int .i64 0, .slice none 0 0, .slice none 0 0, .string ⟨#[]⟩, .int .i64 0, .slice none 0 0, .slice none 0 0, .bool false] 30 ((w.alloc (.cells #[.string x0, .int .i64 p0, .slice b0 bn0 bc0, .slice g0 gn0 gc0, .string x1, .int .i64 p1, .slice b1 bn1 bc1, .slice g1 gn1 gc1, .bool true] 30)).alloc (.cells #[.string ⟨#[]⟩, .int .i64 0, .slice none 0 0, .slice none 0 0, .string ⟨#[]⟩, .int .i64 0, .slice none 0 0, .slice none 0 0, .bool false] 30)) := Rg.Bk.new (by simp)
  have hb1 := Rg.al2 w (.cells #[.string x0, .int .i64 p0, .slice b0 bn0 bc0, .slice g0 gn0 gc0, .string x1, .int .i64 p1, .slice b1 bn1 bc1, .slice g1 gn1 gc1, .bool true] 30) (.cells #[.string ⟨#[]⟩, .int .i64 0, .slice none 0 0, .slice none 0 0, .string ⟨#[]⟩, .int .i64 0, .slice none 0 0, .slice none 0 0, .bool false] 30)
  go_enter Try.func29, Try.ntmps29
  go_upto_region 1 with fail
  generalize World.alloc _ _ = w1 at *
  obtain ⟨B, hB⟩ : ∃ B, B = w.heap.size := ⟨_, rfl⟩
  obtain ⟨R, hR⟩ : ∃ R, R = w.heap.size + 1 := ⟨_, rfl⟩
  rw [← hR] at kR1 ⊢
  rw [← hB] at kB1 ⊢
  have hBR : B ≠ R := by omega
  have hBw : w.heap.size ≤ B := by omega
  have hRw : w.heap.size ≤ R := by omega
  clear hB hR
  have z0 : w1.cell? ⟨B, 0, none⟩ = some (.string x0) := kB1.cell 0
  have z1 : w1.cell? ⟨B, 1, none⟩ = some (.int .i64 p0) := kB1.cell 1
  have z2 : w1.cell? ⟨B, 2, none⟩ = some (.slice b0 bn0 bc0) := kB1.cell 2
  have z3 : w1.cell? ⟨B, 3, none⟩ = some (.slice g0 gn0 gc0) := kB1.cell 3
  have z4 : w1.cell? ⟨B, 4, none⟩ = some (.string x1) := kB1.cell 4
  have z5 : w1.cell? ⟨B, 5, none⟩ = some (.int .i64 p1) := kB1.cell 5
  have z6 : w1.cell? ⟨B, 6, none⟩ = some (.slice b1 bn1 bc1) := kB1.cell 6
  have z7 : w1.cell? ⟨B, 7, none⟩ = some (.slice g1 gn1 gc1) := kB1.cell 7
  have z8 : w1.cell? ⟨B, 8, none⟩ = some (.bool true) := kB1.cell 8
  replace kB1 := Rg.hid kB1
  replace kR1 := Rg.hid kR1
  replace hb1 := Rg.hid hb1
  go_upto_region 2 with (go_at_call 44; refine (HO.out _ hb1.out).mono ?_; rintro e w2 ⟨b0', bc0', g0', gc0', b1', bc1', g1', gc1', rfl, ⟨r_b0, q_b0, r_g0, q_g0, r_b1, q_b1, r_g1, q_g1⟩, b2⟩; have kB2 := kB1.out.below b2 kB1.out.lt; have y0 := kB2.cell 0; have y1 := kB2.cell 1; have y2 := kB2.cell 2; have y3 := kB2.cell 3; have y4 := kB2.cell 4; have y5 := kB2.cell 5; have y6 := kB2.cell 6; have y7 := kB2.cell 7; have y8 := kB2.cell 8; simp only [List.getElem?_cons_zero, List.getElem?_cons_succ] at y0 y1 y2 y3 y4 y5 y6 y7 y8; have yf := kB2.thaw)
  obtain ⟨kB3, oB⟩ := ret9 kB2 rfl (.string x0) (.int .i64 p0) (.slice b0' bn0 bc0') (.slice g0' gn0 gc0') (.string x1) (.int .i64 p1) (.slice b1' bn1 bc1') (.slice g1' gn1 gc1') (.bool true)
  replace r_b0 := Rg.hid (r_b0.only kB2 line_int oB)
  replace r_g0 := Rg.hid (r_g0.only kB2 line_int oB)
  replace r_b1 := Rg.hid (r_b1.only kB2 line_int oB)
  replace r_g1 := Rg.hid (r_g1.only kB2 line_int oB)
  have kR3 := (kR1.out.below b2 kR1.out.lt).same (oB.block _ (Ne.symm hBR))
  have hb3 := Rg.hid ((Rg.chain hb1.out b2).trans (oB.bel hBw))
  clear kB1 kR1 hb1 kB2 oB b2 yf y0 y1 y2 y3 y4 y5 y6 y7 y8 z0 z1 z2 z3 z4 z5 z6 z7 z8 HO
  generalize World.setCell _ _ _ = w3 at *
  have u8 : w3.cell? ⟨B, 8, none⟩ = some (.bool true) := kB3.cell 8
  replace kB3 := Rg.hid kB3
  replace kR3 := Rg.hid kR3
  go_upto_region 3 with (go_at_call 37; refine (HWy.out _).mono ?_; rintro e w9 ⟨rfl, rfl⟩)
  clear HWy u8
  replace kB3 := kB3.out
  replace kR3 := kR3.out
  obtain ⟨kE, oE⟩ := ret9 kR3 rfl (.string x0) (.int .i64 p0) (.slice b0' bn0 bc0') (.slice g0' gn0 gc0') (.string x1) (.int .i64 p1) (.slice b1' bn1 bc1') (.slice g1' gn1 gc1') (.bool true)
  have post := Rg.hid ((⟨_, _, _, _, _, _, _, _, rfl, ⟨r_b0.out.only kR3 line_int oE, q_b0, r_g0.out.only kR3 line_int oE, q_g0, r_b1.out.only kR3 line_int oE, q_b1, r_g1.out.only kR3 line_int oE, q_g1⟩, hb3.out.trans (oE.bel hRw)⟩ : RPost (x0) (p0) (bn0) (gn0) (x1) (p1) (bn1) (gn1) (true) (bad0) (gap0) (bad1) (gap1) (.int .i64 6) w (.returned (.tuple #[.agg #[.string x0, .int .i64 p0, .slice b0' bn0 bc0', .slice g0' gn0 gc0', .string x1, .int .i64 p1, .slice b1' bn1 bc1', .slice g1' gn1 gc1', .bool true], .int .i64 6])) _))
  replace kE := Rg.hid kE
  have d0' : w3.cell? ⟨B, 0, none⟩ = some (.string x0) := kB3.cell 0
  have d1' : w3.cell? ⟨B, 1, none⟩ = some (.int .i64 p0) := kB3.cell 1
  have d2' : w3.cell? ⟨B, 2, none⟩ = some (.slice b0' bn0 bc0') := kB3.cell 2
  have d3' : w3.cell? ⟨B, 3, none⟩ = some (.slice g0' gn0 gc0') := kB3.cell 3
  have d4' : w3.cell? ⟨B, 4, none⟩ = some (.string x1) := kB3.cell 4
  have d5' : w3.cell? ⟨B, 5, none⟩ = some (.int .i64 p1) := kB3.cell 5
  have d6' : w3.cell? ⟨B, 6, none⟩ = some (.slice b1' bn1 bc1') := kB3.cell 6
  have d7' : w3.cell? ⟨B, 7, none⟩ = some (.slice g1' gn1 gc1') := kB3.cell 7
  have d8' : w3.cell? ⟨B, 8, none⟩ = some (.bool true) := kB3.cell 8
  have r0 : w3.cell? ⟨R, 0, none⟩ = some (.string ⟨#[]⟩) := kR3.cell 0
  have r1 : w3.cell? ⟨R, 1, none⟩ = some (.int .i64 0) := kR3.cell 1
  have r2 : w3.cell? ⟨R, 2, none⟩ = some (.slice none 0 0) := kR3.cell 2
  have r3 : w3.cell? ⟨R, 3, none⟩ = some (.slice none 0 0) := kR3.cell 3
  have r4 : w3.cell? ⟨R, 4, none⟩ = some (.string ⟨#[]⟩) := kR3.cell 4
  have r5 : w3.cell? ⟨R, 5, none⟩ = some (.int .i64 0) := kR3.cell 5
  have r6 : w3.cell? ⟨R, 6, none⟩ = some (.slice none 0 0) := kR3.cell 6
  have r7 : w3.cell? ⟨R, 7, none⟩ = some (.slice none 0 0) := kR3.cell 7
  have r8 : w3.cell? ⟨R, 8, none⟩ = some (.bool false) := kR3.cell 8
  have rf := kR3.thaw
  clear oE kR3 kB3 hb3
  go_wp2
  replace kE := kE.out
  replace post := post.out
  generalize World.setCell _ _ _ = WE at *
  exact bodyPost_ret (v := .tuple #[.agg #[.string x0, .int .i64 p0, .slice b0' bn0 bc0', .slice g0' gn0 gc0', .string x1, .int .i64 p1, .slice b1' bn1 bc1', .slice g1' gn1 gc1', .bool true], .int .i64 6]) (by simp [results, Try.results29, go_sem, kE.cell]) rfl post

set_option maxHeartbeats 1000000 in
set_option maxRecDepth 100000 in
theorem radd_high0 (x0 : ByteArray) (p0 : Int) (b0 : Option Addr) (bn0 bc0 : Nat) (g0 : Option Addr) (gn0 gc0 : Nat) (x1 : ByteArray) (p1 : Int) (b1 : Option Addr) (bn1 bc1 : Nat) (g1 : Option Addr) (gn1 gc1 : Nat) (m c : Int) (bad0 gap0 bad1 gap1 : List Int) (h_bn0 : Hid (bn0 = bad0.length)) (h_gn0 : Hid (gn0 = gap0.length)) (h_bn1 : Hid (bn1 = bad1.length)) (h_gn1 : Hid (gn1 = gap1.length)) (l_bn0 : bn0 ≤ 1000000000) (l_gn0 : gn0 ≤ 1000000000) (l_bn1 : bn1 ≤ 1000000000) (l_gn1 : gn1 ≤ 1000000000) (w : World) (hR0 : IRow w b0 bad0 ∧ bn0 ≤ bc0 ∧ IRow w g0 gap0 ∧ gn0 ≤ gc0 ∧ IRow w b1 bad1 ∧ bn1 ≤ bc1 ∧ IRow w g1 gap1 ∧ gn1 ≤ gc1) (hat : 0 ≤ m) (hae : (x0.size : Int) < m) :
    Calls Try.prog 29 #[.agg #[.string x0, .int .i64 p0, .slice b0 bn0 bc0, .slice g0 gn0 gc0, .string x1, .int .i64 p1, .slice b1 bn1 bc1, .slice g1 gn1 gc1, .bool true], .int .i64 0, .int .i64 m, .int .u8 c] w fun e w' => RPost (x0) (p0) (bn0) (gn0) (x1) (p1) (bn1) (gn1) (true) (bad0) (gap0) (bad1) (gap1) (.int .i64 6) w e w' := by
  have HWy : Hid (∀ W, Calls Try.prog 37 #[.int .i64 0] W fun e w' => e = .returned (.bool true) ∧ W = w') := fun W => (rway_any 0 W).mono fun e w' h => ⟨h.1, h.2.symm⟩
  have d0 : decide (m < 0) = false := by simp only [decide_eq_false_iff_not]; omega
  have d1 : decide ((x0.size : Int) < m) = true := by simp only [decide_eq_true_eq]; exact hae
  obtain ⟨s_b0, q_b0, s_g0, q_g0, s_b1, q_b1, s_g1, q_g1⟩ := hR0
  have HO : Hid (∀ W, Below w.heap.size w W → Calls Try.prog 44 #[.agg #[.string x0, .int .i64 p0, .slice b0 bn0 bc0, .slice g0 gn0 gc0, .string x1, .int .i64 p1, .slice b1 bn1 bc1, .slice g1 gn1 gc1, .bool true]] W fun e w' => OwnPost x0 p0 bn0 gn0 x1 p1 bn1 gn1 true bad0 gap0 bad1 gap1 W e w') := fun W hW => rown_cells x0 p0 b0 bn0 bc0 g0 gn0 gc0 x1 p1 b1 bn1 bc1 g1 gn1 gc1 true bad0 gap0 bad1 gap1 W h_bn0 h_gn0 h_bn1 h_gn1 l_bn0 l_gn0 l_bn1 l_gn1 ⟨s_b0.below hW, q_b0, s_g0.below hW, q_g0, s_b1.below hW, q_b1, s_g1.below hW, q_g1⟩
  clear s_b0 q_b0 s_g0 q_g0 s_b1 q_b1 s_g1 q_g1
  have kB1 : Rg.Bk w.heap.size [.string x0, .int .i64 p0, .slice b0 bn0 bc0, .slice g0 gn0 gc0, .string x1, .int .i64 p1, .slice b1 bn1 bc1, .slice g1 gn1 gc1, .bool true] 30 ((w.alloc (.cells #[.string x0, .int .i64 p0, .slice b0 bn0 bc0, .slice g0 gn0 gc0, .string x1, .int .i64 p1, .slice b1 bn1 bc1, .slice g1 gn1 gc1, .bool true] 30)).alloc (.cells #[.string ⟨#[]⟩, .int .i64 0, .slice none 0 0, .slice none 0 0, .string ⟨#[]⟩, .int .i64 0, .slice none 0 0, .slice none 0 0, .bool false] 30)) := (Rg.Bk.new rfl).old _
  have kR1 : Rg.Bk (w.heap.size + 1) [.string ⟨#[]⟩, .int .i64 0, .slice none 0 0, .slice none 0 0, .string ⟨#[]⟩, .int .i64 0, .slice none 0 0, .slice none 0 0, .bool false] 30 ((w.alloc (.cells #[.string x0, .int .i64 p0, .slice b0 bn0 bc0, .slice g0 gn0 gc0, .string x1, .int .i64 p1, .slice b1 bn1 bc1, .slice g1 gn1 gc1, .bool true] 30)).alloc (.cells #[.string ⟨#[]⟩, .int .i64 0, .slice none 0 0, .slice none 0 0, .string ⟨#[]⟩, .int .i64 0, .slice none 0 0, .slice none 0 0, .bool false] 30)) := Rg.Bk.new (by simp)
  have hb1 := Rg.al2 w (.cells #[.string x0, .int .i64 p0, .slice b0 bn0 bc0, .slice g0 gn0 gc0, .string x1, .int .i64 p1, .slice b1 bn1 bc1, .slice g1 gn1 gc1, .bool true] 30) (.cells #[.string ⟨#[]⟩, .int .i64 0, .slice none 0 0, .slice none 0 0, .string ⟨#[]⟩, .int .i64 0, .slice none 0 0, .slice none 0 0, .bool false] 30)
  go_enter Try.func29, Try.ntmps29
  go_upto_region 1 with fail
  generalize World.alloc _ _ = w1 at *
  obtain ⟨B, hB⟩ : ∃ B, B = w.heap.size := ⟨_, rfl⟩
  obtain ⟨R, hR⟩ : ∃ R, R = w.heap.size + 1 := ⟨_, rfl⟩
  rw [← hR] at kR1 ⊢
  rw [← hB] at kB1 ⊢
  have hBR : B ≠ R := by omega
  have hBw : w.heap.size ≤ B := by omega
  have hRw : w.heap.size ≤ R := by omega
  clear hB hR
  have z0 : w1.cell? ⟨B, 0, none⟩ = some (.string x0) := kB1.cell 0
  have z1 : w1.cell? ⟨B, 1, none⟩ = some (.int .i64 p0) := kB1.cell 1
  have z2 : w1.cell? ⟨B, 2, none⟩ = some (.slice b0 bn0 bc0) := kB1.cell 2
  have z3 : w1.cell? ⟨B, 3, none⟩ = some (.slice g0 gn0 gc0) := kB1.cell 3
  have z4 : w1.cell? ⟨B, 4, none⟩ = some (.string x1) := kB1.cell 4
  have z5 : w1.cell? ⟨B, 5, none⟩ = some (.int .i64 p1) := kB1.cell 5
  have z6 : w1.cell? ⟨B, 6, none⟩ = some (.slice b1 bn1 bc1) := kB1.cell 6
  have z7 : w1.cell? ⟨B, 7, none⟩ = some (.slice g1 gn1 gc1) := kB1.cell 7
  have z8 : w1.cell? ⟨B, 8, none⟩ = some (.bool true) := kB1.cell 8
  replace kB1 := Rg.hid kB1
  replace kR1 := Rg.hid kR1
  replace hb1 := Rg.hid hb1
  go_upto_region 2 with (go_at_call 44; refine (HO.out _ hb1.out).mono ?_; rintro e w2 ⟨b0', bc0', g0', gc0', b1', bc1', g1', gc1', rfl, ⟨r_b0, q_b0, r_g0, q_g0, r_b1, q_b1, r_g1, q_g1⟩, b2⟩; have kB2 := kB1.out.below b2 kB1.out.lt; have y0 := kB2.cell 0; have y1 := kB2.cell 1; have y2 := kB2.cell 2; have y3 := kB2.cell 3; have y4 := kB2.cell 4; have y5 := kB2.cell 5; have y6 := kB2.cell 6; have y7 := kB2.cell 7; have y8 := kB2.cell 8; simp only [List.getElem?_cons_zero, List.getElem?_cons_succ] at y0 y1 y2 y3 y4 y5 y6 y7 y8; have yf := kB2.thaw)
  obtain ⟨kB3, oB⟩ := ret9 kB2 rfl (.string x0) (.int .i64 p0) (.slice b0' bn0 bc0') (.slice g0' gn0 gc0') (.string x1) (.int .i64 p1) (.slice b1' bn1 bc1') (.slice g1' gn1 gc1') (.bool true)
  replace r_b0 := Rg.hid (r_b0.only kB2 line_int oB)
  replace r_g0 := Rg.hid (r_g0.only kB2 line_int oB)
  replace r_b1 := Rg.hid (r_b1.only kB2 line_int oB)
  replace r_g1 := Rg.hid (r_g1.only kB2 line_int oB)
  have kR3 := (kR1.out.below b2 kR1.out.lt).same (oB.block _ (Ne.symm hBR))
  have hb3 := Rg.hid ((Rg.chain hb1.out b2).trans (oB.bel hBw))
  clear kB1 kR1 hb1 kB2 oB b2 yf y0 y1 y2 y3 y4 y5 y6 y7 y8 z0 z1 z2 z3 z4 z5 z6 z7 z8 HO
  generalize World.setCell _ _ _ = w3 at *
  have u8 : w3.cell? ⟨B, 8, none⟩ = some (.bool true) := kB3.cell 8
  have u0 : w3.cell? ⟨B, 0, none⟩ = some (.string x0) := kB3.cell 0
  replace kB3 := Rg.hid kB3
  replace kR3 := Rg.hid kR3
  go_upto_region 3 with (go_at_call 37; refine (HWy.out _).mono ?_; rintro e w9 ⟨rfl, rfl⟩)
  clear HWy u8 u0
  replace kB3 := kB3.out
  replace kR3 := kR3.out
  obtain ⟨kE, oE⟩ := ret9 kR3 rfl (.string x0) (.int .i64 p0) (.slice b0' bn0 bc0') (.slice g0' gn0 gc0') (.string x1) (.int .i64 p1) (.slice b1' bn1 bc1') (.slice g1' gn1 gc1') (.bool true)
  have post := Rg.hid ((⟨_, _, _, _, _, _, _, _, rfl, ⟨r_b0.out.only kR3 line_int oE, q_b0, r_g0.out.only kR3 line_int oE, q_g0, r_b1.out.only kR3 line_int oE, q_b1, r_g1.out.only kR3 line_int oE, q_g1⟩, hb3.out.trans (oE.bel hRw)⟩ : RPost (x0) (p0) (bn0) (gn0) (x1) (p1) (bn1) (gn1) (true) (bad0) (gap0) (bad1) (gap1) (.int .i64 6) w (.returned (.tuple #[.agg #[.string x0, .int .i64 p0, .slice b0' bn0 bc0', .slice g0' gn0 gc0', .string x1, .int .i64 p1, .slice b1' bn1 bc1', .slice g1' gn1 gc1', .bool true], .int .i64 6])) _))
  replace kE := Rg.hid kE
  have d0' : w3.cell? ⟨B, 0, none⟩ = some (.string x0) := kB3.cell 0
  have d1' : w3.cell? ⟨B, 1, none⟩ = some (.int .i64 p0) := kB3.cell 1
  have d2' : w3.cell? ⟨B, 2, none⟩ = some (.slice b0' bn0 bc0') := kB3.cell 2
  have d3' : w3.cell? ⟨B, 3, none⟩ = some (.slice g0' gn0 gc0') := kB3.cell 3
  have d4' : w3.cell? ⟨B, 4, none⟩ = some (.string x1) := kB3.cell 4
  have d5' : w3.cell? ⟨B, 5, none⟩ = some (.int .i64 p1) := kB3.cell 5
  have d6' : w3.cell? ⟨B, 6, none⟩ = some (.slice b1' bn1 bc1') := kB3.cell 6
  have d7' : w3.cell? ⟨B, 7, none⟩ = some (.slice g1' gn1 gc1') := kB3.cell 7
  have d8' : w3.cell? ⟨B, 8, none⟩ = some (.bool true) := kB3.cell 8
  have r0 : w3.cell? ⟨R, 0, none⟩ = some (.string ⟨#[]⟩) := kR3.cell 0
  have r1 : w3.cell? ⟨R, 1, none⟩ = some (.int .i64 0) := kR3.cell 1
  have r2 : w3.cell? ⟨R, 2, none⟩ = some (.slice none 0 0) := kR3.cell 2
  have r3 : w3.cell? ⟨R, 3, none⟩ = some (.slice none 0 0) := kR3.cell 3
  have r4 : w3.cell? ⟨R, 4, none⟩ = some (.string ⟨#[]⟩) := kR3.cell 4
  have r5 : w3.cell? ⟨R, 5, none⟩ = some (.int .i64 0) := kR3.cell 5
  have r6 : w3.cell? ⟨R, 6, none⟩ = some (.slice none 0 0) := kR3.cell 6
  have r7 : w3.cell? ⟨R, 7, none⟩ = some (.slice none 0 0) := kR3.cell 7
  have r8 : w3.cell? ⟨R, 8, none⟩ = some (.bool false) := kR3.cell 8
  have rf := kR3.thaw
  clear oE kR3 kB3 hb3
  go_wp2
  replace kE := kE.out
  replace post := post.out
  generalize World.setCell _ _ _ = WE at *
  exact bodyPost_ret (v := .tuple #[.agg #[.string x0, .int .i64 p0, .slice b0' bn0 bc0', .slice g0' gn0 gc0', .string x1, .int .i64 p1, .slice b1' bn1 bc1', .slice g1' gn1 gc1', .bool true], .int .i64 6]) (by simp [results, Try.results29, go_sem, kE.cell]) rfl post

set_option maxHeartbeats 1000000 in
set_option maxRecDepth 100000 in
theorem radd_full0 (x0 : ByteArray) (p0 : Int) (b0 : Option Addr) (bn0 bc0 : Nat) (g0 : Option Addr) (gn0 gc0 : Nat) (x1 : ByteArray) (p1 : Int) (b1 : Option Addr) (bn1 bc1 : Nat) (g1 : Option Addr) (gn1 gc1 : Nat) (m c : Int) (bad0 gap0 bad1 gap1 : List Int) (h_bn0 : Hid (bn0 = bad0.length)) (h_gn0 : Hid (gn0 = gap0.length)) (h_bn1 : Hid (bn1 = bad1.length)) (h_gn1 : Hid (gn1 = gap1.length)) (l_bn0 : bn0 ≤ 1000000000) (l_gn0 : gn0 ≤ 1000000000) (l_bn1 : bn1 ≤ 1000000000) (l_gn1 : gn1 ≤ 1000000000) (w : World) (hR0 : IRow w b0 bad0 ∧ bn0 ≤ bc0 ∧ IRow w g0 gap0 ∧ gn0 ≤ gc0 ∧ IRow w b1 bad1 ∧ bn1 ≤ bc1 ∧ IRow w g1 gap1 ∧ gn1 ≤ gc1) (hat : 0 ≤ m) (hae : m ≤ (x0.size : Int)) (hf : 40000 ≤ x0.size) :
    Calls Try.prog 29 #[.agg #[.string x0, .int .i64 p0, .slice b0 bn0 bc0, .slice g0 gn0 gc0, .string x1, .int .i64 p1, .slice b1 bn1 bc1, .slice g1 gn1 gc1, .bool true], .int .i64 0, .int .i64 m, .int .u8 c] w fun e w' => RPost (x0) (p0) (bn0) (gn0) (x1) (p1) (bn1) (gn1) (true) (bad0) (gap0) (bad1) (gap1) (.int .i64 8) w e w' := by
  have HWy : Hid (∀ W, Calls Try.prog 37 #[.int .i64 0] W fun e w' => e = .returned (.bool true) ∧ W = w') := fun W => (rway_any 0 W).mono fun e w' h => ⟨h.1, h.2.symm⟩
  have d0 : decide (m < 0) = false := by simp only [decide_eq_false_iff_not]; omega
  have d1 : decide ((x0.size : Int) < m) = false := by simp only [decide_eq_false_iff_not]; omega
  have d2 : decide ((40000 : Int) ≤ (x0.size : Int)) = true := by simp only [decide_eq_true_eq]; omega
  obtain ⟨s_b0, q_b0, s_g0, q_g0, s_b1, q_b1, s_g1, q_g1⟩ := hR0
  have HO : Hid (∀ W, Below w.heap.size w W → Calls Try.prog 44 #[.agg #[.string x0, .int .i64 p0, .slice b0 bn0 bc0, .slice g0 gn0 gc0, .string x1, .int .i64 p1, .slice b1 bn1 bc1, .slice g1 gn1 gc1, .bool true]] W fun e w' => OwnPost x0 p0 bn0 gn0 x1 p1 bn1 gn1 true bad0 gap0 bad1 gap1 W e w') := fun W hW => rown_cells x0 p0 b0 bn0 bc0 g0 gn0 gc0 x1 p1 b1 bn1 bc1 g1 gn1 gc1 true bad0 gap0 bad1 gap1 W h_bn0 h_gn0 h_bn1 h_gn1 l_bn0 l_gn0 l_bn1 l_gn1 ⟨s_b0.below hW, q_b0, s_g0.below hW, q_g0, s_b1.below hW, q_b1, s_g1.below hW, q_g1⟩
  clear s_b0 q_b0 s_g0 q_g0 s_b1 q_b1 s_g1 q_g1
  have kB1 : Rg.Bk w.heap.size [.string x0, .int .i64 p0, .slice b0 bn0 bc0, .slice g0 gn0 gc0, .string x1, .int .i64 p1, .slice b1 bn1 bc1, .slice g1 gn1 gc1, .bool true] 30 ((w.alloc (.cells #[.string x0, .int .i64 p0, .slice b0 bn0 bc0, .slice g0 gn0 gc0, .string x1, .int .i64 p1, .slice b1 bn1 bc1, .slice g1 gn1 gc1, .bool true] 30)).alloc (.cells #[.string ⟨#[]⟩, .int .i64 0, .slice none 0 0, .slice none 0 0, .string ⟨#[]⟩, .int .i64 0, .slice none 0 0, .slice none 0 0, .bool false] 30)) := (Rg.Bk.new rfl).old _
  have kR1 : Rg.Bk (w.heap.size + 1) [.string ⟨#[]⟩, .int .i64 0, .slice none 0 0, .slice none 0 0, .string ⟨#[]⟩, .int .i64 0, .slice none 0 0, .slice none 0 0, .bool false] 30 ((w.alloc (.cells #[.string x0, .int .i64 p0, .slice b0 bn0 bc0, .slice g0 gn0 gc0, .string x1, .int .i64 p1, .slice b1 bn1 bc1, .slice g1 gn1 gc1, .bool true] 30)).alloc (.cells #[.string ⟨#[]⟩, .int .i64 0, .slice none 0 0, .slice none 0 0, .string ⟨#[]⟩, .int .i64 0, .slice none 0 0, .slice none 0 0, .bool false] 30)) := Rg.Bk.new (by simp)
  have hb1 := Rg.al2 w (.cells #[.string x0, .int .i64 p0, .slice b0 bn0 bc0, .slice g0 gn0 gc0, .string x1, .int .i64 p1, .slice b1 bn1 bc1, .slice g1 gn1 gc1, .bool true] 30) (.cells #[.string ⟨#[]⟩, .int .i64 0, .slice none 0 0, .slice none 0 0, .string ⟨#[]⟩, .int .i64 0, .slice none 0 0, .slice none 0 0, .bool false] 30)
  go_enter Try.func29, Try.ntmps29
  go_upto_region 1 with fail
  generalize World.alloc _ _ = w1 at *
  obtain ⟨B, hB⟩ : ∃ B, B = w.heap.size := ⟨_, rfl⟩
  obtain ⟨R, hR⟩ : ∃ R, R = w.heap.size + 1 := ⟨_, rfl⟩
  rw [← hR] at kR1 ⊢
  rw [← hB] at kB1 ⊢
  have hBR : B ≠ R := by omega
  have hBw : w.heap.size ≤ B := by omega
  have hRw : w.heap.size ≤ R := by omega
  clear hB hR
  have z0 : w1.cell? ⟨B, 0, none⟩ = some (.string x0) := kB1.cell 0
  have z1 : w1.cell? ⟨B, 1, none⟩ = some (.int .i64 p0) := kB1.cell 1
  have z2 : w1.cell? ⟨B, 2, none⟩ = some (.slice b0 bn0 bc0) := kB1.cell 2
  have z3 : w1.cell? ⟨B, 3, none⟩ = some (.slice g0 gn0 gc0) := kB1.cell 3
  have z4 : w1.cell? ⟨B, 4, none⟩ = some (.string x1) := kB1.cell 4
  have z5 : w1.cell? ⟨B, 5, none⟩ = some (.int .i64 p1) := kB1.cell 5
  have z6 : w1.cell? ⟨B, 6, none⟩ = some (.slice b1 bn1 bc1) := kB1.cell 6
  have z7 : w1.cell? ⟨B, 7, none⟩ = some (.slice g1 gn1 gc1) := kB1.cell 7
  have z8 : w1.cell? ⟨B, 8, none⟩ = some (.bool true) := kB1.cell 8
  replace kB1 := Rg.hid kB1
  replace kR1 := Rg.hid kR1
  replace hb1 := Rg.hid hb1
  go_upto_region 2 with (go_at_call 44; refine (HO.out _ hb1.out).mono ?_; rintro e w2 ⟨b0', bc0', g0', gc0', b1', bc1', g1', gc1', rfl, ⟨r_b0, q_b0, r_g0, q_g0, r_b1, q_b1, r_g1, q_g1⟩, b2⟩; have kB2 := kB1.out.below b2 kB1.out.lt; have y0 := kB2.cell 0; have y1 := kB2.cell 1; have y2 := kB2.cell 2; have y3 := kB2.cell 3; have y4 := kB2.cell 4; have y5 := kB2.cell 5; have y6 := kB2.cell 6; have y7 := kB2.cell 7; have y8 := kB2.cell 8; simp only [List.getElem?_cons_zero, List.getElem?_cons_succ] at y0 y1 y2 y3 y4 y5 y6 y7 y8; have yf := kB2.thaw)
  obtain ⟨kB3, oB⟩ := ret9 kB2 rfl (.string x0) (.int .i64 p0) (.slice b0' bn0 bc0') (.slice g0' gn0 gc0') (.string x1) (.int .i64 p1) (.slice b1' bn1 bc1') (.slice g1' gn1 gc1') (.bool true)
  replace r_b0 := Rg.hid (r_b0.only kB2 line_int oB)
  replace r_g0 := Rg.hid (r_g0.only kB2 line_int oB)
  replace r_b1 := Rg.hid (r_b1.only kB2 line_int oB)
  replace r_g1 := Rg.hid (r_g1.only kB2 line_int oB)
  have kR3 := (kR1.out.below b2 kR1.out.lt).same (oB.block _ (Ne.symm hBR))
  have hb3 := Rg.hid ((Rg.chain hb1.out b2).trans (oB.bel hBw))
  clear kB1 kR1 hb1 kB2 oB b2 yf y0 y1 y2 y3 y4 y5 y6 y7 y8 z0 z1 z2 z3 z4 z5 z6 z7 z8 HO
  generalize World.setCell _ _ _ = w3 at *
  have u8 : w3.cell? ⟨B, 8, none⟩ = some (.bool true) := kB3.cell 8
  have u0 : w3.cell? ⟨B, 0, none⟩ = some (.string x0) := kB3.cell 0
  replace kB3 := Rg.hid kB3
  replace kR3 := Rg.hid kR3
  go_upto_region 5 with (go_at_call 37; refine (HWy.out _).mono ?_; rintro e w9 ⟨rfl, rfl⟩)
  clear HWy u8 u0
  replace kB3 := kB3.out
  replace kR3 := kR3.out
  obtain ⟨kE, oE⟩ := ret9 kR3 rfl (.string x0) (.int .i64 p0) (.slice b0' bn0 bc0') (.slice g0' gn0 gc0') (.string x1) (.int .i64 p1) (.slice b1' bn1 bc1') (.slice g1' gn1 gc1') (.bool true)
  have post := Rg.hid ((⟨_, _, _, _, _, _, _, _, rfl, ⟨r_b0.out.only kR3 line_int oE, q_b0, r_g0.out.only kR3 line_int oE, q_g0, r_b1.out.only kR3 line_int oE, q_b1, r_g1.out.only kR3 line_int oE, q_g1⟩, hb3.out.trans (oE.bel hRw)⟩ : RPost (x0) (p0) (bn0) (gn0) (x1) (p1) (bn1) (gn1) (true) (bad0) (gap0) (bad1) (gap1) (.int .i64 8) w (.returned (.tuple #[.agg #[.string x0, .int .i64 p0, .slice b0' bn0 bc0', .slice g0' gn0 gc0', .string x1, .int .i64 p1, .slice b1' bn1 bc1', .slice g1' gn1 gc1', .bool true], .int .i64 8])) _))
  replace kE := Rg.hid kE
  have d0' : w3.cell? ⟨B, 0, none⟩ = some (.string x0) := kB3.cell 0
  have d1' : w3.cell? ⟨B, 1, none⟩ = some (.int .i64 p0) := kB3.cell 1
  have d2' : w3.cell? ⟨B, 2, none⟩ = some (.slice b0' bn0 bc0') := kB3.cell 2
  have d3' : w3.cell? ⟨B, 3, none⟩ = some (.slice g0' gn0 gc0') := kB3.cell 3
  have d4' : w3.cell? ⟨B, 4, none⟩ = some (.string x1) := kB3.cell 4
  have d5' : w3.cell? ⟨B, 5, none⟩ = some (.int .i64 p1) := kB3.cell 5
  have d6' : w3.cell? ⟨B, 6, none⟩ = some (.slice b1' bn1 bc1') := kB3.cell 6
  have d7' : w3.cell? ⟨B, 7, none⟩ = some (.slice g1' gn1 gc1') := kB3.cell 7
  have d8' : w3.cell? ⟨B, 8, none⟩ = some (.bool true) := kB3.cell 8
  have r0 : w3.cell? ⟨R, 0, none⟩ = some (.string ⟨#[]⟩) := kR3.cell 0
  have r1 : w3.cell? ⟨R, 1, none⟩ = some (.int .i64 0) := kR3.cell 1
  have r2 : w3.cell? ⟨R, 2, none⟩ = some (.slice none 0 0) := kR3.cell 2
  have r3 : w3.cell? ⟨R, 3, none⟩ = some (.slice none 0 0) := kR3.cell 3
  have r4 : w3.cell? ⟨R, 4, none⟩ = some (.string ⟨#[]⟩) := kR3.cell 4
  have r5 : w3.cell? ⟨R, 5, none⟩ = some (.int .i64 0) := kR3.cell 5
  have r6 : w3.cell? ⟨R, 6, none⟩ = some (.slice none 0 0) := kR3.cell 6
  have r7 : w3.cell? ⟨R, 7, none⟩ = some (.slice none 0 0) := kR3.cell 7
  have r8 : w3.cell? ⟨R, 8, none⟩ = some (.bool false) := kR3.cell 8
  have rf := kR3.thaw
  clear oE kR3 kB3 hb3
  go_wp2
  replace kE := kE.out
  replace post := post.out
  generalize World.setCell _ _ _ = WE at *
  exact bodyPost_ret (v := .tuple #[.agg #[.string x0, .int .i64 p0, .slice b0' bn0 bc0', .slice g0' gn0 gc0', .string x1, .int .i64 p1, .slice b1' bn1 bc1', .slice g1' gn1 gc1', .bool true], .int .i64 8]) (by simp [results, Try.results29, go_sem, kE.cell]) rfl post

set_option maxHeartbeats 1000000 in
set_option maxRecDepth 100000 in
theorem radd_down1 (x0 : ByteArray) (p0 : Int) (b0 : Option Addr) (bn0 bc0 : Nat) (g0 : Option Addr) (gn0 gc0 : Nat) (x1 : ByteArray) (p1 : Int) (b1 : Option Addr) (bn1 bc1 : Nat) (g1 : Option Addr) (gn1 gc1 : Nat) (m c : Int) (bad0 gap0 bad1 gap1 : List Int) (h_bn0 : Hid (bn0 = bad0.length)) (h_gn0 : Hid (gn0 = gap0.length)) (h_bn1 : Hid (bn1 = bad1.length)) (h_gn1 : Hid (gn1 = gap1.length)) (l_bn0 : bn0 ≤ 1000000000) (l_gn0 : gn0 ≤ 1000000000) (l_bn1 : bn1 ≤ 1000000000) (l_gn1 : gn1 ≤ 1000000000) (w : World) (hR0 : IRow w b0 bad0 ∧ bn0 ≤ bc0 ∧ IRow w g0 gap0 ∧ gn0 ≤ gc0 ∧ IRow w b1 bad1 ∧ bn1 ≤ bc1 ∧ IRow w g1 gap1 ∧ gn1 ≤ gc1) :
    Calls Try.prog 29 #[.agg #[.string x0, .int .i64 p0, .slice b0 bn0 bc0, .slice g0 gn0 gc0, .string x1, .int .i64 p1, .slice b1 bn1 bc1, .slice g1 gn1 gc1, .bool false], .int .i64 1, .int .i64 m, .int .u8 c] w fun e w' => RPost (x0) (p0) (bn0) (gn0) (x1) (p1) (bn1) (gn1) (false) (bad0) (gap0) (bad1) (gap1) (.int .i64 6) w e w' := by
  have HWy : Hid (∀ W, Calls Try.prog 37 #[.int .i64 1] W fun e w' => e = .returned (.bool true) ∧ W = w') := fun W => (rway_any 1 W).mono fun e w' h => ⟨h.1, h.2.symm⟩
  obtain ⟨s_b0, q_b0, s_g0, q_g0, s_b1, q_b1, s_g1, q_g1⟩ := hR0
  have HO : Hid (∀ W, Below w.heap.size w W → Calls Try.prog 44 #[.agg #[.string x0, .int .i64 p0, .slice b0 bn0 bc0, .slice g0 gn0 gc0, .string x1, .int .i64 p1, .slice b1 bn1 bc1, .slice g1 gn1 gc1, .bool false]] W fun e w' => OwnPost x0 p0 bn0 gn0 x1 p1 bn1 gn1 false bad0 gap0 bad1 gap1 W e w') := fun W hW => rown_cells x0 p0 b0 bn0 bc0 g0 gn0 gc0 x1 p1 b1 bn1 bc1 g1 gn1 gc1 false bad0 gap0 bad1 gap1 W h_bn0 h_gn0 h_bn1 h_gn1 l_bn0 l_gn0 l_bn1 l_gn1 ⟨s_b0.below hW, q_b0, s_g0.below hW, q_g0, s_b1.below hW, q_b1, s_g1.below hW, q_g1⟩
  clear s_b0 q_b0 s_g0 q_g0 s_b1 q_b1 s_g1 q_g1
  have kB1 : Rg.Bk w.heap.size [.string x0, .int .i64 p0, .slice b0 bn0 bc0, .slice g0 gn0 gc0, .string x1, .int .i64 p1, .slice b1 bn1 bc1, .slice g1 gn1 gc1, .bool false] 30 ((w.alloc (.cells #[.string x0, .int .i64 p0, .slice b0 bn0 bc0, .slice g0 gn0 gc0, .string x1, .int .i64 p1, .slice b1 bn1 bc1, .slice g1 gn1 gc1, .bool false] 30)).alloc (.cells #[.string ⟨#[]⟩, .int .i64 0, .slice none 0 0, .slice none 0 0, .string ⟨#[]⟩, .int .i64 0, .slice none 0 0, .slice none 0 0, .bool false] 30)) := (Rg.Bk.new rfl).old _
  have kR1 : Rg.Bk (w.heap.size + 1) [.string ⟨#[]⟩, .int .i64 0, .slice none 0 0, .slice none 0 0, .string ⟨#[]⟩, .int .i64 0, .slice none 0 0, .slice none 0 0, .bool false] 30 ((w.alloc (.cells #[.string x0, .int .i64 p0, .slice b0 bn0 bc0, .slice g0 gn0 gc0, .string x1, .int .i64 p1, .slice b1 bn1 bc1, .slice g1 gn1 gc1, .bool false] 30)).alloc (.cells #[.string ⟨#[]⟩, .int .i64 0, .slice none 0 0, .slice none 0 0, .string ⟨#[]⟩, .int .i64 0, .slice none 0 0, .slice none 0 0, .bool false] 30)) := Rg.Bk.new (by simp)
  have hb1 := Rg.al2 w (.cells #[.string x0, .int .i64 p0, .slice b0 bn0 bc0, .slice g0 gn0 gc0, .string x1, .int .i64 p1, .slice b1 bn1 bc1, .slice g1 gn1 gc1, .bool false] 30) (.cells #[.string ⟨#[]⟩, .int .i64 0, .slice none 0 0, .slice none 0 0, .string ⟨#[]⟩, .int .i64 0, .slice none 0 0, .slice none 0 0, .bool false] 30)
  go_enter Try.func29, Try.ntmps29
  go_upto_region 1 with fail
  generalize World.alloc _ _ = w1 at *
  obtain ⟨B, hB⟩ : ∃ B, B = w.heap.size := ⟨_, rfl⟩
  obtain ⟨R, hR⟩ : ∃ R, R = w.heap.size + 1 := ⟨_, rfl⟩
  rw [← hR] at kR1 ⊢
  rw [← hB] at kB1 ⊢
  have hBR : B ≠ R := by omega
  have hBw : w.heap.size ≤ B := by omega
  have hRw : w.heap.size ≤ R := by omega
  clear hB hR
  have z0 : w1.cell? ⟨B, 0, none⟩ = some (.string x0) := kB1.cell 0
  have z1 : w1.cell? ⟨B, 1, none⟩ = some (.int .i64 p0) := kB1.cell 1
  have z2 : w1.cell? ⟨B, 2, none⟩ = some (.slice b0 bn0 bc0) := kB1.cell 2
  have z3 : w1.cell? ⟨B, 3, none⟩ = some (.slice g0 gn0 gc0) := kB1.cell 3
  have z4 : w1.cell? ⟨B, 4, none⟩ = some (.string x1) := kB1.cell 4
  have z5 : w1.cell? ⟨B, 5, none⟩ = some (.int .i64 p1) := kB1.cell 5
  have z6 : w1.cell? ⟨B, 6, none⟩ = some (.slice b1 bn1 bc1) := kB1.cell 6
  have z7 : w1.cell? ⟨B, 7, none⟩ = some (.slice g1 gn1 gc1) := kB1.cell 7
  have z8 : w1.cell? ⟨B, 8, none⟩ = some (.bool false) := kB1.cell 8
  replace kB1 := Rg.hid kB1
  replace kR1 := Rg.hid kR1
  replace hb1 := Rg.hid hb1
  go_upto_region 2 with (go_at_call 44; refine (HO.out _ hb1.out).mono ?_; rintro e w2 ⟨b0', bc0', g0', gc0', b1', bc1', g1', gc1', rfl, ⟨r_b0, q_b0, r_g0, q_g0, r_b1, q_b1, r_g1, q_g1⟩, b2⟩; have kB2 := kB1.out.below b2 kB1.out.lt; have y0 := kB2.cell 0; have y1 := kB2.cell 1; have y2 := kB2.cell 2; have y3 := kB2.cell 3; have y4 := kB2.cell 4; have y5 := kB2.cell 5; have y6 := kB2.cell 6; have y7 := kB2.cell 7; have y8 := kB2.cell 8; simp only [List.getElem?_cons_zero, List.getElem?_cons_succ] at y0 y1 y2 y3 y4 y5 y6 y7 y8; have yf := kB2.thaw)
  obtain ⟨kB3, oB⟩ := ret9 kB2 rfl (.string x0) (.int .i64 p0) (.slice b0' bn0 bc0') (.slice g0' gn0 gc0') (.string x1) (.int .i64 p1) (.slice b1' bn1 bc1') (.slice g1' gn1 gc1') (.bool false)
  replace r_b0 := Rg.hid (r_b0.only kB2 line_int oB)
  replace r_g0 := Rg.hid (r_g0.only kB2 line_int oB)
  replace r_b1 := Rg.hid (r_b1.only kB2 line_int oB)
  replace r_g1 := Rg.hid (r_g1.only kB2 line_int oB)
  have kR3 := (kR1.out.below b2 kR1.out.lt).same (oB.block _ (Ne.symm hBR))
  have hb3 := Rg.hid ((Rg.chain hb1.out b2).trans (oB.bel hBw))
  clear kB1 kR1 hb1 kB2 oB b2 yf y0 y1 y2 y3 y4 y5 y6 y7 y8 z0 z1 z2 z3 z4 z5 z6 z7 z8 HO
  generalize World.setCell _ _ _ = w3 at *
  have u8 : w3.cell? ⟨B, 8, none⟩ = some (.bool false) := kB3.cell 8
  replace kB3 := Rg.hid kB3
  replace kR3 := Rg.hid kR3
  go_upto_region 3 with (go_at_call 37; refine (HWy.out _).mono ?_; rintro e w9 ⟨rfl, rfl⟩)
  clear HWy u8
  replace kB3 := kB3.out
  replace kR3 := kR3.out
  obtain ⟨kE, oE⟩ := ret9 kR3 rfl (.string x0) (.int .i64 p0) (.slice b0' bn0 bc0') (.slice g0' gn0 gc0') (.string x1) (.int .i64 p1) (.slice b1' bn1 bc1') (.slice g1' gn1 gc1') (.bool false)
  have post := Rg.hid ((⟨_, _, _, _, _, _, _, _, rfl, ⟨r_b0.out.only kR3 line_int oE, q_b0, r_g0.out.only kR3 line_int oE, q_g0, r_b1.out.only kR3 line_int oE, q_b1, r_g1.out.only kR3 line_int oE, q_g1⟩, hb3.out.trans (oE.bel hRw)⟩ : RPost (x0) (p0) (bn0) (gn0) (x1) (p1) (bn1) (gn1) (false) (bad0) (gap0) (bad1) (gap1) (.int .i64 6) w (.returned (.tuple #[.agg #[.string x0, .int .i64 p0, .slice b0' bn0 bc0', .slice g0' gn0 gc0', .string x1, .int .i64 p1, .slice b1' bn1 bc1', .slice g1' gn1 gc1', .bool false], .int .i64 6])) _))
  replace kE := Rg.hid kE
  have d0' : w3.cell? ⟨B, 0, none⟩ = some (.string x0) := kB3.cell 0
  have d1' : w3.cell? ⟨B, 1, none⟩ = some (.int .i64 p0) := kB3.cell 1
  have d2' : w3.cell? ⟨B, 2, none⟩ = some (.slice b0' bn0 bc0') := kB3.cell 2
  have d3' : w3.cell? ⟨B, 3, none⟩ = some (.slice g0' gn0 gc0') := kB3.cell 3
  have d4' : w3.cell? ⟨B, 4, none⟩ = some (.string x1) := kB3.cell 4
  have d5' : w3.cell? ⟨B, 5, none⟩ = some (.int .i64 p1) := kB3.cell 5
  have d6' : w3.cell? ⟨B, 6, none⟩ = some (.slice b1' bn1 bc1') := kB3.cell 6
  have d7' : w3.cell? ⟨B, 7, none⟩ = some (.slice g1' gn1 gc1') := kB3.cell 7
  have d8' : w3.cell? ⟨B, 8, none⟩ = some (.bool false) := kB3.cell 8
  have r0 : w3.cell? ⟨R, 0, none⟩ = some (.string ⟨#[]⟩) := kR3.cell 0
  have r1 : w3.cell? ⟨R, 1, none⟩ = some (.int .i64 0) := kR3.cell 1
  have r2 : w3.cell? ⟨R, 2, none⟩ = some (.slice none 0 0) := kR3.cell 2
  have r3 : w3.cell? ⟨R, 3, none⟩ = some (.slice none 0 0) := kR3.cell 3
  have r4 : w3.cell? ⟨R, 4, none⟩ = some (.string ⟨#[]⟩) := kR3.cell 4
  have r5 : w3.cell? ⟨R, 5, none⟩ = some (.int .i64 0) := kR3.cell 5
  have r6 : w3.cell? ⟨R, 6, none⟩ = some (.slice none 0 0) := kR3.cell 6
  have r7 : w3.cell? ⟨R, 7, none⟩ = some (.slice none 0 0) := kR3.cell 7
  have r8 : w3.cell? ⟨R, 8, none⟩ = some (.bool false) := kR3.cell 8
  have rf := kR3.thaw
  clear oE kR3 kB3 hb3
  go_wp2
  replace kE := kE.out
  replace post := post.out
  generalize World.setCell _ _ _ = WE at *
  exact bodyPost_ret (v := .tuple #[.agg #[.string x0, .int .i64 p0, .slice b0' bn0 bc0', .slice g0' gn0 gc0', .string x1, .int .i64 p1, .slice b1' bn1 bc1', .slice g1' gn1 gc1', .bool false], .int .i64 6]) (by simp [results, Try.results29, go_sem, kE.cell]) rfl post

set_option maxHeartbeats 1000000 in
set_option maxRecDepth 100000 in
theorem radd_low1 (x0 : ByteArray) (p0 : Int) (b0 : Option Addr) (bn0 bc0 : Nat) (g0 : Option Addr) (gn0 gc0 : Nat) (x1 : ByteArray) (p1 : Int) (b1 : Option Addr) (bn1 bc1 : Nat) (g1 : Option Addr) (gn1 gc1 : Nat) (m c : Int) (bad0 gap0 bad1 gap1 : List Int) (h_bn0 : Hid (bn0 = bad0.length)) (h_gn0 : Hid (gn0 = gap0.length)) (h_bn1 : Hid (bn1 = bad1.length)) (h_gn1 : Hid (gn1 = gap1.length)) (l_bn0 : bn0 ≤ 1000000000) (l_gn0 : gn0 ≤ 1000000000) (l_bn1 : bn1 ≤ 1000000000) (l_gn1 : gn1 ≤ 1000000000) (w : World) (hR0 : IRow w b0 bad0 ∧ bn0 ≤ bc0 ∧ IRow w g0 gap0 ∧ gn0 ≤ gc0 ∧ IRow w b1 bad1 ∧ bn1 ≤ bc1 ∧ IRow w g1 gap1 ∧ gn1 ≤ gc1) (hat : m < 0) :
    Calls Try.prog 29 #[.agg #[.string x0, .int .i64 p0, .slice b0 bn0 bc0, .slice g0 gn0 gc0, .string x1, .int .i64 p1, .slice b1 bn1 bc1, .slice g1 gn1 gc1, .bool true], .int .i64 1, .int .i64 m, .int .u8 c] w fun e w' => RPost (x0) (p0) (bn0) (gn0) (x1) (p1) (bn1) (gn1) (true) (bad0) (gap0) (bad1) (gap1) (.int .i64 6) w e w' := by
  have HWy : Hid (∀ W, Calls Try.prog 37 #[.int .i64 1] W fun e w' => e = .returned (.bool true) ∧ W = w') := fun W => (rway_any 1 W).mono fun e w' h => ⟨h.1, h.2.symm⟩
  have d0 : decide (m < 0) = true := by simp only [decide_eq_true_eq]; exact hat
  obtain ⟨s_b0, q_b0, s_g0, q_g0, s_b1, q_b1, s_g1, q_g1⟩ := hR0
  have HO : Hid (∀ W, Below w.heap.size w W → Calls Try.prog 44 #[.agg #[.string x0, .int .i64 p0, .slice b0 bn0 bc0, .slice g0 gn0 gc0, .string x1, .int .i64 p1, .slice b1 bn1 bc1, .slice g1 gn1 gc1, .bool true]] W fun e w' => OwnPost x0 p0 bn0 gn0 x1 p1 bn1 gn1 true bad0 gap0 bad1 gap1 W e w') := fun W hW => rown_cells x0 p0 b0 bn0 bc0 g0 gn0 gc0 x1 p1 b1 bn1 bc1 g1 gn1 gc1 true bad0 gap0 bad1 gap1 W h_bn0 h_gn0 h_bn1 h_gn1 l_bn0 l_gn0 l_bn1 l_gn1 ⟨s_b0.below hW, q_b0, s_g0.below hW, q_g0, s_b1.below hW, q_b1, s_g1.below hW, q_g1⟩
  clear s_b0 q_b0 s_g0 q_g0 s_b1 q_b1 s_g1 q_g1
  have kB1 : Rg.Bk w.heap.size [.string x0, .int .i64 p0, .slice b0 bn0 bc0, .slice g0 gn0 gc0, .string x1, .int .i64 p1, .slice b1 bn1 bc1, .slice g1 gn1 gc1, .bool true] 30 ((w.alloc (.cells #[.string x0, .int .i64 p0, .slice b0 bn0 bc0, .slice g0 gn0 gc0, .string x1, .int .i64 p1, .slice b1 bn1 bc1, .slice g1 gn1 gc1, .bool true] 30)).alloc (.cells #[.string ⟨#[]⟩, .int .i64 0, .slice none 0 0, .slice none 0 0, .string ⟨#[]⟩, .int .i64 0, .slice none 0 0, .slice none 0 0, .bool false] 30)) := (Rg.Bk.new rfl).old _
  have kR1 : Rg.Bk (w.heap.size + 1) [.string ⟨#[]⟩, .int .i64 0, .slice none 0 0, .slice none 0 0, .string ⟨#[]⟩, .int .i64 0, .slice none 0 0, .slice none 0 0, .bool false] 30 ((w.alloc (.cells #[.string x0, .int .i64 p0, .slice b0 bn0 bc0, .slice g0 gn0 gc0, .string x1, .int .i64 p1, .slice b1 bn1 bc1, .slice g1 gn1 gc1, .bool true] 30)).alloc (.cells #[.string ⟨#[]⟩, .int .i64 0, .slice none 0 0, .slice none 0 0, .string ⟨#[]⟩, .int .i64 0, .slice none 0 0, .slice none 0 0, .bool false] 30)) := Rg.Bk.new (by simp)
  have hb1 := Rg.al2 w (.cells #[.string x0, .int .i64 p0, .slice b0 bn0 bc0, .slice g0 gn0 gc0, .string x1, .int .i64 p1, .slice b1 bn1 bc1, .slice g1 gn1 gc1, .bool true] 30) (.cells #[.string ⟨#[]⟩, .int .i64 0, .slice none 0 0, .slice none 0 0, .string ⟨#[]⟩, .int .i64 0, .slice none 0 0, .slice none 0 0, .bool false] 30)
  go_enter Try.func29, Try.ntmps29
  go_upto_region 1 with fail
  generalize World.alloc _ _ = w1 at *
  obtain ⟨B, hB⟩ : ∃ B, B = w.heap.size := ⟨_, rfl⟩
  obtain ⟨R, hR⟩ : ∃ R, R = w.heap.size + 1 := ⟨_, rfl⟩
  rw [← hR] at kR1 ⊢
  rw [← hB] at kB1 ⊢
  have hBR : B ≠ R := by omega
  have hBw : w.heap.size ≤ B := by omega
  have hRw : w.heap.size ≤ R := by omega
  clear hB hR
  have z0 : w1.cell? ⟨B, 0, none⟩ = some (.string x0) := kB1.cell 0
  have z1 : w1.cell? ⟨B, 1, none⟩ = some (.int .i64 p0) := kB1.cell 1
  have z2 : w1.cell? ⟨B, 2, none⟩ = some (.slice b0 bn0 bc0) := kB1.cell 2
  have z3 : w1.cell? ⟨B, 3, none⟩ = some (.slice g0 gn0 gc0) := kB1.cell 3
  have z4 : w1.cell? ⟨B, 4, none⟩ = some (.string x1) := kB1.cell 4
  have z5 : w1.cell? ⟨B, 5, none⟩ = some (.int .i64 p1) := kB1.cell 5
  have z6 : w1.cell? ⟨B, 6, none⟩ = some (.slice b1 bn1 bc1) := kB1.cell 6
  have z7 : w1.cell? ⟨B, 7, none⟩ = some (.slice g1 gn1 gc1) := kB1.cell 7
  have z8 : w1.cell? ⟨B, 8, none⟩ = some (.bool true) := kB1.cell 8
  replace kB1 := Rg.hid kB1
  replace kR1 := Rg.hid kR1
  replace hb1 := Rg.hid hb1
  go_upto_region 2 with (go_at_call 44; refine (HO.out _ hb1.out).mono ?_; rintro e w2 ⟨b0', bc0', g0', gc0', b1', bc1', g1', gc1', rfl, ⟨r_b0, q_b0, r_g0, q_g0, r_b1, q_b1, r_g1, q_g1⟩, b2⟩; have kB2 := kB1.out.below b2 kB1.out.lt; have y0 := kB2.cell 0; have y1 := kB2.cell 1; have y2 := kB2.cell 2; have y3 := kB2.cell 3; have y4 := kB2.cell 4; have y5 := kB2.cell 5; have y6 := kB2.cell 6; have y7 := kB2.cell 7; have y8 := kB2.cell 8; simp only [List.getElem?_cons_zero, List.getElem?_cons_succ] at y0 y1 y2 y3 y4 y5 y6 y7 y8; have yf := kB2.thaw)
  obtain ⟨kB3, oB⟩ := ret9 kB2 rfl (.string x0) (.int .i64 p0) (.slice b0' bn0 bc0') (.slice g0' gn0 gc0') (.string x1) (.int .i64 p1) (.slice b1' bn1 bc1') (.slice g1' gn1 gc1') (.bool true)
  replace r_b0 := Rg.hid (r_b0.only kB2 line_int oB)
  replace r_g0 := Rg.hid (r_g0.only kB2 line_int oB)
  replace r_b1 := Rg.hid (r_b1.only kB2 line_int oB)
  replace r_g1 := Rg.hid (r_g1.only kB2 line_int oB)
  have kR3 := (kR1.out.below b2 kR1.out.lt).same (oB.block _ (Ne.symm hBR))
  have hb3 := Rg.hid ((Rg.chain hb1.out b2).trans (oB.bel hBw))
  clear kB1 kR1 hb1 kB2 oB b2 yf y0 y1 y2 y3 y4 y5 y6 y7 y8 z0 z1 z2 z3 z4 z5 z6 z7 z8 HO
  generalize World.setCell _ _ _ = w3 at *
  have u8 : w3.cell? ⟨B, 8, none⟩ = some (.bool true) := kB3.cell 8
  replace kB3 := Rg.hid kB3
  replace kR3 := Rg.hid kR3
  go_upto_region 3 with (go_at_call 37; refine (HWy.out _).mono ?_; rintro e w9 ⟨rfl, rfl⟩)
  clear HWy u8
  replace kB3 := kB3.out
  replace kR3 := kR3.out
  obtain ⟨kE, oE⟩ := ret9 kR3 rfl (.string x0) (.int .i64 p0) (.slice b0' bn0 bc0') (.slice g0' gn0 gc0') (.string x1) (.int .i64 p1) (.slice b1' bn1 bc1') (.slice g1' gn1 gc1') (.bool true)
  have post := Rg.hid ((⟨_, _, _, _, _, _, _, _, rfl, ⟨r_b0.out.only kR3 line_int oE, q_b0, r_g0.out.only kR3 line_int oE, q_g0, r_b1.out.only kR3 line_int oE, q_b1, r_g1.out.only kR3 line_int oE, q_g1⟩, hb3.out.trans (oE.bel hRw)⟩ : RPost (x0) (p0) (bn0) (gn0) (x1) (p1) (bn1) (gn1) (true) (bad0) (gap0) (bad1) (gap1) (.int .i64 6) w (.returned (.tuple #[.agg #[.string x0, .int .i64 p0, .slice b0' bn0 bc0', .slice g0' gn0 gc0', .string x1, .int .i64 p1, .slice b1' bn1 bc1', .slice g1' gn1 gc1', .bool true], .int .i64 6])) _))
  replace kE := Rg.hid kE
  have d0' : w3.cell? ⟨B, 0, none⟩ = some (.string x0) := kB3.cell 0
  have d1' : w3.cell? ⟨B, 1, none⟩ = some (.int .i64 p0) := kB3.cell 1
  have d2' : w3.cell? ⟨B, 2, none⟩ = some (.slice b0' bn0 bc0') := kB3.cell 2
  have d3' : w3.cell? ⟨B, 3, none⟩ = some (.slice g0' gn0 gc0') := kB3.cell 3
  have d4' : w3.cell? ⟨B, 4, none⟩ = some (.string x1) := kB3.cell 4
  have d5' : w3.cell? ⟨B, 5, none⟩ = some (.int .i64 p1) := kB3.cell 5
  have d6' : w3.cell? ⟨B, 6, none⟩ = some (.slice b1' bn1 bc1') := kB3.cell 6
  have d7' : w3.cell? ⟨B, 7, none⟩ = some (.slice g1' gn1 gc1') := kB3.cell 7
  have d8' : w3.cell? ⟨B, 8, none⟩ = some (.bool true) := kB3.cell 8
  have r0 : w3.cell? ⟨R, 0, none⟩ = some (.string ⟨#[]⟩) := kR3.cell 0
  have r1 : w3.cell? ⟨R, 1, none⟩ = some (.int .i64 0) := kR3.cell 1
  have r2 : w3.cell? ⟨R, 2, none⟩ = some (.slice none 0 0) := kR3.cell 2
  have r3 : w3.cell? ⟨R, 3, none⟩ = some (.slice none 0 0) := kR3.cell 3
  have r4 : w3.cell? ⟨R, 4, none⟩ = some (.string ⟨#[]⟩) := kR3.cell 4
  have r5 : w3.cell? ⟨R, 5, none⟩ = some (.int .i64 0) := kR3.cell 5
  have r6 : w3.cell? ⟨R, 6, none⟩ = some (.slice none 0 0) := kR3.cell 6
  have r7 : w3.cell? ⟨R, 7, none⟩ = some (.slice none 0 0) := kR3.cell 7
  have r8 : w3.cell? ⟨R, 8, none⟩ = some (.bool false) := kR3.cell 8
  have rf := kR3.thaw
  clear oE kR3 kB3 hb3
  go_wp2
  replace kE := kE.out
  replace post := post.out
  generalize World.setCell _ _ _ = WE at *
  exact bodyPost_ret (v := .tuple #[.agg #[.string x0, .int .i64 p0, .slice b0' bn0 bc0', .slice g0' gn0 gc0', .string x1, .int .i64 p1, .slice b1' bn1 bc1', .slice g1' gn1 gc1', .bool true], .int .i64 6]) (by simp [results, Try.results29, go_sem, kE.cell]) rfl post

set_option maxHeartbeats 1000000 in
set_option maxRecDepth 100000 in
theorem radd_high1 (x0 : ByteArray) (p0 : Int) (b0 : Option Addr) (bn0 bc0 : Nat) (g0 : Option Addr) (gn0 gc0 : Nat) (x1 : ByteArray) (p1 : Int) (b1 : Option Addr) (bn1 bc1 : Nat) (g1 : Option Addr) (gn1 gc1 : Nat) (m c : Int) (bad0 gap0 bad1 gap1 : List Int) (h_bn0 : Hid (bn0 = bad0.length)) (h_gn0 : Hid (gn0 = gap0.length)) (h_bn1 : Hid (bn1 = bad1.length)) (h_gn1 : Hid (gn1 = gap1.length)) (l_bn0 : bn0 ≤ 1000000000) (l_gn0 : gn0 ≤ 1000000000) (l_bn1 : bn1 ≤ 1000000000) (l_gn1 : gn1 ≤ 1000000000) (w : World) (hR0 : IRow w b0 bad0 ∧ bn0 ≤ bc0 ∧ IRow w g0 gap0 ∧ gn0 ≤ gc0 ∧ IRow w b1 bad1 ∧ bn1 ≤ bc1 ∧ IRow w g1 gap1 ∧ gn1 ≤ gc1) (hat : 0 ≤ m) (hae : (x1.size : Int) < m) :
    Calls Try.prog 29 #[.agg #[.string x0, .int .i64 p0, .slice b0 bn0 bc0, .slice g0 gn0 gc0, .string x1, .int .i64 p1, .slice b1 bn1 bc1, .slice g1 gn1 gc1, .bool true], .int .i64 1, .int .i64 m, .int .u8 c] w fun e w' => RPost (x0) (p0) (bn0) (gn0) (x1) (p1) (bn1) (gn1) (true) (bad0) (gap0) (bad1) (gap1) (.int .i64 6) w e w' := by
  have HWy : Hid (∀ W, Calls Try.prog 37 #[.int .i64 1] W fun e w' => e = .returned (.bool true) ∧ W = w') := fun W => (rway_any 1 W).mono fun e w' h => ⟨h.1, h.2.symm⟩
  have d0 : decide (m < 0) = false := by simp only [decide_eq_false_iff_not]; omega
  have d1 : decide ((x1.size : Int) < m) = true := by simp only [decide_eq_true_eq]; exact hae
  obtain ⟨s_b0, q_b0, s_g0, q_g0, s_b1, q_b1, s_g1, q_g1⟩ := hR0
  have HO : Hid (∀ W, Below w.heap.size w W → Calls Try.prog 44 #[.agg #[.string x0, .int .i64 p0, .slice b0 bn0 bc0, .slice g0 gn0 gc0, .string x1, .int .i64 p1, .slice b1 bn1 bc1, .slice g1 gn1 gc1, .bool true]] W fun e w' => OwnPost x0 p0 bn0 gn0 x1 p1 bn1 gn1 true bad0 gap0 bad1 gap1 W e w') := fun W hW => rown_cells x0 p0 b0 bn0 bc0 g0 gn0 gc0 x1 p1 b1 bn1 bc1 g1 gn1 gc1 true bad0 gap0 bad1 gap1 W h_bn0 h_gn0 h_bn1 h_gn1 l_bn0 l_gn0 l_bn1 l_gn1 ⟨s_b0.below hW, q_b0, s_g0.below hW, q_g0, s_b1.below hW, q_b1, s_g1.below hW, q_g1⟩
  clear s_b0 q_b0 s_g0 q_g0 s_b1 q_b1 s_g1 q_g1
  have kB1 : Rg.Bk w.heap.size [.string x0, .int .i64 p0, .slice b0 bn0 bc0, .slice g0 gn0 gc0, .string x1, .int .i64 p1, .slice b1 bn1 bc1, .slice g1 gn1 gc1, .bool true] 30 ((w.alloc (.cells #[.string x0, .int .i64 p0, .slice b0 bn0 bc0, .slice g0 gn0 gc0, .string x1, .int .i64 p1, .slice b1 bn1 bc1, .slice g1 gn1 gc1, .bool true] 30)).alloc (.cells #[.string ⟨#[]⟩, .int .i64 0, .slice none 0 0, .slice none 0 0, .string ⟨#[]⟩, .int .i64 0, .slice none 0 0, .slice none 0 0, .bool false] 30)) := (Rg.Bk.new rfl).old _
  have kR1 : Rg.Bk (w.heap.size + 1) [.string ⟨#[]⟩, .int .i64 0, .slice none 0 0, .slice none 0 0, .string ⟨#[]⟩, .int .i64 0, .slice none 0 0, .slice none 0 0, .bool false] 30 ((w.alloc (.cells #[.string x0, .int .i64 p0, .slice b0 bn0 bc0, .slice g0 gn0 gc0, .string x1, .int .i64 p1, .slice b1 bn1 bc1, .slice g1 gn1 gc1, .bool true] 30)).alloc (.cells #[.string ⟨#[]⟩, .int .i64 0, .slice none 0 0, .slice none 0 0, .string ⟨#[]⟩, .int .i64 0, .slice none 0 0, .slice none 0 0, .bool false] 30)) := Rg.Bk.new (by simp)
  have hb1 := Rg.al2 w (.cells #[.string x0, .int .i64 p0, .slice b0 bn0 bc0, .slice g0 gn0 gc0, .string x1, .int .i64 p1, .slice b1 bn1 bc1, .slice g1 gn1 gc1, .bool true] 30) (.cells #[.string ⟨#[]⟩, .int .i64 0, .slice none 0 0, .slice none 0 0, .string ⟨#[]⟩, .int .i64 0, .slice none 0 0, .slice none 0 0, .bool false] 30)
  go_enter Try.func29, Try.ntmps29
  go_upto_region 1 with fail
  generalize World.alloc _ _ = w1 at *
  obtain ⟨B, hB⟩ : ∃ B, B = w.heap.size := ⟨_, rfl⟩
  obtain ⟨R, hR⟩ : ∃ R, R = w.heap.size + 1 := ⟨_, rfl⟩
  rw [← hR] at kR1 ⊢
  rw [← hB] at kB1 ⊢
  have hBR : B ≠ R := by omega
  have hBw : w.heap.size ≤ B := by omega
  have hRw : w.heap.size ≤ R := by omega
  clear hB hR
  have z0 : w1.cell? ⟨B, 0, none⟩ = some (.string x0) := kB1.cell 0
  have z1 : w1.cell? ⟨B, 1, none⟩ = some (.int .i64 p0) := kB1.cell 1
  have z2 : w1.cell? ⟨B, 2, none⟩ = some (.slice b0 bn0 bc0) := kB1.cell 2
  have z3 : w1.cell? ⟨B, 3, none⟩ = some (.slice g0 gn0 gc0) := kB1.cell 3
  have z4 : w1.cell? ⟨B, 4, none⟩ = some (.string x1) := kB1.cell 4
  have z5 : w1.cell? ⟨B, 5, none⟩ = some (.int .i64 p1) := kB1.cell 5
  have z6 : w1.cell? ⟨B, 6, none⟩ = some (.slice b1 bn1 bc1) := kB1.cell 6
  have z7 : w1.cell? ⟨B, 7, none⟩ = some (.slice g1 gn1 gc1) := kB1.cell 7
  have z8 : w1.cell? ⟨B, 8, none⟩ = some (.bool true) := kB1.cell 8
  replace kB1 := Rg.hid kB1
  replace kR1 := Rg.hid kR1
  replace hb1 := Rg.hid hb1
  go_upto_region 2 with (go_at_call 44; refine (HO.out _ hb1.out).mono ?_; rintro e w2 ⟨b0', bc0', g0', gc0', b1', bc1', g1', gc1', rfl, ⟨r_b0, q_b0, r_g0, q_g0, r_b1, q_b1, r_g1, q_g1⟩, b2⟩; have kB2 := kB1.out.below b2 kB1.out.lt; have y0 := kB2.cell 0; have y1 := kB2.cell 1; have y2 := kB2.cell 2; have y3 := kB2.cell 3; have y4 := kB2.cell 4; have y5 := kB2.cell 5; have y6 := kB2.cell 6; have y7 := kB2.cell 7; have y8 := kB2.cell 8; simp only [List.getElem?_cons_zero, List.getElem?_cons_succ] at y0 y1 y2 y3 y4 y5 y6 y7 y8; have yf := kB2.thaw)
  obtain ⟨kB3, oB⟩ := ret9 kB2 rfl (.string x0) (.int .i64 p0) (.slice b0' bn0 bc0') (.slice g0' gn0 gc0') (.string x1) (.int .i64 p1) (.slice b1' bn1 bc1') (.slice g1' gn1 gc1') (.bool true)
  replace r_b0 := Rg.hid (r_b0.only kB2 line_int oB)
  replace r_g0 := Rg.hid (r_g0.only kB2 line_int oB)
  replace r_b1 := Rg.hid (r_b1.only kB2 line_int oB)
  replace r_g1 := Rg.hid (r_g1.only kB2 line_int oB)
  have kR3 := (kR1.out.below b2 kR1.out.lt).same (oB.block _ (Ne.symm hBR))
  have hb3 := Rg.hid ((Rg.chain hb1.out b2).trans (oB.bel hBw))
  clear kB1 kR1 hb1 kB2 oB b2 yf y0 y1 y2 y3 y4 y5 y6 y7 y8 z0 z1 z2 z3 z4 z5 z6 z7 z8 HO
  generalize World.setCell _ _ _ = w3 at *
  have u8 : w3.cell? ⟨B, 8, none⟩ = some (.bool true) := kB3.cell 8
  have u0 : w3.cell? ⟨B, 4, none⟩ = some (.string x1) := kB3.cell 4
  replace kB3 := Rg.hid kB3
  replace kR3 := Rg.hid kR3
  go_upto_region 3 with (go_at_call 37; refine (HWy.out _).mono ?_; rintro e w9 ⟨rfl, rfl⟩)
  clear HWy u8 u0
  replace kB3 := kB3.out
  replace kR3 := kR3.out
  obtain ⟨kE, oE⟩ := ret9 kR3 rfl (.string x0) (.int .i64 p0) (.slice b0' bn0 bc0') (.slice g0' gn0 gc0') (.string x1) (.int .i64 p1) (.slice b1' bn1 bc1') (.slice g1' gn1 gc1') (.bool true)
  have post := Rg.hid ((⟨_, _, _, _, _, _, _, _, rfl, ⟨r_b0.out.only kR3 line_int oE, q_b0, r_g0.out.only kR3 line_int oE, q_g0, r_b1.out.only kR3 line_int oE, q_b1, r_g1.out.only kR3 line_int oE, q_g1⟩, hb3.out.trans (oE.bel hRw)⟩ : RPost (x0) (p0) (bn0) (gn0) (x1) (p1) (bn1) (gn1) (true) (bad0) (gap0) (bad1) (gap1) (.int .i64 6) w (.returned (.tuple #[.agg #[.string x0, .int .i64 p0, .slice b0' bn0 bc0', .slice g0' gn0 gc0', .string x1, .int .i64 p1, .slice b1' bn1 bc1', .slice g1' gn1 gc1', .bool true], .int .i64 6])) _))
  replace kE := Rg.hid kE
  have d0' : w3.cell? ⟨B, 0, none⟩ = some (.string x0) := kB3.cell 0
  have d1' : w3.cell? ⟨B, 1, none⟩ = some (.int .i64 p0) := kB3.cell 1
  have d2' : w3.cell? ⟨B, 2, none⟩ = some (.slice b0' bn0 bc0') := kB3.cell 2
  have d3' : w3.cell? ⟨B, 3, none⟩ = some (.slice g0' gn0 gc0') := kB3.cell 3
  have d4' : w3.cell? ⟨B, 4, none⟩ = some (.string x1) := kB3.cell 4
  have d5' : w3.cell? ⟨B, 5, none⟩ = some (.int .i64 p1) := kB3.cell 5
  have d6' : w3.cell? ⟨B, 6, none⟩ = some (.slice b1' bn1 bc1') := kB3.cell 6
  have d7' : w3.cell? ⟨B, 7, none⟩ = some (.slice g1' gn1 gc1') := kB3.cell 7
  have d8' : w3.cell? ⟨B, 8, none⟩ = some (.bool true) := kB3.cell 8
  have r0 : w3.cell? ⟨R, 0, none⟩ = some (.string ⟨#[]⟩) := kR3.cell 0
  have r1 : w3.cell? ⟨R, 1, none⟩ = some (.int .i64 0) := kR3.cell 1
  have r2 : w3.cell? ⟨R, 2, none⟩ = some (.slice none 0 0) := kR3.cell 2
  have r3 : w3.cell? ⟨R, 3, none⟩ = some (.slice none 0 0) := kR3.cell 3
  have r4 : w3.cell? ⟨R, 4, none⟩ = some (.string ⟨#[]⟩) := kR3.cell 4
  have r5 : w3.cell? ⟨R, 5, none⟩ = some (.int .i64 0) := kR3.cell 5
  have r6 : w3.cell? ⟨R, 6, none⟩ = some (.slice none 0 0) := kR3.cell 6
  have r7 : w3.cell? ⟨R, 7, none⟩ = some (.slice none 0 0) := kR3.cell 7
  have r8 : w3.cell? ⟨R, 8, none⟩ = some (.bool false) := kR3.cell 8
  have rf := kR3.thaw
  clear oE kR3 kB3 hb3
  go_wp2
  replace kE := kE.out
  replace post := post.out
  generalize World.setCell _ _ _ = WE at *
  exact bodyPost_ret (v := .tuple #[.agg #[.string x0, .int .i64 p0, .slice b0' bn0 bc0', .slice g0' gn0 gc0', .string x1, .int .i64 p1, .slice b1' bn1 bc1', .slice g1' gn1 gc1', .bool true], .int .i64 6]) (by simp [results, Try.results29, go_sem, kE.cell]) rfl post

set_option maxHeartbeats 1000000 in
set_option maxRecDepth 100000 in
theorem radd_full1 (x0 : ByteArray) (p0 : Int) (b0 : Option Addr) (bn0 bc0 : Nat) (g0 : Option Addr) (gn0 gc0 : Nat) (x1 : ByteArray) (p1 : Int) (b1 : Option Addr) (bn1 bc1 : Nat) (g1 : Option Addr) (gn1 gc1 : Nat) (m c : Int) (bad0 gap0 bad1 gap1 : List Int) (h_bn0 : Hid (bn0 = bad0.length)) (h_gn0 : Hid (gn0 = gap0.length)) (h_bn1 : Hid (bn1 = bad1.length)) (h_gn1 : Hid (gn1 = gap1.length)) (l_bn0 : bn0 ≤ 1000000000) (l_gn0 : gn0 ≤ 1000000000) (l_bn1 : bn1 ≤ 1000000000) (l_gn1 : gn1 ≤ 1000000000) (w : World) (hR0 : IRow w b0 bad0 ∧ bn0 ≤ bc0 ∧ IRow w g0 gap0 ∧ gn0 ≤ gc0 ∧ IRow w b1 bad1 ∧ bn1 ≤ bc1 ∧ IRow w g1 gap1 ∧ gn1 ≤ gc1) (hat : 0 ≤ m) (hae : m ≤ (x1.size : Int)) (hf : 40000 ≤ x1.size) :
    Calls Try.prog 29 #[.agg #[.string x0, .int .i64 p0, .slice b0 bn0 bc0, .slice g0 gn0 gc0, .string x1, .int .i64 p1, .slice b1 bn1 bc1, .slice g1 gn1 gc1, .bool true], .int .i64 1, .int .i64 m, .int .u8 c] w fun e w' => RPost (x0) (p0) (bn0) (gn0) (x1) (p1) (bn1) (gn1) (true) (bad0) (gap0) (bad1) (gap1) (.int .i64 8) w e w' := by
  have HWy : Hid (∀ W, Calls Try.prog 37 #[.int .i64 1] W fun e w' => e = .returned (.bool true) ∧ W = w') := fun W => (rway_any 1 W).mono fun e w' h => ⟨h.1, h.2.symm⟩
  have d0 : decide (m < 0) = false := by simp only [decide_eq_false_iff_not]; omega
  have d1 : decide ((x1.size : Int) < m) = false := by simp only [decide_eq_false_iff_not]; omega
  have d2 : decide ((40000 : Int) ≤ (x1.size : Int)) = true := by simp only [decide_eq_true_eq]; omega
  obtain ⟨s_b0, q_b0, s_g0, q_g0, s_b1, q_b1, s_g1, q_g1⟩ := hR0
  have HO : Hid (∀ W, Below w.heap.size w W → Calls Try.prog 44 #[.agg #[.string x0, .int .i64 p0, .slice b0 bn0 bc0, .slice g0 gn0 gc0, .string x1, .int .i64 p1, .slice b1 bn1 bc1, .slice g1 gn1 gc1, .bool true]] W fun e w' => OwnPost x0 p0 bn0 gn0 x1 p1 bn1 gn1 true bad0 gap0 bad1 gap1 W e w') := fun W hW => rown_cells x0 p0 b0 bn0 bc0 g0 gn0 gc0 x1 p1 b1 bn1 bc1 g1 gn1 gc1 true bad0 gap0 bad1 gap1 W h_bn0 h_gn0 h_bn1 h_gn1 l_bn0 l_gn0 l_bn1 l_gn1 ⟨s_b0.below hW, q_b0, s_g0.below hW, q_g0, s_b1.below hW, q_b1, s_g1.below hW, q_g1⟩
  clear s_b0 q_b0 s_g0 q_g0 s_b1 q_b1 s_g1 q_g1
  have kB1 : Rg.Bk w.heap.size [.string x0, .int .i64 p0, .slice b0 bn0 bc0, .slice g0 gn0 gc0, .string x1, .int .i64 p1, .slice b1 bn1 bc1, .slice g1 gn1 gc1, .bool true] 30 ((w.alloc (.cells #[.string x0, .int .i64 p0, .slice b0 bn0 bc0, .slice g0 gn0 gc0, .string x1, .int .i64 p1, .slice b1 bn1 bc1, .slice g1 gn1 gc1, .bool true] 30)).alloc (.cells #[.string ⟨#[]⟩, .int .i64 0, .slice none 0 0, .slice none 0 0, .string ⟨#[]⟩, .int .i64 0, .slice none 0 0, .slice none 0 0, .bool false] 30)) := (Rg.Bk.new rfl).old _
  have kR1 : Rg.Bk (w.heap.size + 1) [.string ⟨#[]⟩, .int .i64 0, .slice none 0 0, .slice none 0 0, .string ⟨#[]⟩, .int .i64 0, .slice none 0 0, .slice none 0 0, .bool false] 30 ((w.alloc (.cells #[.string x0, .int .i64 p0, .slice b0 bn0 bc0, .slice g0 gn0 gc0, .string x1, .int .i64 p1, .slice b1 bn1 bc1, .slice g1 gn1 gc1, .bool true] 30)).alloc (.cells #[.string ⟨#[]⟩, .int .i64 0, .slice none 0 0, .slice none 0 0, .string ⟨#[]⟩, .int .i64 0, .slice none 0 0, .slice none 0 0, .bool false] 30)) := Rg.Bk.new (by simp)
  have hb1 := Rg.al2 w (.cells #[.string x0, .int .i64 p0, .slice b0 bn0 bc0, .slice g0 gn0 gc0, .string x1, .int .i64 p1, .slice b1 bn1 bc1, .slice g1 gn1 gc1, .bool true] 30) (.cells #[.string ⟨#[]⟩, .int .i64 0, .slice none 0 0, .slice none 0 0, .string ⟨#[]⟩, .int .i64 0, .slice none 0 0, .slice none 0 0, .bool false] 30)
  go_enter Try.func29, Try.ntmps29
  go_upto_region 1 with fail
  generalize World.alloc _ _ = w1 at *
  obtain ⟨B, hB⟩ : ∃ B, B = w.heap.size := ⟨_, rfl⟩
  obtain ⟨R, hR⟩ : ∃ R, R = w.heap.size + 1 := ⟨_, rfl⟩
  rw [← hR] at kR1 ⊢
  rw [← hB] at kB1 ⊢
  have hBR : B ≠ R := by omega
  have hBw : w.heap.size ≤ B := by omega
  have hRw : w.heap.size ≤ R := by omega
  clear hB hR
  have z0 : w1.cell? ⟨B, 0, none⟩ = some (.string x0) := kB1.cell 0
  have z1 : w1.cell? ⟨B, 1, none⟩ = some (.int .i64 p0) := kB1.cell 1
  have z2 : w1.cell? ⟨B, 2, none⟩ = some (.slice b0 bn0 bc0) := kB1.cell 2
  have z3 : w1.cell? ⟨B, 3, none⟩ = some (.slice g0 gn0 gc0) := kB1.cell 3
  have z4 : w1.cell? ⟨B, 4, none⟩ = some (.string x1) := kB1.cell 4
  have z5 : w1.cell? ⟨B, 5, none⟩ = some (.int .i64 p1) := kB1.cell 5
  have z6 : w1.cell? ⟨B, 6, none⟩ = some (.slice b1 bn1 bc1) := kB1.cell 6
  have z7 : w1.cell? ⟨B, 7, none⟩ = some (.slice g1 gn1 gc1) := kB1.cell 7
  have z8 : w1.cell? ⟨B, 8, none⟩ = some (.bool true) := kB1.cell 8
  replace kB1 := Rg.hid kB1
  replace kR1 := Rg.hid kR1
  replace hb1 := Rg.hid hb1
  go_upto_region 2 with (go_at_call 44; refine (HO.out _ hb1.out).mono ?_; rintro e w2 ⟨b0', bc0', g0', gc0', b1', bc1', g1', gc1', rfl, ⟨r_b0, q_b0, r_g0, q_g0, r_b1, q_b1, r_g1, q_g1⟩, b2⟩; have kB2 := kB1.out.below b2 kB1.out.lt; have y0 := kB2.cell 0; have y1 := kB2.cell 1; have y2 := kB2.cell 2; have y3 := kB2.cell 3; have y4 := kB2.cell 4; have y5 := kB2.cell 5; have y6 := kB2.cell 6; have y7 := kB2.cell 7; have y8 := kB2.cell 8; simp only [List.getElem?_cons_zero, List.getElem?_cons_succ] at y0 y1 y2 y3 y4 y5 y6 y7 y8; have yf := kB2.thaw)
  obtain ⟨kB3, oB⟩ := ret9 kB2 rfl (.string x0) (.int .i64 p0) (.slice b0' bn0 bc0') (.slice g0' gn0 gc0') (.string x1) (.int .i64 p1) (.slice b1' bn1 bc1') (.slice g1' gn1 gc1') (.bool true)
  replace r_b0 := Rg.hid (r_b0.only kB2 line_int oB)
  replace r_g0 := Rg.hid (r_g0.only kB2 line_int oB)
  replace r_b1 := Rg.hid (r_b1.only kB2 line_int oB)
  replace r_g1 := Rg.hid (r_g1.only kB2 line_int oB)
  have kR3 := (kR1.out.below b2 kR1.out.lt).same (oB.block _ (Ne.symm hBR))
  have hb3 := Rg.hid ((Rg.chain hb1.out b2).trans (oB.bel hBw))
  clear kB1 kR1 hb1 kB2 oB b2 yf y0 y1 y2 y3 y4 y5 y6 y7 y8 z0 z1 z2 z3 z4 z5 z6 z7 z8 HO
  generalize World.setCell _ _ _ = w3 at *
  have u8 : w3.cell? ⟨B, 8, none⟩ = some (.bool true) := kB3.cell 8
  have u0 : w3.cell? ⟨B, 4, none⟩ = some (.string x1) := kB3.cell 4
  replace kB3 := Rg.hid kB3
  replace kR3 := Rg.hid kR3
  go_upto_region 5 with (go_at_call 37; refine (HWy.out _).mono ?_; rintro e w9 ⟨rfl, rfl⟩)
  clear HWy u8 u0
  replace kB3 := kB3.out
  replace kR3 := kR3.out
  obtain ⟨kE, oE⟩ := ret9 kR3 rfl (.string x0) (.int .i64 p0) (.slice b0' bn0 bc0') (.slice g0' gn0 gc0') (.string x1) (.int .i64 p1) (.slice b1' bn1 bc1') (.slice g1' gn1 gc1') (.bool true)
  have post := Rg.hid ((⟨_, _, _, _, _, _, _, _, rfl, ⟨r_b0.out.only kR3 line_int oE, q_b0, r_g0.out.only kR3 line_int oE, q_g0, r_b1.out.only kR3 line_int oE, q_b1, r_g1.out.only kR3 line_int oE, q_g1⟩, hb3.out.trans (oE.bel hRw)⟩ : RPost (x0) (p0) (bn0) (gn0) (x1) (p1) (bn1) (gn1) (true) (bad0) (gap0) (bad1) (gap1) (.int .i64 8) w (.returned (.tuple #[.agg #[.string x0, .int .i64 p0, .slice b0' bn0 bc0', .slice g0' gn0 gc0', .string x1, .int .i64 p1, .slice b1' bn1 bc1', .slice g1' gn1 gc1', .bool true], .int .i64 8])) _))
  replace kE := Rg.hid kE
  have d0' : w3.cell? ⟨B, 0, none⟩ = some (.string x0) := kB3.cell 0
  have d1' : w3.cell? ⟨B, 1, none⟩ = some (.int .i64 p0) := kB3.cell 1
  have d2' : w3.cell? ⟨B, 2, none⟩ = some (.slice b0' bn0 bc0') := kB3.cell 2
  have d3' : w3.cell? ⟨B, 3, none⟩ = some (.slice g0' gn0 gc0') := kB3.cell 3
  have d4' : w3.cell? ⟨B, 4, none⟩ = some (.string x1) := kB3.cell 4
  have d5' : w3.cell? ⟨B, 5, none⟩ = some (.int .i64 p1) := kB3.cell 5
  have d6' : w3.cell? ⟨B, 6, none⟩ = some (.slice b1' bn1 bc1') := kB3.cell 6
  have d7' : w3.cell? ⟨B, 7, none⟩ = some (.slice g1' gn1 gc1') := kB3.cell 7
  have d8' : w3.cell? ⟨B, 8, none⟩ = some (.bool true) := kB3.cell 8
  have r0 : w3.cell? ⟨R, 0, none⟩ = some (.string ⟨#[]⟩) := kR3.cell 0
  have r1 : w3.cell? ⟨R, 1, none⟩ = some (.int .i64 0) := kR3.cell 1
  have r2 : w3.cell? ⟨R, 2, none⟩ = some (.slice none 0 0) := kR3.cell 2
  have r3 : w3.cell? ⟨R, 3, none⟩ = some (.slice none 0 0) := kR3.cell 3
  have r4 : w3.cell? ⟨R, 4, none⟩ = some (.string ⟨#[]⟩) := kR3.cell 4
  have r5 : w3.cell? ⟨R, 5, none⟩ = some (.int .i64 0) := kR3.cell 5
  have r6 : w3.cell? ⟨R, 6, none⟩ = some (.slice none 0 0) := kR3.cell 6
  have r7 : w3.cell? ⟨R, 7, none⟩ = some (.slice none 0 0) := kR3.cell 7
  have r8 : w3.cell? ⟨R, 8, none⟩ = some (.bool false) := kR3.cell 8
  have rf := kR3.thaw
  clear oE kR3 kB3 hb3
  go_wp2
  replace kE := kE.out
  replace post := post.out
  generalize World.setCell _ _ _ = WE at *
  exact bodyPost_ret (v := .tuple #[.agg #[.string x0, .int .i64 p0, .slice b0' bn0 bc0', .slice g0' gn0 gc0', .string x1, .int .i64 p1, .slice b1' bn1 bc1', .slice g1' gn1 gc1', .bool true], .int .i64 8]) (by simp [results, Try.results29, go_sem, kE.cell]) rfl post
end Go.Proofs.Ytalleocmnnnchaa
