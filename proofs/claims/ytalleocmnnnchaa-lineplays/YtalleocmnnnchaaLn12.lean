/-
  Layer 7: what Lose, Flip and Add refuse; Open.
-/
import Derived.Test.YtalleocmnnnchaaLn10
namespace Go.Proofs.Ytalleocmnnnchaa
open Go.RowKit

set_option maxHeartbeats 1000000 in
set_option maxRecDepth 100000 in
theorem llose_bad (x0 : ByteArray) (p0 : Int) (b0 : Option Addr) (bn0 bc0 : Nat) (g0 : Option Addr) (gn0 gc0 : Nat) (x1 : ByteArray) (p1 : Int) (b1 : Option Addr) (bn1 bc1 : Nat) (g1 : Option Addr) (gn1 gc1 : Nat) (up : Bool) (n : Int) (m : Int) (w : World) (h0 : n ≠ 0) (h1 : n ≠ 1) :
    Calls Try.prog 21 #[.agg #[.string x0, .int .i64 p0, .slice b0 bn0 bc0, .slice g0 gn0 gc0, .string x1, .int .i64 p1, .slice b1 bn1 bc1, .slice g1 gn1 gc1, .bool up], .int .i64 n, .int .i64 m] w fun e w' => e = .returned (.tuple #[.agg #[.string x0, .int .i64 p0, .slice b0 bn0 bc0, .slice g0 gn0 gc0, .string x1, .int .i64 p1, .slice b1 bn1 bc1, .slice g1 gn1 gc1, .bool up], .int .i64 6]) ∧ Below w.heap.size w w' := by
  have HC : Hid (∀ W, Calls Try.prog 38 #[.agg #[.string x0, .int .i64 p0, .slice b0 bn0 bc0, .slice g0 gn0 gc0, .string x1, .int .i64 p1, .slice b1 bn1 bc1, .slice g1 gn1 gc1, .bool up], .int .i64 n] W fun e w' => e = .returned (.bool false) ∧ Below W.heap.size W w') := fun W => lcarries_bad x0 p0 b0 bn0 bc0 g0 gn0 gc0 x1 p1 b1 bn1 bc1 g1 gn1 gc1 up n W h0 h1
  have kB1 : Rg.Bk w.heap.size [.string x0, .int .i64 p0, .slice b0 bn0 bc0, .slice g0 gn0 gc0, .string x1, .int .i64 p1, .slice b1 bn1 bc1, .slice g1 gn1 gc1, .bool up] 30 ((w.alloc (.cells #[.string x0, .int .i64 p0, .slice b0 bn0 bc0, .slice g0 gn0 gc0, .string x1, .int .i64 p1, .slice b1 bn1 bc1, .slice g1 gn1 gc1, .bool up] 30)).alloc (.cells #[.string ⟨#[]⟩, .int .i64 0, .slice none 0 0, .slice none 0 0, .string ⟨#[]⟩, .int .i64 0, .slice none 0 0, .slice none 0 0, .bool false] 30)) := (Rg.Bk.new rfl).old _
  have kR1 : Rg.Bk (w.heap.size + 1) [.string ⟨#[]⟩, .int .i64 0, .slice none 0 0, .slice none 0 0, .string ⟨#[]⟩, .int .i64 0, .slice none 0 0, .slice none 0 0, .bool false] 30 ((w.alloc (.cells #[.string x0, .int .i64 p0, .slice b0 bn0 bc0, .slice g0 gn0 gc0, .string x1, .int .i64 p1, .slice b1 bn1 bc1, .slice g1 gn1 gc1, .bool up] 30)).alloc (.cells #[.string ⟨#[]⟩, .int .i64 0, .slice none 0 0, .slice none 0 0, .string ⟨#[]⟩, .int .i64 0, .slice none 0 0, .slice none 0 0, .bool false] 30)) := Rg.Bk.new (by simp)
  have hb1 := Rg.al2 w (.cells #[.string x0, .int .i64 p0, .slice b0 bn0 bc0, .slice g0 gn0 gc0, .string x1, .int .i64 p1, .slice b1 bn1 bc1, .slice g1 gn1 gc1, .bool up] 30) (.cells #[.string ⟨#[]⟩, .int .i64 0, .slice none 0 0, .slice none 0 0, .string ⟨#[]⟩, .int .i64 0, .slice none 0 0, .slice none 0 0, .bool false] 30)
  go_enter Try.func21, Try.ntmps21
  go_upto_region 1 with fail
  generalize World.alloc _ _ = w1 at *
  obtain ⟨B, hB⟩ : ∃ B, B = w.heap.size := ⟨_, rfl⟩
  obtain ⟨R, hR⟩ : ∃ R, R = w.heap.size + 1 := ⟨_, rfl⟩
  rw [← hR] at kR1 ⊢
  rw [← hB] at kB1 ⊢
  have hBR : B ≠ R := by omega
  have hBw : w.heap.size ≤ B := by omega
  have hRw : w.heap.size ≤ R := by omega
  clear hB hR
  have z0 : w1.cell? ⟨B, 0, none⟩ = some (.string x0) := kB1.cell 0
  have z1 : w1.cell? ⟨B, 1, none⟩ = some (.int .i64 p0) := kB1.cell 1
  have z2 : w1.cell? ⟨B, 2, none⟩ = some (.slice b0 bn0 bc0) := kB1.cell 2
  have z3 : w1.cell? ⟨B, 3, none⟩ = some (.slice g0 gn0 gc0) := kB1.cell 3
  have z4 : w1.cell? ⟨B, 4, none⟩ = some (.string x1) := kB1.cell 4
  have z5 : w1.cell? ⟨B, 5, none⟩ = some (.int .i64 p1) := kB1.cell 5
  have z6 : w1.cell? ⟨B, 6, none⟩ = some (.slice b1 bn1 bc1) := kB1.cell 6
  have z7 : w1.cell? ⟨B, 7, none⟩ = some (.slice g1 gn1 gc1) := kB1.cell 7
  have z8 : w1.cell? ⟨B, 8, none⟩ = some (.bool up) := kB1.cell 8
  have kB1' := Rg.hid kB1
  have kR1' := Rg.hid kR1
  have hb1' := Rg.hid hb1
  clear kB1 kR1 hb1
  go_upto_region 2 with (go_at_call 38; refine (HC.out _).mono ?_; rintro e w2 ⟨rfl, b2⟩)
  have kB3 := kB1'.out.below b2 kB1'.out.lt
  have kR3 := kR1'.out.below b2 kR1'.out.lt
  have hb3' := Rg.chain hb1'.out b2
  clear kB1' kR1' hb1' b2 HC z0 z1 z2 z3 z4 z5 z6 z7 z8
  obtain ⟨w3, hw3⟩ : ∃ w3, w3 = w2 := ⟨_, rfl⟩
  subst hw3
  have hb3 := Rg.hid hb3'
  obtain ⟨kE, oE⟩ := ret9 kR3 rfl (.string x0) (.int .i64 p0) (.slice b0 bn0 bc0) (.slice g0 gn0 gc0) (.string x1) (.int .i64 p1) (.slice b1 bn1 bc1) (.slice g1 gn1 gc1) (.bool up)
  have post := Rg.hid (hb3.out.trans (oE.bel hRw))
  replace kE := Rg.hid kE
  have d0' : w3.cell? ⟨B, 0, none⟩ = some (.string x0) := kB3.cell 0
  have d1' : w3.cell? ⟨B, 1, none⟩ = some (.int .i64 p0) := kB3.cell 1
  have d2' : w3.cell? ⟨B, 2, none⟩ = some (.slice b0 bn0 bc0) := kB3.cell 2
  have d3' : w3.cell? ⟨B, 3, none⟩ = some (.slice g0 gn0 gc0) := kB3.cell 3
  have d4' : w3.cell? ⟨B, 4, none⟩ = some (.string x1) := kB3.cell 4
  have d5' : w3.cell? ⟨B, 5, none⟩ = some (.int .i64 p1) := kB3.cell 5
  have d6' : w3.cell? ⟨B, 6, none⟩ = some (.slice b1 bn1 bc1) := kB3.cell 6
  have d7' : w3.cell? ⟨B, 7, none⟩ = some (.slice g1 gn1 gc1) := kB3.cell 7
  have d8' : w3.cell? ⟨B, 8, none⟩ = some (.bool up) := kB3.cell 8
  have r0 : w3.cell? ⟨R, 0, none⟩ = some (.string ⟨#[]⟩) := kR3.cell 0
  have r1 : w3.cell? ⟨R, 1, none⟩ = some (.int .i64 0) := kR3.cell 1
  have r2 : w3.cell? ⟨R, 2, none⟩ = some (.slice none 0 0) := kR3.cell 2
  have r3 : w3.cell? ⟨R, 3, none⟩ = some (.slice none 0 0) := kR3.cell 3
  have r4 : w3.cell? ⟨R, 4, none⟩ = some (.string ⟨#[]⟩) := kR3.cell 4
  have r5 : w3.cell? ⟨R, 5, none⟩ = some (.int .i64 0) := kR3.cell 5
  have r6 : w3.cell? ⟨R, 6, none⟩ = some (.slice none 0 0) := kR3.cell 6
  have r7 : w3.cell? ⟨R, 7, none⟩ = some (.slice none 0 0) := kR3.cell 7
  have r8 : w3.cell? ⟨R, 8, none⟩ = some (.bool false) := kR3.cell 8
  have rf := kR3.thaw
  clear oE kR3 kB3 hb3
  go_wp2
  replace kE := kE.out
  replace post := post.out
  generalize World.setCell _ _ _ = WE at *
  exact bodyPost_ret (v := .tuple #[.agg #[.string x0, .int .i64 p0, .slice b0 bn0 bc0, .slice g0 gn0 gc0, .string x1, .int .i64 p1, .slice b1 bn1 bc1, .slice g1 gn1 gc1, .bool up], .int .i64 6]) (by simp [results, Try.results21, go_sem, kE.cell]) rfl ⟨rfl, post⟩

set_option maxHeartbeats 1000000 in
set_option maxRecDepth 100000 in
theorem llose_down0 (x0 : ByteArray) (p0 : Int) (b0 : Option Addr) (bn0 bc0 : Nat) (g0 : Option Addr) (gn0 gc0 : Nat) (x1 : ByteArray) (p1 : Int) (b1 : Option Addr) (bn1 bc1 : Nat) (g1 : Option Addr) (gn1 gc1 : Nat) (m : Int) (w : World)  :
    Calls Try.prog 21 #[.agg #[.string x0, .int .i64 p0, .slice b0 bn0 bc0, .slice g0 gn0 gc0, .string x1, .int .i64 p1, .slice b1 bn1 bc1, .slice g1 gn1 gc1, .bool false], .int .i64 0, .int .i64 m] w fun e w' => e = .returned (.tuple #[.agg #[.string x0, .int .i64 p0, .slice b0 bn0 bc0, .slice g0 gn0 gc0, .string x1, .int .i64 p1, .slice b1 bn1 bc1, .slice g1 gn1 gc1, .bool false], .int .i64 6]) ∧ Below w.heap.size w w' := by
  have HC : Hid (∀ W, Calls Try.prog 38 #[.agg #[.string x0, .int .i64 p0, .slice b0 bn0 bc0, .slice g0 gn0 gc0, .string x1, .int .i64 p1, .slice b1 bn1 bc1, .slice g1 gn1 gc1, .bool false], .int .i64 0] W fun e w' => e = .returned (.bool false) ∧ Below W.heap.size W w') := fun W => lcarries0 x0 p0 b0 bn0 bc0 g0 gn0 gc0 x1 p1 b1 bn1 bc1 g1 gn1 gc1 false W
  have kB1 : Rg.Bk w.heap.size [.string x0, .int .i64 p0, .slice b0 bn0 bc0, .slice g0 gn0 gc0, .string x1, .int .i64 p1, .slice b1 bn1 bc1, .slice g1 gn1 gc1, .bool false] 30 ((w.alloc (.cells #[.string x0, .int .i64 p0, .slice b0 bn0 bc0, .slice g0 gn0 gc0, .string x1, .int .i64 p1, .slice b1 bn1 bc1, .slice g1 gn1 gc1, .bool false] 30)).alloc (.cells #[.string ⟨#[]⟩, .int .i64 0, .slice none 0 0, .slice none 0 0, .string ⟨#[]⟩, .int .i64 0, .slice none 0 0, .slice none 0 0, .bool false] 30)) := (Rg.Bk.new rfl).old _
  have kR1 : Rg.Bk (w.heap.size + 1) [.string ⟨#[]⟩, .int .i64 0, .slice none 0 0, .slice none 0 0, .string ⟨#[]⟩, .int .i64 0, .slice none 0 0, .slice none 0 0, .bool false] 30 ((w.alloc (.cells #[.string x0, .int .i64 p0, .slice b0 bn0 bc0, .slice g0 gn0 gc0, .string x1, .int .i64 p1, .slice b1 bn1 bc1, .slice g1 gn1 gc1, .bool false] 30)).alloc (.cells #[.string ⟨#[]⟩, .int .i64 0, .slice none 0 0, .slice none 0 0, .string ⟨#[]⟩, .int .i64 0, .slice none 0 0, .slice none 0 0, .bool false] 30)) := Rg.Bk.new (by simp)
  have hb1 := Rg.al2 w (.cells #[.string x0, .int .i64 p0, .slice b0 bn0 bc0, .slice g0 gn0 gc0, .string x1, .int .i64 p1, .slice b1 bn1 bc1, .slice g1 gn1 gc1, .bool false] 30) (.cells #[.string ⟨#[]⟩, .int .i64 0, .slice none 0 0, .slice none 0 0, .string ⟨#[]⟩, .int .i64 0, .slice none 0 0, .slice none 0 0, .bool false] 30)
  go_enter Try.func21, Try.ntmps21
  go_upto_region 1 with fail
  generalize World.alloc _ _ = w1 at *
  obtain ⟨B, hB⟩ : ∃ B, B = w.heap.size := ⟨_, rfl⟩
  obtain ⟨R, hR⟩ : ∃ R, R = w.heap.size + 1 := ⟨_, rfl⟩
  rw [← hR] at kR1 ⊢
  rw [← hB] at kB1 ⊢
  have hBR : B ≠ R := by omega
  have hBw : w.heap.size ≤ B := by omega
  have hRw : w.heap.size ≤ R := by omega
  clear hB hR
  have z0 : w1.cell? ⟨B, 0, none⟩ = some (.string x0) := kB1.cell 0
  have z1 : w1.cell? ⟨B, 1, none⟩ = some (.int .i64 p0) := kB1.cell 1
  have z2 : w1.cell? ⟨B, 2, none⟩ = some (.slice b0 bn0 bc0) := kB1.cell 2
  have z3 : w1.cell? ⟨B, 3, none⟩ = some (.slice g0 gn0 gc0) := kB1.cell 3
  have z4 : w1.cell? ⟨B, 4, none⟩ = some (.string x1) := kB1.cell 4
  have z5 : w1.cell? ⟨B, 5, none⟩ = some (.int .i64 p1) := kB1.cell 5
  have z6 : w1.cell? ⟨B, 6, none⟩ = some (.slice b1 bn1 bc1) := kB1.cell 6
  have z7 : w1.cell? ⟨B, 7, none⟩ = some (.slice g1 gn1 gc1) := kB1.cell 7
  have z8 : w1.cell? ⟨B, 8, none⟩ = some (.bool false) := kB1.cell 8
  have kB1' := Rg.hid kB1
  have kR1' := Rg.hid kR1
  have hb1' := Rg.hid hb1
  clear kB1 kR1 hb1
  go_upto_region 2 with (go_at_call 38; refine (HC.out _).mono ?_; rintro e w2 ⟨rfl, b2⟩)
  have kB3 := kB1'.out.below b2 kB1'.out.lt
  have kR3 := kR1'.out.below b2 kR1'.out.lt
  have hb3' := Rg.chain hb1'.out b2
  clear kB1' kR1' hb1' b2 HC z0 z1 z2 z3 z4 z5 z6 z7 z8
  obtain ⟨w3, hw3⟩ : ∃ w3, w3 = w2 := ⟨_, rfl⟩
  subst hw3
  have hb3 := Rg.hid hb3'
  obtain ⟨kE, oE⟩ := ret9 kR3 rfl (.string x0) (.int .i64 p0) (.slice b0 bn0 bc0) (.slice g0 gn0 gc0) (.string x1) (.int .i64 p1) (.slice b1 bn1 bc1) (.slice g1 gn1 gc1) (.bool false)
  have post := Rg.hid (hb3.out.trans (oE.bel hRw))
  replace kE := Rg.hid kE
  have d0' : w3.cell? ⟨B, 0, none⟩ = some (.string x0) := kB3.cell 0
  have d1' : w3.cell? ⟨B, 1, none⟩ = some (.int .i64 p0) := kB3.cell 1
  have d2' : w3.cell? ⟨B, 2, none⟩ = some (.slice b0 bn0 bc0) := kB3.cell 2
  have d3' : w3.cell? ⟨B, 3, none⟩ = some (.slice g0 gn0 gc0) := kB3.cell 3
  have d4' : w3.cell? ⟨B, 4, none⟩ = some (.string x1) := kB3.cell 4
  have d5' : w3.cell? ⟨B, 5, none⟩ = some (.int .i64 p1) := kB3.cell 5
  have d6' : w3.cell? ⟨B, 6, none⟩ = some (.slice b1 bn1 bc1) := kB3.cell 6
  have d7' : w3.cell? ⟨B, 7, none⟩ = some (.slice g1 gn1 gc1) := kB3.cell 7
  have d8' : w3.cell? ⟨B, 8, none⟩ = some (.bool false) := kB3.cell 8
  have r0 : w3.cell? ⟨R, 0, none⟩ = some (.string ⟨#[]⟩) := kR3.cell 0
  have r1 : w3.cell? ⟨R, 1, none⟩ = some (.int .i64 0) := kR3.cell 1
  have r2 : w3.cell? ⟨R, 2, none⟩ = some (.slice none 0 0) := kR3.cell 2
  have r3 : w3.cell? ⟨R, 3, none⟩ = some (.slice none 0 0) := kR3.cell 3
  have r4 : w3.cell? ⟨R, 4, none⟩ = some (.string ⟨#[]⟩) := kR3.cell 4
  have r5 : w3.cell? ⟨R, 5, none⟩ = some (.int .i64 0) := kR3.cell 5
  have r6 : w3.cell? ⟨R, 6, none⟩ = some (.slice none 0 0) := kR3.cell 6
  have r7 : w3.cell? ⟨R, 7, none⟩ = some (.slice none 0 0) := kR3.cell 7
  have r8 : w3.cell? ⟨R, 8, none⟩ = some (.bool false) := kR3.cell 8
  have rf := kR3.thaw
  clear oE kR3 kB3 hb3
  go_wp2
  replace kE := kE.out
  replace post := post.out
  generalize World.setCell _ _ _ = WE at *
  exact bodyPost_ret (v := .tuple #[.agg #[.string x0, .int .i64 p0, .slice b0 bn0 bc0, .slice g0 gn0 gc0, .string x1, .int .i64 p1, .slice b1 bn1 bc1, .slice g1 gn1 gc1, .bool false], .int .i64 6]) (by simp [results, Try.results21, go_sem, kE.cell]) rfl ⟨rfl, post⟩

set_option maxHeartbeats 1000000 in
set_option maxRecDepth 100000 in
theorem llose_none0 (x0 : ByteArray) (p0 : Int) (b0 : Option Addr) (bn0 bc0 : Nat) (g0 : Option Addr) (gn0 gc0 : Nat) (x1 : ByteArray) (p1 : Int) (b1 : Option Addr) (bn1 bc1 : Nat) (g1 : Option Addr) (gn1 gc1 : Nat) (m : Int) (w : World) (hat : ¬ (0 ≤ m ∧ m < (x0.size : Int))) :
    Calls Try.prog 21 #[.agg #[.string x0, .int .i64 p0, .slice b0 bn0 bc0, .slice g0 gn0 gc0, .string x1, .int .i64 p1, .slice b1 bn1 bc1, .slice g1 gn1 gc1, .bool true], .int .i64 0, .int .i64 m] w fun e w' => e = .returned (.tuple #[.agg #[.string x0, .int .i64 p0, .slice b0 bn0 bc0, .slice g0 gn0 gc0, .string x1, .int .i64 p1, .slice b1 bn1 bc1, .slice g1 gn1 gc1, .bool true], .int .i64 6]) ∧ Below w.heap.size w w' := by
  have HC : Hid (∀ W, Calls Try.prog 38 #[.agg #[.string x0, .int .i64 p0, .slice b0 bn0 bc0, .slice g0 gn0 gc0, .string x1, .int .i64 p1, .slice b1 bn1 bc1, .slice g1 gn1 gc1, .bool true], .int .i64 0] W fun e w' => e = .returned (.bool true) ∧ Below W.heap.size W w') := fun W => lcarries0 x0 p0 b0 bn0 bc0 g0 gn0 gc0 x1 p1 b1 bn1 bc1 g1 gn1 gc1 true W
  have HU : Hid (∀ W, Calls Try.prog 39 #[.agg #[.string x0, .int .i64 p0, .slice b0 bn0 bc0, .slice g0 gn0 gc0], .int .i64 m] W fun e w' => e = .returned (.bool false) ∧ Below W.heap.size W w') := fun W => by
    have := lunder_any x0 p0 b0 bn0 bc0 g0 gn0 gc0 m W
    rw [show decide (0 ≤ m ∧ m < (x0.size : Int)) = false by simp; omega] at this
    exact this
  have kB1 : Rg.Bk w.heap.size [.string x0, .int .i64 p0, .slice b0 bn0 bc0, .slice g0 gn0 gc0, .string x1, .int .i64 p1, .slice b1 bn1 bc1, .slice g1 gn1 gc1, .bool true] 30 ((w.alloc (.cells #[.string x0, .int .i64 p0, .slice b0 bn0 bc0, .slice g0 gn0 gc0, .string x1, .int .i64 p1, .slice b1 bn1 bc1, .slice g1 gn1 gc1, .bool true] 30)).alloc (.cells #[.string ⟨#[]⟩, .int .i64 0, .slice none 0 0, .slice none 0 0, .string ⟨#[]⟩, .int .i64 0, .slice none 0 0, .slice none 0 0, .bool false] 30)) := (Rg.Bk.new rfl).old _
  have kR1 : Rg.Bk (w.heap.size + 1) [.string ⟨#[]⟩, .int .i64 0, .slice none 0 0, .slice none 0 0, .string ⟨#[]⟩, .int .i64 0, .slice none 0 0, .slice none 0 0, .bool false] 30 ((w.alloc (.cells #[.string x0, .int .i64 p0, .slice b0 bn0 bc0, .slice g0 gn0 gc0, .string x1, .int .i64 p1, .slice b1 bn1 bc1, .slice g1 gn1 gc1, .bool true] 30)).alloc (.cells #[.string ⟨#[]⟩, .int .i64 0, .slice none 0 0, .slice none 0 0, .string ⟨#[]⟩, .int .i64 0, .slice none 0 0, .slice none 0 0, .bool false] 30)) := Rg.Bk.new (by simp)
  have hb1 := Rg.al2 w (.cells #[.string x0, .int .i64 p0, .slice b0 bn0 bc0, .slice g0 gn0 gc0, .string x1, .int .i64 p1, .slice b1 bn1 bc1, .slice g1 gn1 gc1, .bool true] 30) (.cells #[.string ⟨#[]⟩, .int .i64 0, .slice none 0 0, .slice none 0 0, .string ⟨#[]⟩, .int .i64 0, .slice none 0 0, .slice none 0 0, .bool false] 30)
  go_enter Try.func21, Try.ntmps21
  go_upto_region 1 with fail
  generalize World.alloc _ _ = w1 at *
  obtain ⟨B, hB⟩ : ∃ B, B = w.heap.size := ⟨_, rfl⟩
  obtain ⟨R, hR⟩ : ∃ R, R = w.heap.size + 1 := ⟨_, rfl⟩
  rw [← hR] at kR1 ⊢
  rw [← hB] at kB1 ⊢
  have hBR : B ≠ R := by omega
  have hBw : w.heap.size ≤ B := by omega
  have hRw : w.heap.size ≤ R := by omega
  clear hB hR
  have z0 : w1.cell? ⟨B, 0, none⟩ = some (.string x0) := kB1.cell 0
  have z1 : w1.cell? ⟨B, 1, none⟩ = some (.int .i64 p0) := kB1.cell 1
  have z2 : w1.cell? ⟨B, 2, none⟩ = some (.slice b0 bn0 bc0) := kB1.cell 2
  have z3 : w1.cell? ⟨B, 3, none⟩ = some (.slice g0 gn0 gc0) := kB1.cell 3
  have z4 : w1.cell? ⟨B, 4, none⟩ = some (.string x1) := kB1.cell 4
  have z5 : w1.cell? ⟨B, 5, none⟩ = some (.int .i64 p1) := kB1.cell 5
  have z6 : w1.cell? ⟨B, 6, none⟩ = some (.slice b1 bn1 bc1) := kB1.cell 6
  have z7 : w1.cell? ⟨B, 7, none⟩ = some (.slice g1 gn1 gc1) := kB1.cell 7
  have z8 : w1.cell? ⟨B, 8, none⟩ = some (.bool true) := kB1.cell 8
  have kB1' := Rg.hid kB1
  have kR1' := Rg.hid kR1
  have hb1' := Rg.hid hb1
  clear kB1 kR1 hb1
  go_upto_region 2 with (first
    | (go_at_call 38; refine (HC.out _).mono ?_; rintro e w2 ⟨rfl, b2⟩; have kB2 := kB1'.out.below b2 kB1'.out.lt; have y0 := kB2.cell 0; have y1 := kB2.cell 1; have y2 := kB2.cell 2; have y3 := kB2.cell 3; simp only [List.getElem?_cons_zero, List.getElem?_cons_succ] at y0 y1 y2 y3)
    | (go_at_call 39; refine (HU.out _).mono ?_; rintro e w3 ⟨rfl, b3⟩; have kB3 := kB2.below b3 kB2.lt; have u := kB3.cell 0; simp only [List.getElem?_cons_zero] at u))
  have kR3 := (kR1'.out.below b2 kR1'.out.lt).below b3 (kR1'.out.below b2 kR1'.out.lt).lt
  have hb3' := Rg.chain (Rg.chain hb1'.out b2) b3
  clear kB2 kB1' kR1' hb1' b2 b3 HC HU u y0 y1 y2 y3 z0 z1 z2 z3 z4 z5 z6 z7 z8
  have hb3 := Rg.hid hb3'
  obtain ⟨kE, oE⟩ := ret9 kR3 rfl (.string x0) (.int .i64 p0) (.slice b0 bn0 bc0) (.slice g0 gn0 gc0) (.string x1) (.int .i64 p1) (.slice b1 bn1 bc1) (.slice g1 gn1 gc1) (.bool true)
  have post := Rg.hid (hb3.out.trans (oE.bel hRw))
  replace kE := Rg.hid kE
  have d0' : w3.cell? ⟨B, 0, none⟩ = some (.string x0) := kB3.cell 0
  have d1' : w3.cell? ⟨B, 1, none⟩ = some (.int .i64 p0) := kB3.cell 1
  have d2' : w3.cell? ⟨B, 2, none⟩ = some (.slice b0 bn0 bc0) := kB3.cell 2
  have d3' : w3.cell? ⟨B, 3, none⟩ = some (.slice g0 gn0 gc0) := kB3.cell 3
  have d4' : w3.cell? ⟨B, 4, none⟩ = some (.string x1) := kB3.cell 4
  have d5' : w3.cell? ⟨B, 5, none⟩ = some (.int .i64 p1) := kB3.cell 5
  have d6' : w3.cell? ⟨B, 6, none⟩ = some (.slice b1 bn1 bc1) := kB3.cell 6
  have d7' : w3.cell? ⟨B, 7, none⟩ = some (.slice g1 gn1 gc1) := kB3.cell 7
  have d8' : w3.cell? ⟨B, 8, none⟩ = some (.bool true) := kB3.cell 8
  have r0 : w3.cell? ⟨R, 0, none⟩ = some (.string ⟨#[]⟩) := kR3.cell 0
  have r1 : w3.cell? ⟨R, 1, none⟩ = some (.int .i64 0) := kR3.cell 1
  have r2 : w3.cell? ⟨R, 2, none⟩ = some (.slice none 0 0) := kR3.cell 2
  have r3 : w3.cell? ⟨R, 3, none⟩ = some (.slice none 0 0) := kR3.cell 3
  have r4 : w3.cell? ⟨R, 4, none⟩ = some (.string ⟨#[]⟩) := kR3.cell 4
  have r5 : w3.cell? ⟨R, 5, none⟩ = some (.int .i64 0) := kR3.cell 5
  have r6 : w3.cell? ⟨R, 6, none⟩ = some (.slice none 0 0) := kR3.cell 6
  have r7 : w3.cell? ⟨R, 7, none⟩ = some (.slice none 0 0) := kR3.cell 7
  have r8 : w3.cell? ⟨R, 8, none⟩ = some (.bool false) := kR3.cell 8
  have rf := kR3.thaw
  clear oE kR3 kB3 hb3
  go_wp2
  replace kE := kE.out
  replace post := post.out
  generalize World.setCell _ _ _ = WE at *
  exact bodyPost_ret (v := .tuple #[.agg #[.string x0, .int .i64 p0, .slice b0 bn0 bc0, .slice g0 gn0 gc0, .string x1, .int .i64 p1, .slice b1 bn1 bc1, .slice g1 gn1 gc1, .bool true], .int .i64 6]) (by simp [results, Try.results21, go_sem, kE.cell]) rfl ⟨rfl, post⟩

set_option maxHeartbeats 1000000 in
set_option maxRecDepth 100000 in
theorem llose_down1 (x0 : ByteArray) (p0 : Int) (b0 : Option Addr) (bn0 bc0 : Nat) (g0 : Option Addr) (gn0 gc0 : Nat) (x1 : ByteArray) (p1 : Int) (b1 : Option Addr) (bn1 bc1 : Nat) (g1 : Option Addr) (gn1 gc1 : Nat) (m : Int) (w : World)  :
    Calls Try.prog 21 #[.agg #[.string x0, .int .i64 p0, .slice b0 bn0 bc0, .slice g0 gn0 gc0, .string x1, .int .i64 p1, .slice b1 bn1 bc1, .slice g1 gn1 gc1, .bool false], .int .i64 1, .int .i64 m] w fun e w' => e = .returned (.tuple #[.agg #[.string x0, .int .i64 p0, .slice b0 bn0 bc0, .slice g0 gn0 gc0, .string x1, .int .i64 p1, .slice b1 bn1 bc1, .slice g1 gn1 gc1, .bool false], .int .i64 6]) ∧ Below w.heap.size w w' := by
  have HC : Hid (∀ W, Calls Try.prog 38 #[.agg #[.string x0, .int .i64 p0, .slice b0 bn0 bc0, .slice g0 gn0 gc0, .string x1, .int .i64 p1, .slice b1 bn1 bc1, .slice g1 gn1 gc1, .bool false], .int .i64 1] W fun e w' => e = .returned (.bool false) ∧ Below W.heap.size W w') := fun W => lcarries1 x0 p0 b0 bn0 bc0 g0 gn0 gc0 x1 p1 b1 bn1 bc1 g1 gn1 gc1 false W
  have kB1 : Rg.Bk w.heap.size [.string x0, .int .i64 p0, .slice b0 bn0 bc0, .slice g0 gn0 gc0, .string x1, .int .i64 p1, .slice b1 bn1 bc1, .slice g1 gn1 gc1, .bool false] 30 ((w.alloc (.cells #[.string x0, .int .i64 p0, .slice b0 bn0 bc0, .slice g0 gn0 gc0, .string x1, .int .i64 p1, .slice b1 bn1 bc1, .slice g1 gn1 gc1, .bool false] 30)).alloc (.cells #[.string ⟨#[]⟩, .int .i64 0, .slice none 0 0, .slice none 0 0, .string ⟨#[]⟩, .int .i64 0, .slice none 0 0, .slice none 0 0, .bool false] 30)) := (Rg.Bk.new rfl).old _
  have kR1 : Rg.Bk (w.heap.size + 1) [.string ⟨#[]⟩, .int .i64 0, .slice none 0 0, .slice none 0 0, .string ⟨#[]⟩, .int .i64 0, .slice none 0 0, .slice none 0 0, .bool false] 30 ((w.alloc (.cells #[.string x0, .int .i64 p0, .slice b0 bn0 bc0, .slice g0 gn0 gc0, .string x1, .int .i64 p1, .slice b1 bn1 bc1, .slice g1 gn1 gc1, .bool false] 30)).alloc (.cells #[.string ⟨#[]⟩, .int .i64 0, .slice none 0 0, .slice none 0 0, .string ⟨#[]⟩, .int .i64 0, .slice none 0 0, .slice none 0 0, .bool false] 30)) := Rg.Bk.new (by simp)
  have hb1 := Rg.al2 w (.cells #[.string x0, .int .i64 p0, .slice b0 bn0 bc0, .slice g0 gn0 gc0, .string x1, .int .i64 p1, .slice b1 bn1 bc1, .slice g1 gn1 gc1, .bool false] 30) (.cells #[.string ⟨#[]⟩, .int .i64 0, .slice none 0 0, .slice none 0 0, .string ⟨#[]⟩, .int .i64 0, .slice none 0 0, .slice none 0 0, .bool false] 30)
  go_enter Try.func21, Try.ntmps21
  go_upto_region 1 with fail
  generalize World.alloc _ _ = w1 at *
  obtain ⟨B, hB⟩ : ∃ B, B = w.heap.size := ⟨_, rfl⟩
  obtain ⟨R, hR⟩ : ∃ R, R = w.heap.size + 1 := ⟨_, rfl⟩
  rw [← hR] at kR1 ⊢
  rw [← hB] at kB1 ⊢
  have hBR : B ≠ R := by omega
  have hBw : w.heap.size ≤ B := by omega
  have hRw : w.heap.size ≤ R := by omega
  clear hB hR
  have z0 : w1.cell? ⟨B, 0, none⟩ = some (.string x0) := kB1.cell 0
  have z1 : w1.cell? ⟨B, 1, none⟩ = some (.int .i64 p0) := kB1.cell 1
  have z2 : w1.cell? ⟨B, 2, none⟩ = some (.slice b0 bn0 bc0) := kB1.cell 2
  have z3 : w1.cell? ⟨B, 3, none⟩ = some (.slice g0 gn0 gc0) := kB1.cell 3
  have z4 : w1.cell? ⟨B, 4, none⟩ = some (.string x1) := kB1.cell 4
  have z5 : w1.cell? ⟨B, 5, none⟩ = some (.int .i64 p1) := kB1.cell 5
  have z6 : w1.cell? ⟨B, 6, none⟩ = some (.slice b1 bn1 bc1) := kB1.cell 6
  have z7 : w1.cell? ⟨B, 7, none⟩ = some (.slice g1 gn1 gc1) := kB1.cell 7
  have z8 : w1.cell? ⟨B, 8, none⟩ = some (.bool false) := kB1.cell 8
  have kB1' := Rg.hid kB1
  have kR1' := Rg.hid kR1
  have hb1' := Rg.hid hb1
  clear kB1 kR1 hb1
  go_upto_region 2 with (go_at_call 38; refine (HC.out _).mono ?_; rintro e w2 ⟨rfl, b2⟩)
  have kB3 := kB1'.out.below b2 kB1'.out.lt
  have kR3 := kR1'.out.below b2 kR1'.out.lt
  have hb3' := Rg.chain hb1'.out b2
  clear kB1' kR1' hb1' b2 HC z0 z1 z2 z3 z4 z5 z6 z7 z8
  obtain ⟨w3, hw3⟩ : ∃ w3, w3 = w2 := ⟨_, rfl⟩
  subst hw3
  have hb3 := Rg.hid hb3'
  obtain ⟨kE, oE⟩ := ret9 kR3 rfl (.string x0) (.int .i64 p0) (.slice b0 bn0 bc0) (.slice g0 gn0 gc0) (.string x1) (.int .i64 p1) (.slice b1 bn1 bc1) (.slice g1 gn1 gc1) (.bool false)
  have post := Rg.hid (hb3.out.trans (oE.bel hRw))
  replace kE := Rg.hid kE
  have d0' : w3.cell? ⟨B, 0, none⟩ = some (.string x0) := kB3.cell 0
  have d1' : w3.cell? ⟨B, 1, none⟩ = some (.int .i64 p0) := kB3.cell 1
  have d2' : w3.cell? ⟨B, 2, none⟩ = some (.slice b0 bn0 bc0) := kB3.cell 2
  have d3' : w3.cell? ⟨B, 3, none⟩ = some (.slice g0 gn0 gc0) := kB3.cell 3
  have d4' : w3.cell? ⟨B, 4, none⟩ = some (.string x1) := kB3.cell 4
  have d5' : w3.cell? ⟨B, 5, none⟩ = some (.int .i64 p1) := kB3.cell 5
  have d6' : w3.cell? ⟨B, 6, none⟩ = some (.slice b1 bn1 bc1) := kB3.cell 6
  have d7' : w3.cell? ⟨B, 7, none⟩ = some (.slice g1 gn1 gc1) := kB3.cell 7
  have d8' : w3.cell? ⟨B, 8, none⟩ = some (.bool false) := kB3.cell 8
  have r0 : w3.cell? ⟨R, 0, none⟩ = some (.string ⟨#[]⟩) := kR3.cell 0
  have r1 : w3.cell? ⟨R, 1, none⟩ = some (.int .i64 0) := kR3.cell 1
  have r2 : w3.cell? ⟨R, 2, none⟩ = some (.slice none 0 0) := kR3.cell 2
  have r3 : w3.cell? ⟨R, 3, none⟩ = some (.slice none 0 0) := kR3.cell 3
  have r4 : w3.cell? ⟨R, 4, none⟩ = some (.string ⟨#[]⟩) := kR3.cell 4
  have r5 : w3.cell? ⟨R, 5, none⟩ = some (.int .i64 0) := kR3.cell 5
  have r6 : w3.cell? ⟨R, 6, none⟩ = some (.slice none 0 0) := kR3.cell 6
  have r7 : w3.cell? ⟨R, 7, none⟩ = some (.slice none 0 0) := kR3.cell 7
  have r8 : w3.cell? ⟨R, 8, none⟩ = some (.bool false) := kR3.cell 8
  have rf := kR3.thaw
  clear oE kR3 kB3 hb3
  go_wp2
  replace kE := kE.out
  replace post := post.out
  generalize World.setCell _ _ _ = WE at *
  exact bodyPost_ret (v := .tuple #[.agg #[.string x0, .int .i64 p0, .slice b0 bn0 bc0, .slice g0 gn0 gc0, .string x1, .int .i64 p1, .slice b1 bn1 bc1, .slice g1 gn1 gc1, .bool false], .int .i64 6]) (by simp [results, Try.results21, go_sem, kE.cell]) rfl ⟨rfl, post⟩

set_option maxHeartbeats 1000000 in
set_option maxRecDepth 100000 in
theorem llose_none1 (x0 : ByteArray) (p0 : Int) (b0 : Option Addr) (bn0 bc0 : Nat) (g0 : Option Addr) (gn0 gc0 : Nat) (x1 : ByteArray) (p1 : Int) (b1 : Option Addr) (bn1 bc1 : Nat) (g1 : Option Addr) (gn1 gc1 : Nat) (m : Int) (w : World) (hat : ¬ (0 ≤ m ∧ m < (x1.size : Int))) :
    Calls Try.prog 21 #[.agg #[.string x0, .int .i64 p0, .slice b0 bn0 bc0, .slice g0 gn0 gc0, .string x1, .int .i64 p1, .slice b1 bn1 bc1, .slice g1 gn1 gc1, .bool true], .int .i64 1, .int .i64 m] w fun e w' => e = .returned (.tuple #[.agg #[.string x0, .int .i64 p0, .slice b0 bn0 bc0, .slice g0 gn0 gc0, .string x1, .int .i64 p1, .slice b1 bn1 bc1, .slice g1 gn1 gc1, .bool true], .int .i64 6]) ∧ Below w.heap.size w w' := by
  have HC : Hid (∀ W, Calls Try.prog 38 #[.agg #[.string x0, .int .i64 p0, .slice b0 bn0 bc0, .slice g0 gn0 gc0, .string x1, .int .i64 p1, .slice b1 bn1 bc1, .slice g1 gn1 gc1, .bool true], .int .i64 1] W fun e w' => e = .returned (.bool true) ∧ Below W.heap.size W w') := fun W => lcarries1 x0 p0 b0 bn0 bc0 g0 gn0 gc0 x1 p1 b1 bn1 bc1 g1 gn1 gc1 true W
  have HU : Hid (∀ W, Calls Try.prog 39 #[.agg #[.string x1, .int .i64 p1, .slice b1 bn1 bc1, .slice g1 gn1 gc1], .int .i64 m] W fun e w' => e = .returned (.bool false) ∧ Below W.heap.size W w') := fun W => by
    have := lunder_any x1 p1 b1 bn1 bc1 g1 gn1 gc1 m W
    rw [show decide (0 ≤ m ∧ m < (x1.size : Int)) = false by simp; omega] at this
    exact this
  have kB1 : Rg.Bk w.heap.size [.string x0, .int .i64 p0, .slice b0 bn0 bc0, .slice g0 gn0 gc0, .string x1, .int .i64 p1, .slice b1 bn1 bc1, .slice g1 gn1 gc1, .bool true] 30 ((w.alloc (.cells #[.string x0, .int .i64 p0, .slice b0 bn0 bc0, .slice g0 gn0 gc0, .string x1, .int .i64 p1, .slice b1 bn1 bc1, .slice g1 gn1 gc1, .bool true] 30)).alloc (.cells #[.string ⟨#[]⟩, .int .i64 0, .slice none 0 0, .slice none 0 0, .string ⟨#[]⟩, .int .i64 0, .slice none 0 0, .slice none 0 0, .bool false] 30)) := (Rg.Bk.new rfl).old _
  have kR1 : Rg.Bk (w.heap.size + 1) [.string ⟨#[]⟩, .int .i64 0, .slice none 0 0, .slice none 0 0, .string ⟨#[]⟩, .int .i64 0, .slice none 0 0, .slice none 0 0, .bool false] 30 ((w.alloc (.cells #[.string x0, .int .i64 p0, .slice b0 bn0 bc0, .slice g0 gn0 gc0, .string x1, .int .i64 p1, .slice b1 bn1 bc1, .slice g1 gn1 gc1, .bool true] 30)).alloc (.cells #[.string ⟨#[]⟩, .int .i64 0, .slice none 0 0, .slice none 0 0, .string ⟨#[]⟩, .int .i64 0, .slice none 0 0, .slice none 0 0, .bool false] 30)) := Rg.Bk.new (by simp)
  have hb1 := Rg.al2 w (.cells #[.string x0, .int .i64 p0, .slice b0 bn0 bc0, .slice g0 gn0 gc0, .string x1, .int .i64 p1, .slice b1 bn1 bc1, .slice g1 gn1 gc1, .bool true] 30) (.cells #[.string ⟨#[]⟩, .int .i64 0, .slice none 0 0, .slice none 0 0, .string ⟨#[]⟩, .int .i64 0, .slice none 0 0, .slice none 0 0, .bool false] 30)
  go_enter Try.func21, Try.ntmps21
  go_upto_region 1 with fail
  generalize World.alloc _ _ = w1 at *
  obtain ⟨B, hB⟩ : ∃ B, B = w.heap.size := ⟨_, rfl⟩
  obtain ⟨R, hR⟩ : ∃ R, R = w.heap.size + 1 := ⟨_, rfl⟩
  rw [← hR] at kR1 ⊢
  rw [← hB] at kB1 ⊢
  have hBR : B ≠ R := by omega
  have hBw : w.heap.size ≤ B := by omega
  have hRw : w.heap.size ≤ R := by omega
  clear hB hR
  have z0 : w1.cell? ⟨B, 0, none⟩ = some (.string x0) := kB1.cell 0
  have z1 : w1.cell? ⟨B, 1, none⟩ = some (.int .i64 p0) := kB1.cell 1
  have z2 : w1.cell? ⟨B, 2, none⟩ = some (.slice b0 bn0 bc0) := kB1.cell 2
  have z3 : w1.cell? ⟨B, 3, none⟩ = some (.slice g0 gn0 gc0) := kB1.cell 3
  have z4 : w1.cell? ⟨B, 4, none⟩ = some (.string x1) := kB1.cell 4
  have z5 : w1.cell? ⟨B, 5, none⟩ = some (.int .i64 p1) := kB1.cell 5
  have z6 : w1.cell? ⟨B, 6, none⟩ = some (.slice b1 bn1 bc1) := kB1.cell 6
  have z7 : w1.cell? ⟨B, 7, none⟩ = some (.slice g1 gn1 gc1) := kB1.cell 7
  have z8 : w1.cell? ⟨B, 8, none⟩ = some (.bool true) := kB1.cell 8
  have kB1' := Rg.hid kB1
  have kR1' := Rg.hid kR1
  have hb1' := Rg.hid hb1
  clear kB1 kR1 hb1
  go_upto_region 2 with (first
    | (go_at_call 38; refine (HC.out _).mono ?_; rintro e w2 ⟨rfl, b2⟩; have kB2 := kB1'.out.below b2 kB1'.out.lt; have y4 := kB2.cell 4; have y5 := kB2.cell 5; have y6 := kB2.cell 6; have y7 := kB2.cell 7; simp only [List.getElem?_cons_zero, List.getElem?_cons_succ] at y4 y5 y6 y7)
    | (go_at_call 39; refine (HU.out _).mono ?_; rintro e w3 ⟨rfl, b3⟩; have kB3 := kB2.below b3 kB2.lt; have u := kB3.cell 4; simp only [List.getElem?_cons_zero, List.getElem?_cons_succ] at u))
  have kR3 := (kR1'.out.below b2 kR1'.out.lt).below b3 (kR1'.out.below b2 kR1'.out.lt).lt
  have hb3' := Rg.chain (Rg.chain hb1'.out b2) b3
  clear kB2 kB1' kR1' hb1' b2 b3 HC HU u y4 y5 y6 y7 z0 z1 z2 z3 z4 z5 z6 z7 z8
  have hb3 := Rg.hid hb3'
  obtain ⟨kE, oE⟩ := ret9 kR3 rfl (.string x0) (.int .i64 p0) (.slice b0 bn0 bc0) (.slice g0 gn0 gc0) (.string x1) (.int .i64 p1) (.slice b1 bn1 bc1) (.slice g1 gn1 gc1) (.bool true)
  have post := Rg.hid (hb3.out.trans (oE.bel hRw))
  replace kE := Rg.hid kE
  have d0' : w3.cell? ⟨B, 0, none⟩ = some (.string x0) := kB3.cell 0
  have d1' : w3.cell? ⟨B, 1, none⟩ = some (.int .i64 p0) := kB3.cell 1
  have d2' : w3.cell? ⟨B, 2, none⟩ = some (.slice b0 bn0 bc0) := kB3.cell 2
  have d3' : w3.cell? ⟨B, 3, none⟩ = some (.slice g0 gn0 gc0) := kB3.cell 3
  have d4' : w3.cell? ⟨B, 4, none⟩ = some (.string x1) := kB3.cell 4
  have d5' : w3.cell? ⟨B, 5, none⟩ = some (.int .i64 p1) := kB3.cell 5
  have d6' : w3.cell? ⟨B, 6, none⟩ = some (.slice b1 bn1 bc1) := kB3.cell 6
  have d7' : w3.cell? ⟨B, 7, none⟩ = some (.slice g1 gn1 gc1) := kB3.cell 7
  have d8' : w3.cell? ⟨B, 8, none⟩ = some (.bool true) := kB3.cell 8
  have r0 : w3.cell? ⟨R, 0, none⟩ = some (.string ⟨#[]⟩) := kR3.cell 0
  have r1 : w3.cell? ⟨R, 1, none⟩ = some (.int .i64 0) := kR3.cell 1
  have r2 : w3.cell? ⟨R, 2, none⟩ = some (.slice none 0 0) := kR3.cell 2
  have r3 : w3.cell? ⟨R, 3, none⟩ = some (.slice none 0 0) := kR3.cell 3
  have r4 : w3.cell? ⟨R, 4, none⟩ = some (.string ⟨#[]⟩) := kR3.cell 4
  have r5 : w3.cell? ⟨R, 5, none⟩ = some (.int .i64 0) := kR3.cell 5
  have r6 : w3.cell? ⟨R, 6, none⟩ = some (.slice none 0 0) := kR3.cell 6
  have r7 : w3.cell? ⟨R, 7, none⟩ = some (.slice none 0 0) := kR3.cell 7
  have r8 : w3.cell? ⟨R, 8, none⟩ = some (.bool false) := kR3.cell 8
  have rf := kR3.thaw
  clear oE kR3 kB3 hb3
  go_wp2
  replace kE := kE.out
  replace post := post.out
  generalize World.setCell _ _ _ = WE at *
  exact bodyPost_ret (v := .tuple #[.agg #[.string x0, .int .i64 p0, .slice b0 bn0 bc0, .slice g0 gn0 gc0, .string x1, .int .i64 p1, .slice b1 bn1 bc1, .slice g1 gn1 gc1, .bool true], .int .i64 6]) (by simp [results, Try.results21, go_sem, kE.cell]) rfl ⟨rfl, post⟩

set_option maxHeartbeats 1000000 in
set_option maxRecDepth 100000 in
theorem lflip_bad (x0 : ByteArray) (p0 : Int) (b0 : Option Addr) (bn0 bc0 : Nat) (g0 : Option Addr) (gn0 gc0 : Nat) (x1 : ByteArray) (p1 : Int) (b1 : Option Addr) (bn1 bc1 : Nat) (g1 : Option Addr) (gn1 gc1 : Nat) (up : Bool) (n : Int) (m : Int) (bit : Int) (w : World) (h0 : n ≠ 0) (h1 : n ≠ 1) :
    Calls Try.prog 22 #[.agg #[.string x0, .int .i64 p0, .slice b0 bn0 bc0, .slice g0 gn0 gc0, .string x1, .int .i64 p1, .slice b1 bn1 bc1, .slice g1 gn1 gc1, .bool up], .int .i64 n, .int .i64 m, .int .i64 bit] w fun e w' => e = .returned (.tuple #[.agg #[.string x0, .int .i64 p0, .slice b0 bn0 bc0, .slice g0 gn0 gc0, .string x1, .int .i64 p1, .slice b1 bn1 bc1, .slice g1 gn1 gc1, .bool up], .int .i64 6]) ∧ Below w.heap.size w w' := by
  have HC : Hid (∀ W, Calls Try.prog 38 #[.agg #[.string x0, .int .i64 p0, .slice b0 bn0 bc0, .slice g0 gn0 gc0, .string x1, .int .i64 p1, .slice b1 bn1 bc1, .slice g1 gn1 gc1, .bool up], .int .i64 n] W fun e w' => e = .returned (.bool false) ∧ Below W.heap.size W w') := fun W => lcarries_bad x0 p0 b0 bn0 bc0 g0 gn0 gc0 x1 p1 b1 bn1 bc1 g1 gn1 gc1 up n W h0 h1
  have kB1 : Rg.Bk w.heap.size [.string x0, .int .i64 p0, .slice b0 bn0 bc0, .slice g0 gn0 gc0, .string x1, .int .i64 p1, .slice b1 bn1 bc1, .slice g1 gn1 gc1, .bool up] 30 ((w.alloc (.cells #[.string x0, .int .i64 p0, .slice b0 bn0 bc0, .slice g0 gn0 gc0, .string x1, .int .i64 p1, .slice b1 bn1 bc1, .slice g1 gn1 gc1, .bool up] 30)).alloc (.cells #[.string ⟨#[]⟩, .int .i64 0, .slice none 0 0, .slice none 0 0, .string ⟨#[]⟩, .int .i64 0, .slice none 0 0, .slice none 0 0, .bool false] 30)) := (Rg.Bk.new rfl).old _
  have kR1 : Rg.Bk (w.heap.size + 1) [.string ⟨#[]⟩, .int .i64 0, .slice none 0 0, .slice none 0 0, .string ⟨#[]⟩, .int .i64 0, .slice none 0 0, .slice none 0 0, .bool false] 30 ((w.alloc (.cells #[.string x0, .int .i64 p0, .slice b0 bn0 bc0, .slice g0 gn0 gc0, .string x1, .int .i64 p1, .slice b1 bn1 bc1, .slice g1 gn1 gc1, .bool up] 30)).alloc (.cells #[.string ⟨#[]⟩, .int .i64 0, .slice none 0 0, .slice none 0 0, .string ⟨#[]⟩, .int .i64 0, .slice none 0 0, .slice none 0 0, .bool false] 30)) := Rg.Bk.new (by simp)
  have hb1 := Rg.al2 w (.cells #[.string x0, .int .i64 p0, .slice b0 bn0 bc0, .slice g0 gn0 gc0, .string x1, .int .i64 p1, .slice b1 bn1 bc1, .slice g1 gn1 gc1, .bool up] 30) (.cells #[.string ⟨#[]⟩, .int .i64 0, .slice none 0 0, .slice none 0 0, .string ⟨#[]⟩, .int .i64 0, .slice none 0 0, .slice none 0 0, .bool false] 30)
  go_enter Try.func22, Try.ntmps22
  go_upto_region 1 with fail
  generalize World.alloc _ _ = w1 at *
  obtain ⟨B, hB⟩ : ∃ B, B = w.heap.size := ⟨_, rfl⟩
  obtain ⟨R, hR⟩ : ∃ R, R = w.heap.size + 1 := ⟨_, rfl⟩
  rw [← hR] at kR1 ⊢
  rw [← hB] at kB1 ⊢
  have hBR : B ≠ R := by omega
  have hBw : w.heap.size ≤ B := by omega
  have hRw : w.heap.size ≤ R := by omega
  clear hB hR
  have z0 : w1.cell? ⟨B, 0, none⟩ = some (.string x0) := kB1.cell 0
  have z1 : w1.cell? ⟨B, 1, none⟩ = some (.int .i64 p0) := kB1.cell 1
  have z2 : w1.cell? ⟨B, 2, none⟩ = some (.slice b0 bn0 bc0) := kB1.cell 2
  have z3 : w1.cell? ⟨B, 3, none⟩ = some (.slice g0 gn0 gc0) := kB1.cell 3
  have z4 : w1.cell? ⟨B, 4, none⟩ = some (.string x1) := kB1.cell 4
  have z5 : w1.cell? ⟨B, 5, none⟩ = some (.int .i64 p1) := kB1.cell 5
  have z6 : w1.cell? ⟨B, 6, none⟩ = some (.slice b1 bn1 bc1) := kB1.cell 6
  have z7 : w1.cell? ⟨B, 7, none⟩ = some (.slice g1 gn1 gc1) := kB1.cell 7
  have z8 : w1.cell? ⟨B, 8, none⟩ = some (.bool up) := kB1.cell 8
  have kB1' := Rg.hid kB1
  have kR1' := Rg.hid kR1
  have hb1' := Rg.hid hb1
  clear kB1 kR1 hb1
  go_upto_region 2 with (go_at_call 38; refine (HC.out _).mono ?_; rintro e w2 ⟨rfl, b2⟩)
  have kB3 := kB1'.out.below b2 kB1'.out.lt
  have kR3 := kR1'.out.below b2 kR1'.out.lt
  have hb3' := Rg.chain hb1'.out b2
  clear kB1' kR1' hb1' b2 HC z0 z1 z2 z3 z4 z5 z6 z7 z8
  obtain ⟨w3, hw3⟩ : ∃ w3, w3 = w2 := ⟨_, rfl⟩
  subst hw3
  have hb3 := Rg.hid hb3'
  obtain ⟨kE, oE⟩ := ret9 kR3 rfl (.string x0) (.int .i64 p0) (.slice b0 bn0 bc0) (.slice g0 gn0 gc0) (.string x1) (.int .i64 p1) (.slice b1 bn1 bc1) (.slice g1 gn1 gc1) (.bool up)
  have post := Rg.hid (hb3.out.trans (oE.bel hRw))
  replace kE := Rg.hid kE
  have d0' : w3.cell? ⟨B, 0, none⟩ = some (.string x0) := kB3.cell 0
  have d1' : w3.cell? ⟨B, 1, none⟩ = some (.int .i64 p0) := kB3.cell 1
  have d2' : w3.cell? ⟨B, 2, none⟩ = some (.slice b0 bn0 bc0) := kB3.cell 2
  have d3' : w3.cell? ⟨B, 3, none⟩ = some (.slice g0 gn0 gc0) := kB3.cell 3
  have d4' : w3.cell? ⟨B, 4, none⟩ = some (.string x1) := kB3.cell 4
  have d5' : w3.cell? ⟨B, 5, none⟩ = some (.int .i64 p1) := kB3.cell 5
  have d6' : w3.cell? ⟨B, 6, none⟩ = some (.slice b1 bn1 bc1) := kB3.cell 6
  have d7' : w3.cell? ⟨B, 7, none⟩ = some (.slice g1 gn1 gc1) := kB3.cell 7
  have d8' : w3.cell? ⟨B, 8, none⟩ = some (.bool up) := kB3.cell 8
  have r0 : w3.cell? ⟨R, 0, none⟩ = some (.string ⟨#[]⟩) := kR3.cell 0
  have r1 : w3.cell? ⟨R, 1, none⟩ = some (.int .i64 0) := kR3.cell 1
  have r2 : w3.cell? ⟨R, 2, none⟩ = some (.slice none 0 0) := kR3.cell 2
  have r3 : w3.cell? ⟨R, 3, none⟩ = some (.slice none 0 0) := kR3.cell 3
  have r4 : w3.cell? ⟨R, 4, none⟩ = some (.string ⟨#[]⟩) := kR3.cell 4
  have r5 : w3.cell? ⟨R, 5, none⟩ = some (.int .i64 0) := kR3.cell 5
  have r6 : w3.cell? ⟨R, 6, none⟩ = some (.slice none 0 0) := kR3.cell 6
  have r7 : w3.cell? ⟨R, 7, none⟩ = some (.slice none 0 0) := kR3.cell 7
  have r8 : w3.cell? ⟨R, 8, none⟩ = some (.bool false) := kR3.cell 8
  have rf := kR3.thaw
  clear oE kR3 kB3 hb3
  go_wp2
  replace kE := kE.out
  replace post := post.out
  generalize World.setCell _ _ _ = WE at *
  exact bodyPost_ret (v := .tuple #[.agg #[.string x0, .int .i64 p0, .slice b0 bn0 bc0, .slice g0 gn0 gc0, .string x1, .int .i64 p1, .slice b1 bn1 bc1, .slice g1 gn1 gc1, .bool up], .int .i64 6]) (by simp [results, Try.results22, go_sem, kE.cell]) rfl ⟨rfl, post⟩

set_option maxHeartbeats 1000000 in
set_option maxRecDepth 100000 in
theorem lflip_down0 (x0 : ByteArray) (p0 : Int) (b0 : Option Addr) (bn0 bc0 : Nat) (g0 : Option Addr) (gn0 gc0 : Nat) (x1 : ByteArray) (p1 : Int) (b1 : Option Addr) (bn1 bc1 : Nat) (g1 : Option Addr) (gn1 gc1 : Nat) (m : Int) (bit : Int) (w : World)  :
    Calls Try.prog 22 #[.agg #[.string x0, .int .i64 p0, .slice b0 bn0 bc0, .slice g0 gn0 gc0, .string x1, .int .i64 p1, .slice b1 bn1 bc1, .slice g1 gn1 gc1, .bool false], .int .i64 0, .int .i64 m, .int .i64 bit] w fun e w' => e = .returned (.tuple #[.agg #[.string x0, .int .i64 p0, .slice b0 bn0 bc0, .slice g0 gn0 gc0, .string x1, .int .i64 p1, .slice b1 bn1 bc1, .slice g1 gn1 gc1, .bool false], .int .i64 6]) ∧ Below w.heap.size w w' := by
  have HC : Hid (∀ W, Calls Try.prog 38 #[.agg #[.string x0, .int .i64 p0, .slice b0 bn0 bc0, .slice g0 gn0 gc0, .string x1, .int .i64 p1, .slice b1 bn1 bc1, .slice g1 gn1 gc1, .bool false], .int .i64 0] W fun e w' => e = .returned (.bool false) ∧ Below W.heap.size W w') := fun W => lcarries0 x0 p0 b0 bn0 bc0 g0 gn0 gc0 x1 p1 b1 bn1 bc1 g1 gn1 gc1 false W
  have kB1 : Rg.Bk w.heap.size [.string x0, .int .i64 p0, .slice b0 bn0 bc0, .slice g0 gn0 gc0, .string x1, .int .i64 p1, .slice b1 bn1 bc1, .slice g1 gn1 gc1, .bool false] 30 ((w.alloc (.cells #[.string x0, .int .i64 p0, .slice b0 bn0 bc0, .slice g0 gn0 gc0, .string x1, .int .i64 p1, .slice b1 bn1 bc1, .slice g1 gn1 gc1, .bool false] 30)).alloc (.cells #[.string ⟨#[]⟩, .int .i64 0, .slice none 0 0, .slice none 0 0, .string ⟨#[]⟩, .int .i64 0, .slice none 0 0, .slice none 0 0, .bool false] 30)) := (Rg.Bk.new rfl).old _
  have kR1 : Rg.Bk (w.heap.size + 1) [.string ⟨#[]⟩, .int .i64 0, .slice none 0 0, .slice none 0 0, .string ⟨#[]⟩, .int .i64 0, .slice none 0 0, .slice none 0 0, .bool false] 30 ((w.alloc (.cells #[.string x0, .int .i64 p0, .slice b0 bn0 bc0, .slice g0 gn0 gc0, .string x1, .int .i64 p1, .slice b1 bn1 bc1, .slice g1 gn1 gc1, .bool false] 30)).alloc (.cells #[.string ⟨#[]⟩, .int .i64 0, .slice none 0 0, .slice none 0 0, .string ⟨#[]⟩, .int .i64 0, .slice none 0 0, .slice none 0 0, .bool false] 30)) := Rg.Bk.new (by simp)
  have hb1 := Rg.al2 w (.cells #[.string x0, .int .i64 p0, .slice b0 bn0 bc0, .slice g0 gn0 gc0, .string x1, .int .i64 p1, .slice b1 bn1 bc1, .slice g1 gn1 gc1, .bool false] 30) (.cells #[.string ⟨#[]⟩, .int .i64 0, .slice none 0 0, .slice none 0 0, .string ⟨#[]⟩, .int .i64 0, .slice none 0 0, .slice none 0 0, .bool false] 30)
  go_enter Try.func22, Try.ntmps22
  go_upto_region 1 with fail
  generalize World.alloc _ _ = w1 at *
  obtain ⟨B, hB⟩ : ∃ B, B = w.heap.size := ⟨_, rfl⟩
  obtain ⟨R, hR⟩ : ∃ R, R = w.heap.size + 1 := ⟨_, rfl⟩
  rw [← hR] at kR1 ⊢
  rw [← hB] at kB1 ⊢
  have hBR : B ≠ R := by omega
  have hBw : w.heap.size ≤ B := by omega
  have hRw : w.heap.size ≤ R := by omega
  clear hB hR
  have z0 : w1.cell? ⟨B, 0, none⟩ = some (.string x0) := kB1.cell 0
  have z1 : w1.cell? ⟨B, 1, none⟩ = some (.int .i64 p0) := kB1.cell 1
  have z2 : w1.cell? ⟨B, 2, none⟩ = some (.slice b0 bn0 bc0) := kB1.cell 2
  have z3 : w1.cell? ⟨B, 3, none⟩ = some (.slice g0 gn0 gc0) := kB1.cell 3
  have z4 : w1.cell? ⟨B, 4, none⟩ = some (.string x1) := kB1.cell 4
  have z5 : w1.cell? ⟨B, 5, none⟩ = some (.int .i64 p1) := kB1.cell 5
  have z6 : w1.cell? ⟨B, 6, none⟩ = some (.slice b1 bn1 bc1) := kB1.cell 6
  have z7 : w1.cell? ⟨B, 7, none⟩ = some (.slice g1 gn1 gc1) := kB1.cell 7
  have z8 : w1.cell? ⟨B, 8, none⟩ = some (.bool false) := kB1.cell 8
  have kB1' := Rg.hid kB1
  have kR1' := Rg.hid kR1
  have hb1' := Rg.hid hb1
  clear kB1 kR1 hb1
  go_upto_region 2 with (go_at_call 38; refine (HC.out _).mono ?_; rintro e w2 ⟨rfl, b2⟩)
  have kB3 := kB1'.out.below b2 kB1'.out.lt
  have kR3 := kR1'.out.below b2 kR1'.out.lt
  have hb3' := Rg.chain hb1'.out b2
  clear kB1' kR1' hb1' b2 HC z0 z1 z2 z3 z4 z5 z6 z7 z8
  obtain ⟨w3, hw3⟩ : ∃ w3, w3 = w2 := ⟨_, rfl⟩
  subst hw3
  have hb3 := Rg.hid hb3'
  obtain ⟨kE, oE⟩ := ret9 kR3 rfl (.string x0) (.int .i64 p0) (.slice b0 bn0 bc0) (.slice g0 gn0 gc0) (.string x1) (.int .i64 p1) (.slice b1 bn1 bc1) (.slice g1 gn1 gc1) (.bool false)
  have post := Rg.hid (hb3.out.trans (oE.bel hRw))
  replace kE := Rg.hid kE
  have d0' : w3.cell? ⟨B, 0, none⟩ = some (.string x0) := kB3.cell 0
  have d1' : w3.cell? ⟨B, 1, none⟩ = some (.int .i64 p0) := kB3.cell 1
  have d2' : w3.cell? ⟨B, 2, none⟩ = some (.slice b0 bn0 bc0) := kB3.cell 2
  have d3' : w3.cell? ⟨B, 3, none⟩ = some (.slice g0 gn0 gc0) := kB3.cell 3
  have d4' : w3.cell? ⟨B, 4, none⟩ = some (.string x1) := kB3.cell 4
  have d5' : w3.cell? ⟨B, 5, none⟩ = some (.int .i64 p1) := kB3.cell 5
  have d6' : w3.cell? ⟨B, 6, none⟩ = some (.slice b1 bn1 bc1) := kB3.cell 6
  have d7' : w3.cell? ⟨B, 7, none⟩ = some (.slice g1 gn1 gc1) := kB3.cell 7
  have d8' : w3.cell? ⟨B, 8, none⟩ = some (.bool false) := kB3.cell 8
  have r0 : w3.cell? ⟨R, 0, none⟩ = some (.string ⟨#[]⟩) := kR3.cell 0
  have r1 : w3.cell? ⟨R, 1, none⟩ = some (.int .i64 0) := kR3.cell 1
  have r2 : w3.cell? ⟨R, 2, none⟩ = some (.slice none 0 0) := kR3.cell 2
  have r3 : w3.cell? ⟨R, 3, none⟩ = some (.slice none 0 0) := kR3.cell 3
  have r4 : w3.cell? ⟨R, 4, none⟩ = some (.string ⟨#[]⟩) := kR3.cell 4
  have r5 : w3.cell? ⟨R, 5, none⟩ = some (.int .i64 0) := kR3.cell 5
  have r6 : w3.cell? ⟨R, 6, none⟩ = some (.slice none 0 0) := kR3.cell 6
  have r7 : w3.cell? ⟨R, 7, none⟩ = some (.slice none 0 0) := kR3.cell 7
  have r8 : w3.cell? ⟨R, 8, none⟩ = some (.bool false) := kR3.cell 8
  have rf := kR3.thaw
  clear oE kR3 kB3 hb3
  go_wp2
  replace kE := kE.out
  replace post := post.out
  generalize World.setCell _ _ _ = WE at *
  exact bodyPost_ret (v := .tuple #[.agg #[.string x0, .int .i64 p0, .slice b0 bn0 bc0, .slice g0 gn0 gc0, .string x1, .int .i64 p1, .slice b1 bn1 bc1, .slice g1 gn1 gc1, .bool false], .int .i64 6]) (by simp [results, Try.results22, go_sem, kE.cell]) rfl ⟨rfl, post⟩

set_option maxHeartbeats 1000000 in
set_option maxRecDepth 100000 in
theorem lflip_none0 (x0 : ByteArray) (p0 : Int) (b0 : Option Addr) (bn0 bc0 : Nat) (g0 : Option Addr) (gn0 gc0 : Nat) (x1 : ByteArray) (p1 : Int) (b1 : Option Addr) (bn1 bc1 : Nat) (g1 : Option Addr) (gn1 gc1 : Nat) (m : Int) (bit : Int) (w : World) (hat : ¬ (0 ≤ m ∧ m < (x0.size : Int))) :
    Calls Try.prog 22 #[.agg #[.string x0, .int .i64 p0, .slice b0 bn0 bc0, .slice g0 gn0 gc0, .string x1, .int .i64 p1, .slice b1 bn1 bc1, .slice g1 gn1 gc1, .bool true], .int .i64 0, .int .i64 m, .int .i64 bit] w fun e w' => e = .returned (.tuple #[.agg #[.string x0, .int .i64 p0, .slice b0 bn0 bc0, .slice g0 gn0 gc0, .string x1, .int .i64 p1, .slice b1 bn1 bc1, .slice g1 gn1 gc1, .bool true], .int .i64 6]) ∧ Below w.heap.size w w' := by
  have HC : Hid (∀ W, Calls Try.prog 38 #[.agg #[.string x0, .int .i64 p0, .slice b0 bn0 bc0, .slice g0 gn0 gc0, .string x1, .int .i64 p1, .slice b1 bn1 bc1, .slice g1 gn1 gc1, .bool true], .int .i64 0] W fun e w' => e = .returned (.bool true) ∧ Below W.heap.size W w') := fun W => lcarries0 x0 p0 b0 bn0 bc0 g0 gn0 gc0 x1 p1 b1 bn1 bc1 g1 gn1 gc1 true W
  have HU : Hid (∀ W, Calls Try.prog 39 #[.agg #[.string x0, .int .i64 p0, .slice b0 bn0 bc0, .slice g0 gn0 gc0], .int .i64 m] W fun e w' => e = .returned (.bool false) ∧ Below W.heap.size W w') := fun W => by
    have := lunder_any x0 p0 b0 bn0 bc0 g0 gn0 gc0 m W
    rw [show decide (0 ≤ m ∧ m < (x0.size : Int)) = false by simp; omega] at this
    exact this
  have kB1 : Rg.Bk w.heap.size [.string x0, .int .i64 p0, .slice b0 bn0 bc0, .slice g0 gn0 gc0, .string x1, .int .i64 p1, .slice b1 bn1 bc1, .slice g1 gn1 gc1, .bool true] 30 ((w.alloc (.cells #[.string x0, .int .i64 p0, .slice b0 bn0 bc0, .slice g0 gn0 gc0, .string x1, .int .i64 p1, .slice b1 bn1 bc1, .slice g1 gn1 gc1, .bool true] 30)).alloc (.cells #[.string ⟨#[]⟩, .int .i64 0, .slice none 0 0, .slice none 0 0, .string ⟨#[]⟩, .int .i64 0, .slice none 0 0, .slice none 0 0, .bool false] 30)) := (Rg.Bk.new rfl).old _
  have kR1 : Rg.Bk (w.heap.size + 1) [.string ⟨#[]⟩, .int .i64 0, .slice none 0 0, .slice none 0 0, .string ⟨#[]⟩, .int .i64 0, .slice none 0 0, .slice none 0 0, .bool false] 30 ((w.alloc (.cells #[.string x0, .int .i64 p0, .slice b0 bn0 bc0, .slice g0 gn0 gc0, .string x1, .int .i64 p1, .slice b1 bn1 bc1, .slice g1 gn1 gc1, .bool true] 30)).alloc (.cells #[.string ⟨#[]⟩, .int .i64 0, .slice none 0 0, .slice none 0 0, .string ⟨#[]⟩, .int .i64 0, .slice none 0 0, .slice none 0 0, .bool false] 30)) := Rg.Bk.new (by simp)
  have hb1 := Rg.al2 w (.cells #[.string x0, .int .i64 p0, .slice b0 bn0 bc0, .slice g0 gn0 gc0, .string x1, .int .i64 p1, .slice b1 bn1 bc1, .slice g1 gn1 gc1, .bool true] 30) (.cells #[.string ⟨#[]⟩, .int .i64 0, .slice none 0 0, .slice none 0 0, .string ⟨#[]⟩, .int .i64 0, .slice none 0 0, .slice none 0 0, .bool false] 30)
  go_enter Try.func22, Try.ntmps22
  go_upto_region 1 with fail
  generalize World.alloc _ _ = w1 at *
  obtain ⟨B, hB⟩ : ∃ B, B = w.heap.size := ⟨_, rfl⟩
  obtain ⟨R, hR⟩ : ∃ R, R = w.heap.size + 1 := ⟨_, rfl⟩
  rw [← hR] at kR1 ⊢
  rw [← hB] at kB1 ⊢
  have hBR : B ≠ R := by omega
  have hBw : w.heap.size ≤ B := by omega
  have hRw : w.heap.size ≤ R := by omega
  clear hB hR
  have z0 : w1.cell? ⟨B, 0, none⟩ = some (.string x0) := kB1.cell 0
  have z1 : w1.cell? ⟨B, 1, none⟩ = some (.int .i64 p0) := kB1.cell 1
  have z2 : w1.cell? ⟨B, 2, none⟩ = some (.slice b0 bn0 bc0) := kB1.cell 2
  have z3 : w1.cell? ⟨B, 3, none⟩ = some (.slice g0 gn0 gc0) := kB1.cell 3
  have z4 : w1.cell? ⟨B, 4, none⟩ = some (.string x1) := kB1.cell 4
  have z5 : w1.cell? ⟨B, 5, none⟩ = some (.int .i64 p1) := kB1.cell 5
  have z6 : w1.cell? ⟨B, 6, none⟩ = some (.slice b1 bn1 bc1) := kB1.cell 6
  have z7 : w1.cell? ⟨B, 7, none⟩ = some (.slice g1 gn1 gc1) := kB1.cell 7
  have z8 : w1.cell? ⟨B, 8, none⟩ = some (.bool true) := kB1.cell 8
  have kB1' := Rg.hid kB1
  have kR1' := Rg.hid kR1
  have hb1' := Rg.hid hb1
  clear kB1 kR1 hb1
  go_upto_region 2 with (first
    | (go_at_call 38; refine (HC.out _).mono ?_; rintro e w2 ⟨rfl, b2⟩; have kB2 := kB1'.out.below b2 kB1'.out.lt; have y0 := kB2.cell 0; have y1 := kB2.cell 1; have y2 := kB2.cell 2; have y3 := kB2.cell 3; simp only [List.getElem?_cons_zero, List.getElem?_cons_succ] at y0 y1 y2 y3)
    | (go_at_call 39; refine (HU.out _).mono ?_; rintro e w3 ⟨rfl, b3⟩; have kB3 := kB2.below b3 kB2.lt; have u := kB3.cell 0; simp only [List.getElem?_cons_zero] at u))
  have kR3 := (kR1'.out.below b2 kR1'.out.lt).below b3 (kR1'.out.below b2 kR1'.out.lt).lt
  have hb3' := Rg.chain (Rg.chain hb1'.out b2) b3
  clear kB2 kB1' kR1' hb1' b2 b3 HC HU u y0 y1 y2 y3 z0 z1 z2 z3 z4 z5 z6 z7 z8
  have hb3 := Rg.hid hb3'
  obtain ⟨kE, oE⟩ := ret9 kR3 rfl (.string x0) (.int .i64 p0) (.slice b0 bn0 bc0) (.slice g0 gn0 gc0) (.string x1) (.int .i64 p1) (.slice b1 bn1 bc1) (.slice g1 gn1 gc1) (.bool true)
  have post := Rg.hid (hb3.out.trans (oE.bel hRw))
  replace kE := Rg.hid kE
  have d0' : w3.cell? ⟨B, 0, none⟩ = some (.string x0) := kB3.cell 0
  have d1' : w3.cell? ⟨B, 1, none⟩ = some (.int .i64 p0) := kB3.cell 1
  have d2' : w3.cell? ⟨B, 2, none⟩ = some (.slice b0 bn0 bc0) := kB3.cell 2
  have d3' : w3.cell? ⟨B, 3, none⟩ = some (.slice g0 gn0 gc0) := kB3.cell 3
  have d4' : w3.cell? ⟨B, 4, none⟩ = some (.string x1) := kB3.cell 4
  have d5' : w3.cell? ⟨B, 5, none⟩ = some (.int .i64 p1) := kB3.cell 5
  have d6' : w3.cell? ⟨B, 6, none⟩ = some (.slice b1 bn1 bc1) := kB3.cell 6
  have d7' : w3.cell? ⟨B, 7, none⟩ = some (.slice g1 gn1 gc1) := kB3.cell 7
  have d8' : w3.cell? ⟨B, 8, none⟩ = some (.bool true) := kB3.cell 8
  have r0 : w3.cell? ⟨R, 0, none⟩ = some (.string ⟨#[]⟩) := kR3.cell 0
  have r1 : w3.cell? ⟨R, 1, none⟩ = some (.int .i64 0) := kR3.cell 1
  have r2 : w3.cell? ⟨R, 2, none⟩ = some (.slice none 0 0) := kR3.cell 2
  have r3 : w3.cell? ⟨R, 3, none⟩ = some (.slice none 0 0) := kR3.cell 3
  have r4 : w3.cell? ⟨R, 4, none⟩ = some (.string ⟨#[]⟩) := kR3.cell 4
  have r5 : w3.cell? ⟨R, 5, none⟩ = some (.int .i64 0) := kR3.cell 5
  have r6 : w3.cell? ⟨R, 6, none⟩ = some (.slice none 0 0) := kR3.cell 6
  have r7 : w3.cell? ⟨R, 7, none⟩ = some (.slice none 0 0) := kR3.cell 7
  have r8 : w3.cell? ⟨R, 8, none⟩ = some (.bool false) := kR3.cell 8
  have rf := kR3.thaw
  clear oE kR3 kB3 hb3
  go_wp2
  replace kE := kE.out
  replace post := post.out
  generalize World.setCell _ _ _ = WE at *
  exact bodyPost_ret (v := .tuple #[.agg #[.string x0, .int .i64 p0, .slice b0 bn0 bc0, .slice g0 gn0 gc0, .string x1, .int .i64 p1, .slice b1 bn1 bc1, .slice g1 gn1 gc1, .bool true], .int .i64 6]) (by simp [results, Try.results22, go_sem, kE.cell]) rfl ⟨rfl, post⟩

set_option maxHeartbeats 1000000 in
set_option maxRecDepth 100000 in
theorem lflip_down1 (x0 : ByteArray) (p0 : Int) (b0 : Option Addr) (bn0 bc0 : Nat) (g0 : Option Addr) (gn0 gc0 : Nat) (x1 : ByteArray) (p1 : Int) (b1 : Option Addr) (bn1 bc1 : Nat) (g1 : Option Addr) (gn1 gc1 : Nat) (m : Int) (bit : Int) (w : World)  :
    Calls Try.prog 22 #[.agg #[.string x0, .int .i64 p0, .slice b0 bn0 bc0, .slice g0 gn0 gc0, .string x1, .int .i64 p1, .slice b1 bn1 bc1, .slice g1 gn1 gc1, .bool false], .int .i64 1, .int .i64 m, .int .i64 bit] w fun e w' => e = .returned (.tuple #[.agg #[.string x0, .int .i64 p0, .slice b0 bn0 bc0, .slice g0 gn0 gc0, .string x1, .int .i64 p1, .slice b1 bn1 bc1, .slice g1 gn1 gc1, .bool false], .int .i64 6]) ∧ Below w.heap.size w w' := by
  have HC : Hid (∀ W, Calls Try.prog 38 #[.agg #[.string x0, .int .i64 p0, .slice b0 bn0 bc0, .slice g0 gn0 gc0, .string x1, .int .i64 p1, .slice b1 bn1 bc1, .slice g1 gn1 gc1, .bool false], .int .i64 1] W fun e w' => e = .returned (.bool false) ∧ Below W.heap.size W w') := fun W => lcarries1 x0 p0 b0 bn0 bc0 g0 gn0 gc0 x1 p1 b1 bn1 bc1 g1 gn1 gc1 false W
  have kB1 : Rg.Bk w.heap.size [.string x0, .int .i64 p0, .slice b0 bn0 bc0, .slice g0 gn0 gc0, .string x1, .int .i64 p1, .slice b1 bn1 bc1, .slice g1 gn1 gc1, .bool false] 30 ((w.alloc (.cells #[.string x0, .int .i64 p0, .slice b0 bn0 bc0, .slice g0 gn0 gc0, .string x1, .int .i64 p1, .slice b1 bn1 bc1, .slice g1 gn1 gc1, .bool false] 30)).alloc (.cells #[.string ⟨#[]⟩, .int .i64 0, .slice none 0 0, .slice none 0 0, .string ⟨#[]⟩, .int .i64 0, .slice none 0 0, .slice none 0 0, .bool false] 30)) := (Rg.Bk.new rfl).old _
  have kR1 : Rg.Bk (w.heap.size + 1) [.string ⟨#[]⟩, .int .i64 0, .slice none 0 0, .slice none 0 0, .string ⟨#[]⟩, .int .i64 0, .slice none 0 0, .slice none 0 0, .bool false] 30 ((w.alloc (.cells #[.string x0, .int .i64 p0, .slice b0 bn0 bc0, .slice g0 gn0 gc0, .string x1, .int .i64 p1, .slice b1 bn1 bc1, .slice g1 gn1 gc1, .bool false] 30)).alloc (.cells #[.string ⟨#[]⟩, .int .i64 0, .slice none 0 0, .slice none 0 0, .string ⟨#[]⟩, .int .i64 0, .slice none 0 0, .slice none 0 0, .bool false] 30)) := Rg.Bk.new (by simp)
  have hb1 := Rg.al2 w (.cells #[.string x0, .int .i64 p0, .slice b0 bn0 bc0, .slice g0 gn0 gc0, .string x1, .int .i64 p1, .slice b1 bn1 bc1, .slice g1 gn1 gc1, .bool false] 30) (.cells #[.string ⟨#[]⟩, .int .i64 0, .slice none 0 0, .slice none 0 0, .string ⟨#[]⟩, .int .i64 0, .slice none 0 0, .slice none 0 0, .bool false] 30)
  go_enter Try.func22, Try.ntmps22
  go_upto_region 1 with fail
  generalize World.alloc _ _ = w1 at *
  obtain ⟨B, hB⟩ : ∃ B, B = w.heap.size := ⟨_, rfl⟩
  obtain ⟨R, hR⟩ : ∃ R, R = w.heap.size + 1 := ⟨_, rfl⟩
  rw [← hR] at kR1 ⊢
  rw [← hB] at kB1 ⊢
  have hBR : B ≠ R := by omega
  have hBw : w.heap.size ≤ B := by omega
  have hRw : w.heap.size ≤ R := by omega
  clear hB hR
  have z0 : w1.cell? ⟨B, 0, none⟩ = some (.string x0) := kB1.cell 0
  have z1 : w1.cell? ⟨B, 1, none⟩ = some (.int .i64 p0) := kB1.cell 1
  have z2 : w1.cell? ⟨B, 2, none⟩ = some (.slice b0 bn0 bc0) := kB1.cell 2
  have z3 : w1.cell? ⟨B, 3, none⟩ = some (.slice g0 gn0 gc0) := kB1.cell 3
  have z4 : w1.cell? ⟨B, 4, none⟩ = some (.string x1) := kB1.cell 4
  have z5 : w1.cell? ⟨B, 5, none⟩ = some (.int .i64 p1) := kB1.cell 5
  have z6 : w1.cell? ⟨B, 6, none⟩ = some (.slice b1 bn1 bc1) := kB1.cell 6
  have z7 : w1.cell? ⟨B, 7, none⟩ = some (.slice g1 gn1 gc1) := kB1.cell 7
  have z8 : w1.cell? ⟨B, 8, none⟩ = some (.bool false) := kB1.cell 8
  have kB1' := Rg.hid kB1
  have kR1' := Rg.hid kR1
  have hb1' := Rg.hid hb1
  clear kB1 kR1 hb1
  go_upto_region 2 with (go_at_call 38; refine (HC.out _).mono ?_; rintro e w2 ⟨rfl, b2⟩)
  have kB3 := kB1'.out.below b2 kB1'.out.lt
  have kR3 := kR1'.out.below b2 kR1'.out.lt
  have hb3' := Rg.chain hb1'.out b2
  clear kB1' kR1' hb1' b2 HC z0 z1 z2 z3 z4 z5 z6 z7 z8
  obtain ⟨w3, hw3⟩ : ∃ w3, w3 = w2 := ⟨_, rfl⟩
  subst hw3
  have hb3 := Rg.hid hb3'
  obtain ⟨kE, oE⟩ := ret9 kR3 rfl (.string x0) (.int .i64 p0) (.slice b0 bn0 bc0) (.slice g0 gn0 gc0) (.string x1) (.int .i64 p1) (.slice b1 bn1 bc1) (.slice g1 gn1 gc1) (.bool false)
  have post := Rg.hid (hb3.out.trans (oE.bel hRw))
  replace kE := Rg.hid kE
  have d0' : w3.cell? ⟨B, 0, none⟩ = some (.string x0) := kB3.cell 0
  have d1' : w3.cell? ⟨B, 1, none⟩ = some (.int .i64 p0) := kB3.cell 1
  have d2' : w3.cell? ⟨B, 2, none⟩ = some (.slice b0 bn0 bc0) := kB3.cell 2
  have d3' : w3.cell? ⟨B, 3, none⟩ = some (.slice g0 gn0 gc0) := kB3.cell 3
  have d4' : w3.cell? ⟨B, 4, none⟩ = some (.string x1) := kB3.cell 4
  have d5' : w3.cell? ⟨B, 5, none⟩ = some (.int .i64 p1) := kB3.cell 5
  have d6' : w3.cell? ⟨B, 6, none⟩ = some (.slice b1 bn1 bc1) := kB3.cell 6
  have d7' : w3.cell? ⟨B, 7, none⟩ = some (.slice g1 gn1 gc1) := kB3.cell 7
  have d8' : w3.cell? ⟨B, 8, none⟩ = some (.bool false) := kB3.cell 8
  have r0 : w3.cell? ⟨R, 0, none⟩ = some (.string ⟨#[]⟩) := kR3.cell 0
  have r1 : w3.cell? ⟨R, 1, none⟩ = some (.int .i64 0) := kR3.cell 1
  have r2 : w3.cell? ⟨R, 2, none⟩ = some (.slice none 0 0) := kR3.cell 2
  have r3 : w3.cell? ⟨R, 3, none⟩ = some (.slice none 0 0) := kR3.cell 3
  have r4 : w3.cell? ⟨R, 4, none⟩ = some (.string ⟨#[]⟩) := kR3.cell 4
  have r5 : w3.cell? ⟨R, 5, none⟩ = some (.int .i64 0) := kR3.cell 5
  have r6 : w3.cell? ⟨R, 6, none⟩ = some (.slice none 0 0) := kR3.cell 6
  have r7 : w3.cell? ⟨R, 7, none⟩ = some (.slice none 0 0) := kR3.cell 7
  have r8 : w3.cell? ⟨R, 8, none⟩ = some (.bool false) := kR3.cell 8
  have rf := kR3.thaw
  clear oE kR3 kB3 hb3
  go_wp2
  replace kE := kE.out
  replace post := post.out
  generalize World.setCell _ _ _ = WE at *
  exact bodyPost_ret (v := .tuple #[.agg #[.string x0, .int .i64 p0, .slice b0 bn0 bc0, .slice g0 gn0 gc0, .string x1, .int .i64 p1, .slice b1 bn1 bc1, .slice g1 gn1 gc1, .bool false], .int .i64 6]) (by simp [results, Try.results22, go_sem, kE.cell]) rfl ⟨rfl, post⟩

set_option maxHeartbeats 1000000 in
set_option maxRecDepth 100000 in
theorem lflip_none1 (x0 : ByteArray) (p0 : Int) (b0 : Option Addr) (bn0 bc0 : Nat) (g0 : Option Addr) (gn0 gc0 : Nat) (x1 : ByteArray) (p1 : Int) (b1 : Option Addr) (bn1 bc1 : Nat) (g1 : Option Addr) (gn1 gc1 : Nat) (m : Int) (bit : Int) (w : World) (hat : ¬ (0 ≤ m ∧ m < (x1.size : Int))) :
    Calls Try.prog 22 #[.agg #[.string x0, .int .i64 p0, .slice b0 bn0 bc0, .slice g0 gn0 gc0, .string x1, .int .i64 p1, .slice b1 bn1 bc1, .slice g1 gn1 gc1, .bool true], .int .i64 1, .int .i64 m, .int .i64 bit] w fun e w' => e = .returned (.tuple #[.agg #[.string x0, .int .i64 p0, .slice b0 bn0 bc0, .slice g0 gn0 gc0, .string x1, .int .i64 p1, .slice b1 bn1 bc1, .slice g1 gn1 gc1, .bool true], .int .i64 6]) ∧ Below w.heap.size w w' := by
  have HC : Hid (∀ W, Calls Try.prog 38 #[.agg #[.string x0, .int .i64 p0, .slice b0 bn0 bc0, .slice g0 gn0 gc0, .string x1, .int .i64 p1, .slice b1 bn1 bc1, .slice g1 gn1 gc1, .bool true], .int .i64 1] W fun e w' => e = .returned (.bool true) ∧ Below W.heap.size W w') := fun W => lcarries1 x0 p0 b0 bn0 bc0 g0 gn0 gc0 x1 p1 b1 bn1 bc1 g1 gn1 gc1 true W
  have HU : Hid (∀ W, Calls Try.prog 39 #[.agg #[.string x1, .int .i64 p1, .slice b1 bn1 bc1, .slice g1 gn1 gc1], .int .i64 m] W fun e w' => e = .returned (.bool false) ∧ Below W.heap.size W w') := fun W => by
    have := lunder_any x1 p1 b1 bn1 bc1 g1 gn1 gc1 m W
    rw [show decide (0 ≤ m ∧ m < (x1.size : Int)) = false by simp; omega] at this
    exact this
  have kB1 : Rg.Bk w.heap.size [.string x0, .int .i64 p0, .slice b0 bn0 bc0, .slice g0 gn0 gc0, .string x1, .int .i64 p1, .slice b1 bn1 bc1, .slice g1 gn1 gc1, .bool true] 30 ((w.alloc (.cells #[.string x0, .int .i64 p0, .slice b0 bn0 bc0, .slice g0 gn0 gc0, .string x1, .int .i64 p1, .slice b1 bn1 bc1, .slice g1 gn1 gc1, .bool true] 30)).alloc (.cells #[.string ⟨#[]⟩, .int .i64 0, .slice none 0 0, .slice none 0 0, .string ⟨#[]⟩, .int .i64 0, .slice none 0 0, .slice none 0 0, .bool false] 30)) := (Rg.Bk.new rfl).old _
  have kR1 : Rg.Bk (w.heap.size + 1) [.string ⟨#[]⟩, .int .i64 0, .slice none 0 0, .slice none 0 0, .string ⟨#[]⟩, .int .i64 0, .slice none 0 0, .slice none 0 0, .bool false] 30 ((w.alloc (.cells #[.string x0, .int .i64 p0, .slice b0 bn0 bc0, .slice g0 gn0 gc0, .string x1, .int .i64 p1, .slice b1 bn1 bc1, .slice g1 gn1 gc1, .bool true] 30)).alloc (.cells #[.string ⟨#[]⟩, .int .i64 0, .slice none 0 0, .slice none 0 0, .string ⟨#[]⟩, .int .i64 0, .slice none 0 0, .slice none 0 0, .bool false] 30)) := Rg.Bk.new (by simp)
  have hb1 := Rg.al2 w (.cells #[.string x0, .int .i64 p0, .slice b0 bn0 bc0, .slice g0 gn0 gc0, .string x1, .int .i64 p1, .slice b1 bn1 bc1, .slice g1 gn1 gc1, .bool true] 30) (.cells #[.string ⟨#[]⟩, .int .i64 0, .slice none 0 0, .slice none 0 0, .string ⟨#[]⟩, .int .i64 0, .slice none 0 0, .slice none 0 0, .bool false] 30)
  go_enter Try.func22, Try.ntmps22
  go_upto_region 1 with fail
  generalize World.alloc _ _ = w1 at *
  obtain ⟨B, hB⟩ : ∃ B, B = w.heap.size := ⟨_, rfl⟩
  obtain ⟨R, hR⟩ : ∃ R, R = w.heap.size + 1 := ⟨_, rfl⟩
  rw [← hR] at kR1 ⊢
  rw [← hB] at kB1 ⊢
  have hBR : B ≠ R := by omega
  have hBw : w.heap.size ≤ B := by omega
  have hRw : w.heap.size ≤ R := by omega
  clear hB hR
  have z0 : w1.cell? ⟨B, 0, none⟩ = some (.string x0) := kB1.cell 0
  have z1 : w1.cell? ⟨B, 1, none⟩ = some (.int .i64 p0) := kB1.cell 1
  have z2 : w1.cell? ⟨B, 2, none⟩ = some (.slice b0 bn0 bc0) := kB1.cell 2
  have z3 : w1.cell? ⟨B, 3, none⟩ = some (.slice g0 gn0 gc0) := kB1.cell 3
  have z4 : w1.cell? ⟨B, 4, none⟩ = some (.string x1) := kB1.cell 4
  have z5 : w1.cell? ⟨B, 5, none⟩ = some (.int .i64 p1) := kB1.cell 5
  have z6 : w1.cell? ⟨B, 6, none⟩ = some (.slice b1 bn1 bc1) := kB1.cell 6
  have z7 : w1.cell? ⟨B, 7, none⟩ = some (.slice g1 gn1 gc1) := kB1.cell 7
  have z8 : w1.cell? ⟨B, 8, none⟩ = some (.bool true) := kB1.cell 8
  have kB1' := Rg.hid kB1
  have kR1' := Rg.hid kR1
  have hb1' := Rg.hid hb1
  clear kB1 kR1 hb1
  go_upto_region 2 with (first
    | (go_at_call 38; refine (HC.out _).mono ?_; rintro e w2 ⟨rfl, b2⟩; have kB2 := kB1'.out.below b2 kB1'.out.lt; have y4 := kB2.cell 4; have y5 := kB2.cell 5; have y6 := kB2.cell 6; have y7 := kB2.cell 7; simp only [List.getElem?_cons_zero, List.getElem?_cons_succ] at y4 y5 y6 y7)
    | (go_at_call 39; refine (HU.out _).mono ?_; rintro e w3 ⟨rfl, b3⟩; have kB3 := kB2.below b3 kB2.lt; have u := kB3.cell 4; simp only [List.getElem?_cons_zero, List.getElem?_cons_succ] at u))
  have kR3 := (kR1'.out.below b2 kR1'.out.lt).below b3 (kR1'.out.below b2 kR1'.out.lt).lt
  have hb3' := Rg.chain (Rg.chain hb1'.out b2) b3
  clear kB2 kB1' kR1' hb1' b2 b3 HC HU u y4 y5 y6 y7 z0 z1 z2 z3 z4 z5 z6 z7 z8
  have hb3 := Rg.hid hb3'
  obtain ⟨kE, oE⟩ := ret9 kR3 rfl (.string x0) (.int .i64 p0) (.slice b0 bn0 bc0) (.slice g0 gn0 gc0) (.string x1) (.int .i64 p1) (.slice b1 bn1 bc1) (.slice g1 gn1 gc1) (.bool true)
  have post := Rg.hid (hb3.out.trans (oE.bel hRw))
  replace kE := Rg.hid kE
  have d0' : w3.cell? ⟨B, 0, none⟩ = some (.string x0) := kB3.cell 0
  have d1' : w3.cell? ⟨B, 1, none⟩ = some (.int .i64 p0) := kB3.cell 1
  have d2' : w3.cell? ⟨B, 2, none⟩ = some (.slice b0 bn0 bc0) := kB3.cell 2
  have d3' : w3.cell? ⟨B, 3, none⟩ = some (.slice g0 gn0 gc0) := kB3.cell 3
  have d4' : w3.cell? ⟨B, 4, none⟩ = some (.string x1) := kB3.cell 4
  have d5' : w3.cell? ⟨B, 5, none⟩ = some (.int .i64 p1) := kB3.cell 5
  have d6' : w3.cell? ⟨B, 6, none⟩ = some (.slice b1 bn1 bc1) := kB3.cell 6
  have d7' : w3.cell? ⟨B, 7, none⟩ = some (.slice g1 gn1 gc1) := kB3.cell 7
  have d8' : w3.cell? ⟨B, 8, none⟩ = some (.bool true) := kB3.cell 8
  have r0 : w3.cell? ⟨R, 0, none⟩ = some (.string ⟨#[]⟩) := kR3.cell 0
  have r1 : w3.cell? ⟨R, 1, none⟩ = some (.int .i64 0) := kR3.cell 1
  have r2 : w3.cell? ⟨R, 2, none⟩ = some (.slice none 0 0) := kR3.cell 2
  have r3 : w3.cell? ⟨R, 3, none⟩ = some (.slice none 0 0) := kR3.cell 3
  have r4 : w3.cell? ⟨R, 4, none⟩ = some (.string ⟨#[]⟩) := kR3.cell 4
  have r5 : w3.cell? ⟨R, 5, none⟩ = some (.int .i64 0) := kR3.cell 5
  have r6 : w3.cell? ⟨R, 6, none⟩ = some (.slice none 0 0) := kR3.cell 6
  have r7 : w3.cell? ⟨R, 7, none⟩ = some (.slice none 0 0) := kR3.cell 7
  have r8 : w3.cell? ⟨R, 8, none⟩ = some (.bool false) := kR3.cell 8
  have rf := kR3.thaw
  clear oE kR3 kB3 hb3
  go_wp2
  replace kE := kE.out
  replace post := post.out
  generalize World.setCell _ _ _ = WE at *
  exact bodyPost_ret (v := .tuple #[.agg #[.string x0, .int .i64 p0, .slice b0 bn0 bc0, .slice g0 gn0 gc0, .string x1, .int .i64 p1, .slice b1 bn1 bc1, .slice g1 gn1 gc1, .bool true], .int .i64 6]) (by simp [results, Try.results22, go_sem, kE.cell]) rfl ⟨rfl, post⟩

set_option maxHeartbeats 1000000 in
set_option maxRecDepth 100000 in
theorem ladd_bad (x0 : ByteArray) (p0 : Int) (b0 : Option Addr) (bn0 bc0 : Nat) (g0 : Option Addr) (gn0 gc0 : Nat) (x1 : ByteArray) (p1 : Int) (b1 : Option Addr) (bn1 bc1 : Nat) (g1 : Option Addr) (gn1 gc1 : Nat) (up : Bool) (n : Int) (m : Int) (c : Int) (w : World) (h0 : n ≠ 0) (h1 : n ≠ 1) :
    Calls Try.prog 23 #[.agg #[.string x0, .int .i64 p0, .slice b0 bn0 bc0, .slice g0 gn0 gc0, .string x1, .int .i64 p1, .slice b1 bn1 bc1, .slice g1 gn1 gc1, .bool up], .int .i64 n, .int .i64 m, .int .u8 c] w fun e w' => e = .returned (.tuple #[.agg #[.string x0, .int .i64 p0, .slice b0 bn0 bc0, .slice g0 gn0 gc0, .string x1, .int .i64 p1, .slice b1 bn1 bc1, .slice g1 gn1 gc1, .bool up], .int .i64 6]) ∧ Below w.heap.size w w' := by
  have HC : Hid (∀ W, Calls Try.prog 38 #[.agg #[.string x0, .int .i64 p0, .slice b0 bn0 bc0, .slice g0 gn0 gc0, .string x1, .int .i64 p1, .slice b1 bn1 bc1, .slice g1 gn1 gc1, .bool up], .int .i64 n] W fun e w' => e = .returned (.bool false) ∧ Below W.heap.size W w') := fun W => lcarries_bad x0 p0 b0 bn0 bc0 g0 gn0 gc0 x1 p1 b1 bn1 bc1 g1 gn1 gc1 up n W h0 h1
  have kB1 : Rg.Bk w.heap.size [.string x0, .int .i64 p0, .slice b0 bn0 bc0, .slice g0 gn0 gc0, .string x1, .int .i64 p1, .slice b1 bn1 bc1, .slice g1 gn1 gc1, .bool up] 30 ((w.alloc (.cells #[.string x0, .int .i64 p0, .slice b0 bn0 bc0, .slice g0 gn0 gc0, .string x1, .int .i64 p1, .slice b1 bn1 bc1, .slice g1 gn1 gc1, .bool up] 30)).alloc (.cells #[.string ⟨#[]⟩, .int .i64 0, .slice none 0 0, .slice none 0 0, .string ⟨#[]⟩, .int .i64 0, .slice none 0 0, .slice none 0 0, .bool false] 30)) := (Rg.Bk.new rfl).old _
  have kR1 : Rg.Bk (w.heap.size + 1) [.string ⟨#[]⟩, .int .i64 0, .slice none 0 0, .slice none 0 0, .string ⟨#[]⟩, .int .i64 0, .slice none 0 0, .slice none 0 0, .bool false] 30 ((w.alloc (.cells #[.string x0, .int .i64 p0, .slice b0 bn0 bc0, .slice g0 gn0 gc0, .string x1, .int .i64 p1, .slice b1 bn1 bc1, .slice g1 gn1 gc1, .bool up] 30)).alloc (.cells #[.string ⟨#[]⟩, .int .i64 0, .slice none 0 0, .slice none 0 0, .string ⟨#[]⟩, .int .i64 0, .slice none 0 0, .slice none 0 0, .bool false] 30)) := Rg.Bk.new (by simp)
  have hb1 := Rg.al2 w (.cells #[.string x0, .int .i64 p0, .slice b0 bn0 bc0, .slice g0 gn0 gc0, .string x1, .int .i64 p1, .slice b1 bn1 bc1, .slice g1 gn1 gc1, .bool up] 30) (.cells #[.string ⟨#[]⟩, .int .i64 0, .slice none 0 0, .slice none 0 0, .string ⟨#[]⟩, .int .i64 0, .slice none 0 0, .slice none 0 0, .bool false] 30)
  go_enter Try.func23, Try.ntmps23
  go_upto_region 1 with fail
  generalize World.alloc _ _ = w1 at *
  obtain ⟨B, hB⟩ : ∃ B, B = w.heap.size := ⟨_, rfl⟩
  obtain ⟨R, hR⟩ : ∃ R, R = w.heap.size + 1 := ⟨_, rfl⟩
  rw [← hR] at kR1 ⊢
  rw [← hB] at kB1 ⊢
  have hBR : B ≠ R := by omega
  have hBw : w.heap.size ≤ B := by omega
  have hRw : w.heap.size ≤ R := by omega
  clear hB hR
  have z0 : w1.cell? ⟨B, 0, none⟩ = some (.string x0) := kB1.cell 0
  have z1 : w1.cell? ⟨B, 1, none⟩ = some (.int .i64 p0) := kB1.cell 1
  have z2 : w1.cell? ⟨B, 2, none⟩ = some (.slice b0 bn0 bc0) := kB1.cell 2
  have z3 : w1.cell? ⟨B, 3, none⟩ = some (.slice g0 gn0 gc0) := kB1.cell 3
  have z4 : w1.cell? ⟨B, 4, none⟩ = some (.string x1) := kB1.cell 4
  have z5 : w1.cell? ⟨B, 5, none⟩ = some (.int .i64 p1) := kB1.cell 5
  have z6 : w1.cell? ⟨B, 6, none⟩ = some (.slice b1 bn1 bc1) := kB1.cell 6
  have z7 : w1.cell? ⟨B, 7, none⟩ = some (.slice g1 gn1 gc1) := kB1.cell 7
  have z8 : w1.cell? ⟨B, 8, none⟩ = some (.bool up) := kB1.cell 8
  have kB1' := Rg.hid kB1
  have kR1' := Rg.hid kR1
  have hb1' := Rg.hid hb1
  clear kB1 kR1 hb1
  go_upto_region 2 with (go_at_call 38; refine (HC.out _).mono ?_; rintro e w2 ⟨rfl, b2⟩)
  have kB3 := kB1'.out.below b2 kB1'.out.lt
  have kR3 := kR1'.out.below b2 kR1'.out.lt
  have hb3' := Rg.chain hb1'.out b2
  clear kB1' kR1' hb1' b2 HC z0 z1 z2 z3 z4 z5 z6 z7 z8
  obtain ⟨w3, hw3⟩ : ∃ w3, w3 = w2 := ⟨_, rfl⟩
  subst hw3
  have hb3 := Rg.hid hb3'
  obtain ⟨kE, oE⟩ := ret9 kR3 rfl (.string x0) (.int .i64 p0) (.slice b0 bn0 bc0) (.slice g0 gn0 gc0) (.string x1) (.int .i64 p1) (.slice b1 bn1 bc1) (.slice g1 gn1 gc1) (.bool up)
  have post := Rg.hid (hb3.out.trans (oE.bel hRw))
  replace kE := Rg.hid kE
  have d0' : w3.cell? ⟨B, 0, none⟩ = some (.string x0) := kB3.cell 0
  have d1' : w3.cell? ⟨B, 1, none⟩ = some (.int .i64 p0) := kB3.cell 1
  have d2' : w3.cell? ⟨B, 2, none⟩ = some (.slice b0 bn0 bc0) := kB3.cell 2
  have d3' : w3.cell? ⟨B, 3, none⟩ = some (.slice g0 gn0 gc0) := kB3.cell 3
  have d4' : w3.cell? ⟨B, 4, none⟩ = some (.string x1) := kB3.cell 4
  have d5' : w3.cell? ⟨B, 5, none⟩ = some (.int .i64 p1) := kB3.cell 5
  have d6' : w3.cell? ⟨B, 6, none⟩ = some (.slice b1 bn1 bc1) := kB3.cell 6
  have d7' : w3.cell? ⟨B, 7, none⟩ = some (.slice g1 gn1 gc1) := kB3.cell 7
  have d8' : w3.cell? ⟨B, 8, none⟩ = some (.bool up) := kB3.cell 8
  have r0 : w3.cell? ⟨R, 0, none⟩ = some (.string ⟨#[]⟩) := kR3.cell 0
  have r1 : w3.cell? ⟨R, 1, none⟩ = some (.int .i64 0) := kR3.cell 1
  have r2 : w3.cell? ⟨R, 2, none⟩ = some (.slice none 0 0) := kR3.cell 2
  have r3 : w3.cell? ⟨R, 3, none⟩ = some (.slice none 0 0) := kR3.cell 3
  have r4 : w3.cell? ⟨R, 4, none⟩ = some (.string ⟨#[]⟩) := kR3.cell 4
  have r5 : w3.cell? ⟨R, 5, none⟩ = some (.int .i64 0) := kR3.cell 5
  have r6 : w3.cell? ⟨R, 6, none⟩ = some (.slice none 0 0) := kR3.cell 6
  have r7 : w3.cell? ⟨R, 7, none⟩ = some (.slice none 0 0) := kR3.cell 7
  have r8 : w3.cell? ⟨R, 8, none⟩ = some (.bool false) := kR3.cell 8
  have rf := kR3.thaw
  clear oE kR3 kB3 hb3
  go_wp2
  replace kE := kE.out
  replace post := post.out
  generalize World.setCell _ _ _ = WE at *
  exact bodyPost_ret (v := .tuple #[.agg #[.string x0, .int .i64 p0, .slice b0 bn0 bc0, .slice g0 gn0 gc0, .string x1, .int .i64 p1, .slice b1 bn1 bc1, .slice g1 gn1 gc1, .bool up], .int .i64 6]) (by simp [results, Try.results23, go_sem, kE.cell]) rfl ⟨rfl, post⟩

set_option maxHeartbeats 1000000 in
set_option maxRecDepth 100000 in
theorem ladd_down0 (x0 : ByteArray) (p0 : Int) (b0 : Option Addr) (bn0 bc0 : Nat) (g0 : Option Addr) (gn0 gc0 : Nat) (x1 : ByteArray) (p1 : Int) (b1 : Option Addr) (bn1 bc1 : Nat) (g1 : Option Addr) (gn1 gc1 : Nat) (m : Int) (c : Int) (w : World)  :
    Calls Try.prog 23 #[.agg #[.string x0, .int .i64 p0, .slice b0 bn0 bc0, .slice g0 gn0 gc0, .string x1, .int .i64 p1, .slice b1 bn1 bc1, .slice g1 gn1 gc1, .bool false], .int .i64 0, .int .i64 m, .int .u8 c] w fun e w' => e = .returned (.tuple #[.agg #[.string x0, .int .i64 p0, .slice b0 bn0 bc0, .slice g0 gn0 gc0, .string x1, .int .i64 p1, .slice b1 bn1 bc1, .slice g1 gn1 gc1, .bool false], .int .i64 6]) ∧ Below w.heap.size w w' := by
  have HC : Hid (∀ W, Calls Try.prog 38 #[.agg #[.string x0, .int .i64 p0, .slice b0 bn0 bc0, .slice g0 gn0 gc0, .string x1, .int .i64 p1, .slice b1 bn1 bc1, .slice g1 gn1 gc1, .bool false], .int .i64 0] W fun e w' => e = .returned (.bool false) ∧ Below W.heap.size W w') := fun W => lcarries0 x0 p0 b0 bn0 bc0 g0 gn0 gc0 x1 p1 b1 bn1 bc1 g1 gn1 gc1 false W
  have kB1 : Rg.Bk w.heap.size [.string x0, .int .i64 p0, .slice b0 bn0 bc0, .slice g0 gn0 gc0, .string x1, .int .i64 p1, .slice b1 bn1 bc1, .slice g1 gn1 gc1, .bool false] 30 ((w.alloc (.cells #[.string x0, .int .i64 p0, .slice b0 bn0 bc0, .slice g0 gn0 gc0, .string x1, .int .i64 p1, .slice b1 bn1 bc1, .slice g1 gn1 gc1, .bool false] 30)).alloc (.cells #[.string ⟨#[]⟩, .int .i64 0, .slice none 0 0, .slice none 0 0, .string ⟨#[]⟩, .int .i64 0, .slice none 0 0, .slice none 0 0, .bool false] 30)) := (Rg.Bk.new rfl).old _
  have kR1 : Rg.Bk (w.heap.size + 1) [.string ⟨#[]⟩, .int .i64 0, .slice none 0 0, .slice none 0 0, .string ⟨#[]⟩, .int .i64 0, .slice none 0 0, .slice none 0 0, .bool false] 30 ((w.alloc (.cells #[.string x0, .int .i64 p0, .slice b0 bn0 bc0, .slice g0 gn0 gc0, .string x1, .int .i64 p1, .slice b1 bn1 bc1, .slice g1 gn1 gc1, .bool false] 30)).alloc (.cells #[.string ⟨#[]⟩, .int .i64 0, .slice none 0 0, .slice none 0 0, .string ⟨#[]⟩, .int .i64 0, .slice none 0 0, .slice none 0 0, .bool false] 30)) := Rg.Bk.new (by simp)
  have hb1 := Rg.al2 w (.cells #[.string x0, .int .i64 p0, .slice b0 bn0 bc0, .slice g0 gn0 gc0, .string x1, .int .i64 p1, .slice b1 bn1 bc1, .slice g1 gn1 gc1, .bool false] 30) (.cells #[.string ⟨#[]⟩, .int .i64 0, .slice none 0 0, .slice none 0 0, .string ⟨#[]⟩, .int .i64 0, .slice none 0 0, .slice none 0 0, .bool false] 30)
  go_enter Try.func23, Try.ntmps23
  go_upto_region 1 with fail
  generalize World.alloc _ _ = w1 at *
  obtain ⟨B, hB⟩ : ∃ B, B = w.heap.size := ⟨_, rfl⟩
  obtain ⟨R, hR⟩ : ∃ R, R = w.heap.size + 1 := ⟨_, rfl⟩
  rw [← hR] at kR1 ⊢
  rw [← hB] at kB1 ⊢
  have hBR : B ≠ R := by omega
  have hBw : w.heap.size ≤ B := by omega
  have hRw : w.heap.size ≤ R := by omega
  clear hB hR
  have z0 : w1.cell? ⟨B, 0, none⟩ = some (.string x0) := kB1.cell 0
  have z1 : w1.cell? ⟨B, 1, none⟩ = some (.int .i64 p0) := kB1.cell 1
  have z2 : w1.cell? ⟨B, 2, none⟩ = some (.slice b0 bn0 bc0) := kB1.cell 2
  have z3 : w1.cell? ⟨B, 3, none⟩ = some (.slice g0 gn0 gc0) := kB1.cell 3
  have z4 : w1.cell? ⟨B, 4, none⟩ = some (.string x1) := kB1.cell 4
  have z5 : w1.cell? ⟨B, 5, none⟩ = some (.int .i64 p1) := kB1.cell 5
  have z6 : w1.cell? ⟨B, 6, none⟩ = some (.slice b1 bn1 bc1) := kB1.cell 6
  have z7 : w1.cell? ⟨B, 7, none⟩ = some (.slice g1 gn1 gc1) := kB1.cell 7
  have z8 : w1.cell? ⟨B, 8, none⟩ = some (.bool false) := kB1.cell 8
  have kB1' := Rg.hid kB1
  have kR1' := Rg.hid kR1
  have hb1' := Rg.hid hb1
  clear kB1 kR1 hb1
  go_upto_region 2 with (go_at_call 38; refine (HC.out _).mono ?_; rintro e w2 ⟨rfl, b2⟩)
  have kB3 := kB1'.out.below b2 kB1'.out.lt
  have kR3 := kR1'.out.below b2 kR1'.out.lt
  have hb3' := Rg.chain hb1'.out b2
  clear kB1' kR1' hb1' b2 HC z0 z1 z2 z3 z4 z5 z6 z7 z8
  obtain ⟨w3, hw3⟩ : ∃ w3, w3 = w2 := ⟨_, rfl⟩
  subst hw3
  have hb3 := Rg.hid hb3'
  obtain ⟨kE, oE⟩ := ret9 kR3 rfl (.string x0) (.int .i64 p0) (.slice b0 bn0 bc0) (.slice g0 gn0 gc0) (.string x1) (.int .i64 p1) (.slice b1 bn1 bc1) (.slice g1 gn1 gc1) (.bool false)
  have post := Rg.hid (hb3.out.trans (oE.bel hRw))
  replace kE := Rg.hid kE
  have d0' : w3.cell? ⟨B, 0, none⟩ = some (.string x0) := kB3.cell 0
  have d1' : w3.cell? ⟨B, 1, none⟩ = some (.int .i64 p0) := kB3.cell 1
  have d2' : w3.cell? ⟨B, 2, none⟩ = some (.slice b0 bn0 bc0) := kB3.cell 2
  have d3' : w3.cell? ⟨B, 3, none⟩ = some (.slice g0 gn0 gc0) := kB3.cell 3
  have d4' : w3.cell? ⟨B, 4, none⟩ = some (.string x1) := kB3.cell 4
  have d5' : w3.cell? ⟨B, 5, none⟩ = some (.int .i64 p1) := kB3.cell 5
  have d6' : w3.cell? ⟨B, 6, none⟩ = some (.slice b1 bn1 bc1) := kB3.cell 6
  have d7' : w3.cell? ⟨B, 7, none⟩ = some (.slice g1 gn1 gc1) := kB3.cell 7
  have d8' : w3.cell? ⟨B, 8, none⟩ = some (.bool false) := kB3.cell 8
  have r0 : w3.cell? ⟨R, 0, none⟩ = some (.string ⟨#[]⟩) := kR3.cell 0
  have r1 : w3.cell? ⟨R, 1, none⟩ = some (.int .i64 0) := kR3.cell 1
  have r2 : w3.cell? ⟨R, 2, none⟩ = some (.slice none 0 0) := kR3.cell 2
  have r3 : w3.cell? ⟨R, 3, none⟩ = some (.slice none 0 0) := kR3.cell 3
  have r4 : w3.cell? ⟨R, 4, none⟩ = some (.string ⟨#[]⟩) := kR3.cell 4
  have r5 : w3.cell? ⟨R, 5, none⟩ = some (.int .i64 0) := kR3.cell 5
  have r6 : w3.cell? ⟨R, 6, none⟩ = some (.slice none 0 0) := kR3.cell 6
  have r7 : w3.cell? ⟨R, 7, none⟩ = some (.slice none 0 0) := kR3.cell 7
  have r8 : w3.cell? ⟨R, 8, none⟩ = some (.bool false) := kR3.cell 8
  have rf := kR3.thaw
  clear oE kR3 kB3 hb3
  go_wp2
  replace kE := kE.out
  replace post := post.out
  generalize World.setCell _ _ _ = WE at *
  exact bodyPost_ret (v := .tuple #[.agg #[.string x0, .int .i64 p0, .slice b0 bn0 bc0, .slice g0 gn0 gc0, .string x1, .int .i64 p1, .slice b1 bn1 bc1, .slice g1 gn1 gc1, .bool false], .int .i64 6]) (by simp [results, Try.results23, go_sem, kE.cell]) rfl ⟨rfl, post⟩

set_option maxHeartbeats 1000000 in
set_option maxRecDepth 100000 in
theorem ladd_none0 (x0 : ByteArray) (p0 : Int) (b0 : Option Addr) (bn0 bc0 : Nat) (g0 : Option Addr) (gn0 gc0 : Nat) (x1 : ByteArray) (p1 : Int) (b1 : Option Addr) (bn1 bc1 : Nat) (g1 : Option Addr) (gn1 gc1 : Nat) (m : Int) (c : Int) (w : World) (hat : ¬ (0 ≤ m ∧ m < (x0.size : Int))) (hae : m ≠ (x0.size : Int)) :
    Calls Try.prog 23 #[.agg #[.string x0, .int .i64 p0, .slice b0 bn0 bc0, .slice g0 gn0 gc0, .string x1, .int .i64 p1, .slice b1 bn1 bc1, .slice g1 gn1 gc1, .bool true], .int .i64 0, .int .i64 m, .int .u8 c] w fun e w' => e = .returned (.tuple #[.agg #[.string x0, .int .i64 p0, .slice b0 bn0 bc0, .slice g0 gn0 gc0, .string x1, .int .i64 p1, .slice b1 bn1 bc1, .slice g1 gn1 gc1, .bool true], .int .i64 6]) ∧ Below w.heap.size w w' := by
  have HC : Hid (∀ W, Calls Try.prog 38 #[.agg #[.string x0, .int .i64 p0, .slice b0 bn0 bc0, .slice g0 gn0 gc0, .string x1, .int .i64 p1, .slice b1 bn1 bc1, .slice g1 gn1 gc1, .bool true], .int .i64 0] W fun e w' => e = .returned (.bool true) ∧ Below W.heap.size W w') := fun W => lcarries0 x0 p0 b0 bn0 bc0 g0 gn0 gc0 x1 p1 b1 bn1 bc1 g1 gn1 gc1 true W
  have HU : Hid (∀ W, Calls Try.prog 39 #[.agg #[.string x0, .int .i64 p0, .slice b0 bn0 bc0, .slice g0 gn0 gc0], .int .i64 m] W fun e w' => e = .returned (.bool false) ∧ Below W.heap.size W w') := fun W => by
    have := lunder_any x0 p0 b0 bn0 bc0 g0 gn0 gc0 m W
    rw [show decide (0 ≤ m ∧ m < (x0.size : Int)) = false by simp; omega] at this
    exact this
  have dne : (m != (x0.size : Int)) = true := by simp [hae]
  have kB1 : Rg.Bk w.heap.size [.string x0, .int .i64 p0, .slice b0 bn0 bc0, .slice g0 gn0 gc0, .string x1, .int .i64 p1, .slice b1 bn1 bc1, .slice g1 gn1 gc1, .bool true] 30 ((w.alloc (.cells #[.string x0, .int .i64 p0, .slice b0 bn0 bc0, .slice g0 gn0 gc0, .string x1, .int .i64 p1, .slice b1 bn1 bc1, .slice g1 gn1 gc1, .bool true] 30)).alloc (.cells #[.string ⟨#[]⟩, .int .i64 0, .slice none 0 0, .slice none 0 0, .string ⟨#[]⟩, .int .i64 0, .slice none 0 0, .slice none 0 0, .bool false] 30)) := (Rg.Bk.new rfl).old _
  have kR1 : Rg.Bk (w.heap.size + 1) [.string ⟨#[]⟩, .int .i64 0, .slice none 0 0, .slice none 0 0, .string ⟨#[]⟩, .int .i64 0, .slice none 0 0, .slice none 0 0, .bool false] 30 ((w.alloc (.cells #[.string x0, .int .i64 p0, .slice b0 bn0 bc0, .slice g0 gn0 gc0, .string x1, .int .i64 p1, .slice b1 bn1 bc1, .slice g1 gn1 gc1, .bool true] 30)).alloc (.cells #[.string ⟨#[]⟩, .int .i64 0, .slice none 0 0, .slice none 0 0, .string ⟨#[]⟩, .int .i64 0, .slice none 0 0, .slice none 0 0, .bool false] 30)) := Rg.Bk.new (by simp)
  have hb1 := Rg.al2 w (.cells #[.string x0, .int .i64 p0, .slice b0 bn0 bc0, .slice g0 gn0 gc0, .string x1, .int .i64 p1, .slice b1 bn1 bc1, .slice g1 gn1 gc1, .bool true] 30) (.cells #[.string ⟨#[]⟩, .int .i64 0, .slice none 0 0, .slice none 0 0, .string ⟨#[]⟩, .int .i64 0, .slice none 0 0, .slice none 0 0, .bool false] 30)
  go_enter Try.func23, Try.ntmps23
  go_upto_region 1 with fail
  generalize World.alloc _ _ = w1 at *
  obtain ⟨B, hB⟩ : ∃ B, B = w.heap.size := ⟨_, rfl⟩
  obtain ⟨R, hR⟩ : ∃ R, R = w.heap.size + 1 := ⟨_, rfl⟩
  rw [← hR] at kR1 ⊢
  rw [← hB] at kB1 ⊢
  have hBR : B ≠ R := by omega
  have hBw : w.heap.size ≤ B := by omega
  have hRw : w.heap.size ≤ R := by omega
  clear hB hR
  have z0 : w1.cell? ⟨B, 0, none⟩ = some (.string x0) := kB1.cell 0
  have z1 : w1.cell? ⟨B, 1, none⟩ = some (.int .i64 p0) := kB1.cell 1
  have z2 : w1.cell? ⟨B, 2, none⟩ = some (.slice b0 bn0 bc0) := kB1.cell 2
  have z3 : w1.cell? ⟨B, 3, none⟩ = some (.slice g0 gn0 gc0) := kB1.cell 3
  have z4 : w1.cell? ⟨B, 4, none⟩ = some (.string x1) := kB1.cell 4
  have z5 : w1.cell? ⟨B, 5, none⟩ = some (.int .i64 p1) := kB1.cell 5
  have z6 : w1.cell? ⟨B, 6, none⟩ = some (.slice b1 bn1 bc1) := kB1.cell 6
  have z7 : w1.cell? ⟨B, 7, none⟩ = some (.slice g1 gn1 gc1) := kB1.cell 7
  have z8 : w1.cell? ⟨B, 8, none⟩ = some (.bool true) := kB1.cell 8
  have kB1' := Rg.hid kB1
  have kR1' := Rg.hid kR1
  have hb1' := Rg.hid hb1
  clear kB1 kR1 hb1
  go_upto_region 2 with (first
    | (go_at_call 38; refine (HC.out _).mono ?_; rintro e w2 ⟨rfl, b2⟩; have kB2 := kB1'.out.below b2 kB1'.out.lt; have y0 := kB2.cell 0; have y1 := kB2.cell 1; have y2 := kB2.cell 2; have y3 := kB2.cell 3; simp only [List.getElem?_cons_zero, List.getElem?_cons_succ] at y0 y1 y2 y3)
    | (go_at_call 39; refine (HU.out _).mono ?_; rintro e w3 ⟨rfl, b3⟩; have kB3 := kB2.below b3 kB2.lt; have u := kB3.cell 0; simp only [List.getElem?_cons_zero] at u))
  have kR3 := (kR1'.out.below b2 kR1'.out.lt).below b3 (kR1'.out.below b2 kR1'.out.lt).lt
  have hb3' := Rg.chain (Rg.chain hb1'.out b2) b3
  clear kB2 kB1' kR1' hb1' b2 b3 HC HU u y0 y1 y2 y3 z0 z1 z2 z3 z4 z5 z6 z7 z8
  have hb3 := Rg.hid hb3'
  obtain ⟨kE, oE⟩ := ret9 kR3 rfl (.string x0) (.int .i64 p0) (.slice b0 bn0 bc0) (.slice g0 gn0 gc0) (.string x1) (.int .i64 p1) (.slice b1 bn1 bc1) (.slice g1 gn1 gc1) (.bool true)
  have post := Rg.hid (hb3.out.trans (oE.bel hRw))
  replace kE := Rg.hid kE
  have d0' : w3.cell? ⟨B, 0, none⟩ = some (.string x0) := kB3.cell 0
  have d1' : w3.cell? ⟨B, 1, none⟩ = some (.int .i64 p0) := kB3.cell 1
  have d2' : w3.cell? ⟨B, 2, none⟩ = some (.slice b0 bn0 bc0) := kB3.cell 2
  have d3' : w3.cell? ⟨B, 3, none⟩ = some (.slice g0 gn0 gc0) := kB3.cell 3
  have d4' : w3.cell? ⟨B, 4, none⟩ = some (.string x1) := kB3.cell 4
  have d5' : w3.cell? ⟨B, 5, none⟩ = some (.int .i64 p1) := kB3.cell 5
  have d6' : w3.cell? ⟨B, 6, none⟩ = some (.slice b1 bn1 bc1) := kB3.cell 6
  have d7' : w3.cell? ⟨B, 7, none⟩ = some (.slice g1 gn1 gc1) := kB3.cell 7
  have d8' : w3.cell? ⟨B, 8, none⟩ = some (.bool true) := kB3.cell 8
  have r0 : w3.cell? ⟨R, 0, none⟩ = some (.string ⟨#[]⟩) := kR3.cell 0
  have r1 : w3.cell? ⟨R, 1, none⟩ = some (.int .i64 0) := kR3.cell 1
  have r2 : w3.cell? ⟨R, 2, none⟩ = some (.slice none 0 0) := kR3.cell 2
  have r3 : w3.cell? ⟨R, 3, none⟩ = some (.slice none 0 0) := kR3.cell 3
  have r4 : w3.cell? ⟨R, 4, none⟩ = some (.string ⟨#[]⟩) := kR3.cell 4
  have r5 : w3.cell? ⟨R, 5, none⟩ = some (.int .i64 0) := kR3.cell 5
  have r6 : w3.cell? ⟨R, 6, none⟩ = some (.slice none 0 0) := kR3.cell 6
  have r7 : w3.cell? ⟨R, 7, none⟩ = some (.slice none 0 0) := kR3.cell 7
  have r8 : w3.cell? ⟨R, 8, none⟩ = some (.bool false) := kR3.cell 8
  have rf := kR3.thaw
  clear oE kR3 kB3 hb3
  go_wp2
  replace kE := kE.out
  replace post := post.out
  generalize World.setCell _ _ _ = WE at *
  exact bodyPost_ret (v := .tuple #[.agg #[.string x0, .int .i64 p0, .slice b0 bn0 bc0, .slice g0 gn0 gc0, .string x1, .int .i64 p1, .slice b1 bn1 bc1, .slice g1 gn1 gc1, .bool true], .int .i64 6]) (by simp [results, Try.results23, go_sem, kE.cell]) rfl ⟨rfl, post⟩

set_option maxHeartbeats 1000000 in
set_option maxRecDepth 100000 in
theorem ladd_down1 (x0 : ByteArray) (p0 : Int) (b0 : Option Addr) (bn0 bc0 : Nat) (g0 : Option Addr) (gn0 gc0 : Nat) (x1 : ByteArray) (p1 : Int) (b1 : Option Addr) (bn1 bc1 : Nat) (g1 : Option Addr) (gn1 gc1 : Nat) (m : Int) (c : Int) (w : World)  :
    Calls Try.prog 23 #[.agg #[.string x0, .int .i64 p0, .slice b0 bn0 bc0, .slice g0 gn0 gc0, .string x1, .int .i64 p1, .slice b1 bn1 bc1, .slice g1 gn1 gc1, .bool false], .int .i64 1, .int .i64 m, .int .u8 c] w fun e w' => e = .returned (.tuple #[.agg #[.string x0, .int .i64 p0, .slice b0 bn0 bc0, .slice g0 gn0 gc0, .string x1, .int .i64 p1, .slice b1 bn1 bc1, .slice g1 gn1 gc1, .bool false], .int .i64 6]) ∧ Below w.heap.size w w' := by
  have HC : Hid (∀ W, Calls Try.prog 38 #[.agg #[.string x0, .int .i64 p0, .slice b0 bn0 bc0, .slice g0 gn0 gc0, .string x1, .int .i64 p1, .slice b1 bn1 bc1, .slice g1 gn1 gc1, .bool false], .int .i64 1] W fun e w' => e = .returned (.bool false) ∧ Below W.heap.size W w') := fun W => lcarries1 x0 p0 b0 bn0 bc0 g0 gn0 gc0 x1 p1 b1 bn1 bc1 g1 gn1 gc1 false W
  have kB1 : Rg.Bk w.heap.size [.string x0, .int .i64 p0, .slice b0 bn0 bc0, .slice g0 gn0 gc0, .string x1, .int .i64 p1, .slice b1 bn1 bc1, .slice g1 gn1 gc1, .bool false] 30 ((w.alloc (.cells #[.string x0, .int .i64 p0, .slice b0 bn0 bc0, .slice g0 gn0 gc0, .string x1, .int .i64 p1, .slice b1 bn1 bc1, .slice g1 gn1 gc1, .bool false] 30)).alloc (.cells #[.string ⟨#[]⟩, .int .i64 0, .slice none 0 0, .slice none 0 0, .string ⟨#[]⟩, .int .i64 0, .slice none 0 0, .slice none 0 0, .bool false] 30)) := (Rg.Bk.new rfl).old _
  have kR1 : Rg.Bk (w.heap.size + 1) [.string ⟨#[]⟩, .int .i64 0, .slice none 0 0, .slice none 0 0, .string ⟨#[]⟩, .int .i64 0, .slice none 0 0, .slice none 0 0, .bool false] 30 ((w.alloc (.cells #[.string x0, .int .i64 p0, .slice b0 bn0 bc0, .slice g0 gn0 gc0, .string x1, .int .i64 p1, .slice b1 bn1 bc1, .slice g1 gn1 gc1, .bool false] 30)).alloc (.cells #[.string ⟨#[]⟩, .int .i64 0, .slice none 0 0, .slice none 0 0, .string ⟨#[]⟩, .int .i64 0, .slice none 0 0, .slice none 0 0, .bool false] 30)) := Rg.Bk.new (by simp)
  have hb1 := Rg.al2 w (.cells #[.string x0, .int .i64 p0, .slice b0 bn0 bc0, .slice g0 gn0 gc0, .string x1, .int .i64 p1, .slice b1 bn1 bc1, .slice g1 gn1 gc1, .bool false] 30) (.cells #[.string ⟨#[]⟩, .int .i64 0, .slice none 0 0, .slice none 0 0, .string ⟨#[]⟩, .int .i64 0, .slice none 0 0, .slice none 0 0, .bool false] 30)
  go_enter Try.func23, Try.ntmps23
  go_upto_region 1 with fail
  generalize World.alloc _ _ = w1 at *
  obtain ⟨B, hB⟩ : ∃ B, B = w.heap.size := ⟨_, rfl⟩
  obtain ⟨R, hR⟩ : ∃ R, R = w.heap.size + 1 := ⟨_, rfl⟩
  rw [← hR] at kR1 ⊢
  rw [← hB] at kB1 ⊢
  have hBR : B ≠ R := by omega
  have hBw : w.heap.size ≤ B := by omega
  have hRw : w.heap.size ≤ R := by omega
  clear hB hR
  have z0 : w1.cell? ⟨B, 0, none⟩ = some (.string x0) := kB1.cell 0
  have z1 : w1.cell? ⟨B, 1, none⟩ = some (.int .i64 p0) := kB1.cell 1
  have z2 : w1.cell? ⟨B, 2, none⟩ = some (.slice b0 bn0 bc0) := kB1.cell 2
  have z3 : w1.cell? ⟨B, 3, none⟩ = some (.slice g0 gn0 gc0) := kB1.cell 3
  have z4 : w1.cell? ⟨B, 4, none⟩ = some (.string x1) := kB1.cell 4
  have z5 : w1.cell? ⟨B, 5, none⟩ = some (.int .i64 p1) := kB1.cell 5
  have z6 : w1.cell? ⟨B, 6, none⟩ = some (.slice b1 bn1 bc1) := kB1.cell 6
  have z7 : w1.cell? ⟨B, 7, none⟩ = some (.slice g1 gn1 gc1) := kB1.cell 7
  have z8 : w1.cell? ⟨B, 8, none⟩ = some (.bool false) := kB1.cell 8
  have kB1' := Rg.hid kB1
  have kR1' := Rg.hid kR1
  have hb1' := Rg.hid hb1
  clear kB1 kR1 hb1
  go_upto_region 2 with (go_at_call 38; refine (HC.out _).mono ?_; rintro e w2 ⟨rfl, b2⟩)
  have kB3 := kB1'.out.below b2 kB1'.out.lt
  have kR3 := kR1'.out.below b2 kR1'.out.lt
  have hb3' := Rg.chain hb1'.out b2
  clear kB1' kR1' hb1' b2 HC z0 z1 z2 z3 z4 z5 z6 z7 z8
  obtain ⟨w3, hw3⟩ : ∃ w3, w3 = w2 := ⟨_, rfl⟩
  subst hw3
  have hb3 := Rg.hid hb3'
  obtain ⟨kE, oE⟩ := ret9 kR3 rfl (.string x0) (.int .i64 p0) (.slice b0 bn0 bc0) (.slice g0 gn0 gc0) (.string x1) (.int .i64 p1) (.slice b1 bn1 bc1) (.slice g1 gn1 gc1) (.bool false)
  have post := Rg.hid (hb3.out.trans (oE.bel hRw))
  replace kE := Rg.hid kE
  have d0' : w3.cell? ⟨B, 0, none⟩ = some (.string x0) := kB3.cell 0
  have d1' : w3.cell? ⟨B, 1, none⟩ = some (.int .i64 p0) := kB3.cell 1
  have d2' : w3.cell? ⟨B, 2, none⟩ = some (.slice b0 bn0 bc0) := kB3.cell 2
  have d3' : w3.cell? ⟨B, 3, none⟩ = some (.slice g0 gn0 gc0) := kB3.cell 3
  have d4' : w3.cell? ⟨B, 4, none⟩ = some (.string x1) := kB3.cell 4
  have d5' : w3.cell? ⟨B, 5, none⟩ = some (.int .i64 p1) := kB3.cell 5
  have d6' : w3.cell? ⟨B, 6, none⟩ = some (.slice b1 bn1 bc1) := kB3.cell 6
  have d7' : w3.cell? ⟨B, 7, none⟩ = some (.slice g1 gn1 gc1) := kB3.cell 7
  have d8' : w3.cell? ⟨B, 8, none⟩ = some (.bool false) := kB3.cell 8
  have r0 : w3.cell? ⟨R, 0, none⟩ = some (.string ⟨#[]⟩) := kR3.cell 0
  have r1 : w3.cell? ⟨R, 1, none⟩ = some (.int .i64 0) := kR3.cell 1
  have r2 : w3.cell? ⟨R, 2, none⟩ = some (.slice none 0 0) := kR3.cell 2
  have r3 : w3.cell? ⟨R, 3, none⟩ = some (.slice none 0 0) := kR3.cell 3
  have r4 : w3.cell? ⟨R, 4, none⟩ = some (.string ⟨#[]⟩) := kR3.cell 4
  have r5 : w3.cell? ⟨R, 5, none⟩ = some (.int .i64 0) := kR3.cell 5
  have r6 : w3.cell? ⟨R, 6, none⟩ = some (.slice none 0 0) := kR3.cell 6
  have r7 : w3.cell? ⟨R, 7, none⟩ = some (.slice none 0 0) := kR3.cell 7
  have r8 : w3.cell? ⟨R, 8, none⟩ = some (.bool false) := kR3.cell 8
  have rf := kR3.thaw
  clear oE kR3 kB3 hb3
  go_wp2
  replace kE := kE.out
  replace post := post.out
  generalize World.setCell _ _ _ = WE at *
  exact bodyPost_ret (v := .tuple #[.agg #[.string x0, .int .i64 p0, .slice b0 bn0 bc0, .slice g0 gn0 gc0, .string x1, .int .i64 p1, .slice b1 bn1 bc1, .slice g1 gn1 gc1, .bool false], .int .i64 6]) (by simp [results, Try.results23, go_sem, kE.cell]) rfl ⟨rfl, post⟩

set_option maxHeartbeats 1000000 in
set_option maxRecDepth 100000 in
theorem ladd_none1 (x0 : ByteArray) (p0 : Int) (b0 : Option Addr) (bn0 bc0 : Nat) (g0 : Option Addr) (gn0 gc0 : Nat) (x1 : ByteArray) (p1 : Int) (b1 : Option Addr) (bn1 bc1 : Nat) (g1 : Option Addr) (gn1 gc1 : Nat) (m : Int) (c : Int) (w : World) (hat : ¬ (0 ≤ m ∧ m < (x1.size : Int))) (hae : m ≠ (x1.size : Int)) :
    Calls Try.prog 23 #[.agg #[.string x0, .int .i64 p0, .slice b0 bn0 bc0, .slice g0 gn0 gc0, .string x1, .int .i64 p1, .slice b1 bn1 bc1, .slice g1 gn1 gc1, .bool true], .int .i64 1, .int .i64 m, .int .u8 c] w fun e w' => e = .returned (.tuple #[.agg #[.string x0, .int .i64 p0, .slice b0 bn0 bc0, .slice g0 gn0 gc0, .string x1, .int .i64 p1, .slice b1 bn1 bc1, .slice g1 gn1 gc1, .bool true], .int .i64 6]) ∧ Below w.heap.size w w' := by
  have HC : Hid (∀ W, Calls Try.prog 38 #[.agg #[.string x0, .int .i64 p0, .slice b0 bn0 bc0, .slice g0 gn0 gc0, .string x1, .int .i64 p1, .slice b1 bn1 bc1, .slice g1 gn1 gc1, .bool true], .int .i64 1] W fun e w' => e = .returned (.bool true) ∧ Below W.heap.size W w') := fun W => lcarries1 x0 p0 b0 bn0 bc0 g0 gn0 gc0 x1 p1 b1 bn1 bc1 g1 gn1 gc1 true W
  have HU : Hid (∀ W, Calls Try.prog 39 #[.agg #[.string x1, .int .i64 p1, .slice b1 bn1 bc1, .slice g1 gn1 gc1], .int .i64 m] W fun e w' => e = .returned (.bool false) ∧ Below W.heap.size W w') := fun W => by
    have := lunder_any x1 p1 b1 bn1 bc1 g1 gn1 gc1 m W
    rw [show decide (0 ≤ m ∧ m < (x1.size : Int)) = false by simp; omega] at this
    exact this
  have dne : (m != (x1.size : Int)) = true := by simp [hae]
  have kB1 : Rg.Bk w.heap.size [.string x0, .int .i64 p0, .slice b0 bn0 bc0, .slice g0 gn0 gc0, .string x1, .int .i64 p1, .slice b1 bn1 bc1, .slice g1 gn1 gc1, .bool true] 30 ((w.alloc (.cells #[.string x0, .int .i64 p0, .slice b0 bn0 bc0, .slice g0 gn0 gc0, .string x1, .int .i64 p1, .slice b1 bn1 bc1, .slice g1 gn1 gc1, .bool true] 30)).alloc (.cells #[.string ⟨#[]⟩, .int .i64 0, .slice none 0 0, .slice none 0 0, .string ⟨#[]⟩, .int .i64 0, .slice none 0 0, .slice none 0 0, .bool false] 30)) := (Rg.Bk.new rfl).old _
  have kR1 : Rg.Bk (w.heap.size + 1) [.string ⟨#[]⟩, .int .i64 0, .slice none 0 0, .slice none 0 0, .string ⟨#[]⟩, .int .i64 0, .slice none 0 0, .slice none 0 0, .bool false] 30 ((w.alloc (.cells #[.string x0, .int .i64 p0, .slice b0 bn0 bc0, .slice g0 gn0 gc0, .string x1, .int .i64 p1, .slice b1 bn1 bc1, .slice g1 gn1 gc1, .bool true] 30)).alloc (.cells #[.string ⟨#[]⟩, .int .i64 0, .slice none 0 0, .slice none 0 0, .string ⟨#[]⟩, .int .i64 0, .slice none 0 0, .slice none 0 0, .bool false] 30)) := Rg.Bk.new (by simp)
  have hb1 := Rg.al2 w (.cells #[.string x0, .int .i64 p0, .slice b0 bn0 bc0, .slice g0 gn0 gc0, .string x1, .int .i64 p1, .slice b1 bn1 bc1, .slice g1 gn1 gc1, .bool true] 30) (.cells #[.string ⟨#[]⟩, .int .i64 0, .slice none 0 0, .slice none 0 0, .string ⟨#[]⟩, .int .i64 0, .slice none 0 0, .slice none 0 0, .bool false] 30)
  go_enter Try.func23, Try.ntmps23
  go_upto_region 1 with fail
  generalize World.alloc _ _ = w1 at *
  obtain ⟨B, hB⟩ : ∃ B, B = w.heap.size := ⟨_, rfl⟩
  obtain ⟨R, hR⟩ : ∃ R, R = w.heap.size + 1 := ⟨_, rfl⟩
  rw [← hR] at kR1 ⊢
  rw [← hB] at kB1 ⊢
  have hBR : B ≠ R := by omega
  have hBw : w.heap.size ≤ B := by omega
  have hRw : w.heap.size ≤ R := by omega
  clear hB hR
  have z0 : w1.cell? ⟨B, 0, none⟩ = some (.string x0) := kB1.cell 0
  have z1 : w1.cell? ⟨B, 1, none⟩ = some (.int .i64 p0) := kB1.cell 1
  have z2 : w1.cell? ⟨B, 2, none⟩ = some (.slice b0 bn0 bc0) := kB1.cell 2
  have z3 : w1.cell? ⟨B, 3, none⟩ = some (.slice g0 gn0 gc0) := kB1.cell 3
  have z4 : w1.cell? ⟨B, 4, none⟩ = some (.string x1) := kB1.cell 4
  have z5 : w1.cell? ⟨B, 5, none⟩ = some (.int .i64 p1) := kB1.cell 5
  have z6 : w1.cell? ⟨B, 6, none⟩ = some (.slice b1 bn1 bc1) := kB1.cell 6
  have z7 : w1.cell? ⟨B, 7, none⟩ = some (.slice g1 gn1 gc1) := kB1.cell 7
  have z8 : w1.cell? ⟨B, 8, none⟩ = some (.bool true) := kB1.cell 8
  have kB1' := Rg.hid kB1
  have kR1' := Rg.hid kR1
  have hb1' := Rg.hid hb1
  clear kB1 kR1 hb1
  go_upto_region 2 with (first
    | (go_at_call 38; refine (HC.out _).mono ?_; rintro e w2 ⟨rfl, b2⟩; have kB2 := kB1'.out.below b2 kB1'.out.lt; have y4 := kB2.cell 4; have y5 := kB2.cell 5; have y6 := kB2.cell 6; have y7 := kB2.cell 7; simp only [List.getElem?_cons_zero, List.getElem?_cons_succ] at y4 y5 y6 y7)
    | (go_at_call 39; refine (HU.out _).mono ?_; rintro e w3 ⟨rfl, b3⟩; have kB3 := kB2.below b3 kB2.lt; have u := kB3.cell 4; simp only [List.getElem?_cons_zero, List.getElem?_cons_succ] at u))
  have kR3 := (kR1'.out.below b2 kR1'.out.lt).below b3 (kR1'.out.below b2 kR1'.out.lt).lt
  have hb3' := Rg.chain (Rg.chain hb1'.out b2) b3
  clear kB2 kB1' kR1' hb1' b2 b3 HC HU u y4 y5 y6 y7 z0 z1 z2 z3 z4 z5 z6 z7 z8
  have hb3 := Rg.hid hb3'
  obtain ⟨kE, oE⟩ := ret9 kR3 rfl (.string x0) (.int .i64 p0) (.slice b0 bn0 bc0) (.slice g0 gn0 gc0) (.string x1) (.int .i64 p1) (.slice b1 bn1 bc1) (.slice g1 gn1 gc1) (.bool true)
  have post := Rg.hid (hb3.out.trans (oE.bel hRw))
  replace kE := Rg.hid kE
  have d0' : w3.cell? ⟨B, 0, none⟩ = some (.string x0) := kB3.cell 0
  have d1' : w3.cell? ⟨B, 1, none⟩ = some (.int .i64 p0) := kB3.cell 1
  have d2' : w3.cell? ⟨B, 2, none⟩ = some (.slice b0 bn0 bc0) := kB3.cell 2
  have d3' : w3.cell? ⟨B, 3, none⟩ = some (.slice g0 gn0 gc0) := kB3.cell 3
  have d4' : w3.cell? ⟨B, 4, none⟩ = some (.string x1) := kB3.cell 4
  have d5' : w3.cell? ⟨B, 5, none⟩ = some (.int .i64 p1) := kB3.cell 5
  have d6' : w3.cell? ⟨B, 6, none⟩ = some (.slice b1 bn1 bc1) := kB3.cell 6
  have d7' : w3.cell? ⟨B, 7, none⟩ = some (.slice g1 gn1 gc1) := kB3.cell 7
  have d8' : w3.cell? ⟨B, 8, none⟩ = some (.bool true) := kB3.cell 8
  have r0 : w3.cell? ⟨R, 0, none⟩ = some (.string ⟨#[]⟩) := kR3.cell 0
  have r1 : w3.cell? ⟨R, 1, none⟩ = some (.int .i64 0) := kR3.cell 1
  have r2 : w3.cell? ⟨R, 2, none⟩ = some (.slice none 0 0) := kR3.cell 2
  have r3 : w3.cell? ⟨R, 3, none⟩ = some (.slice none 0 0) := kR3.cell 3
  have r4 : w3.cell? ⟨R, 4, none⟩ = some (.string ⟨#[]⟩) := kR3.cell 4
  have r5 : w3.cell? ⟨R, 5, none⟩ = some (.int .i64 0) := kR3.cell 5
  have r6 : w3.cell? ⟨R, 6, none⟩ = some (.slice none 0 0) := kR3.cell 6
  have r7 : w3.cell? ⟨R, 7, none⟩ = some (.slice none 0 0) := kR3.cell 7
  have r8 : w3.cell? ⟨R, 8, none⟩ = some (.bool false) := kR3.cell 8
  have rf := kR3.thaw
  clear oE kR3 kB3 hb3
  go_wp2
  replace kE := kE.out
  replace post := post.out
  generalize World.setCell _ _ _ = WE at *
  exact bodyPost_ret (v := .tuple #[.agg #[.string x0, .int .i64 p0, .slice b0 bn0 bc0, .slice g0 gn0 gc0, .string x1, .int .i64 p1, .slice b1 bn1 bc1, .slice g1 gn1 gc1, .bool true], .int .i64 6]) (by simp [results, Try.results23, go_sem, kE.cell]) rfl ⟨rfl, post⟩

set_option maxHeartbeats 1000000 in
set_option maxRecDepth 100000 in
theorem lopen_down (x0 : ByteArray) (p0 : Int) (b0 : Option Addr) (bn0 bc0 : Nat) (g0 : Option Addr) (gn0 gc0 : Nat) (x1 : ByteArray) (p1 : Int) (b1 : Option Addr) (bn1 bc1 : Nat) (g1 : Option Addr) (gn1 gc1 : Nat) (w : World) : Calls Try.prog 24 #[.agg #[.string x0, .int .i64 p0, .slice b0 bn0 bc0, .slice g0 gn0 gc0, .string x1, .int .i64 p1, .slice b1 bn1 bc1, .slice g1 gn1 gc1, .bool false]] w fun e w' => e = .returned (.tuple #[.agg #[.string ⟨#[]⟩, .int .i64 0, .slice none 0 0, .slice none 0 0, .string ⟨#[]⟩, .int .i64 0, .slice none 0 0, .slice none 0 0, .bool true], .int .i64 0]) ∧ Below w.heap.size w w' := by
  have HN : Hid (∀ W, Calls Try.prog 11 #[] W fun e w' => e = .returned (.agg #[.string ⟨#[]⟩, .int .i64 0, .slice none 0 0, .slice none 0 0, .string ⟨#[]⟩, .int .i64 0, .slice none 0 0, .slice none 0 0, .bool true]) ∧ Below W.heap.size W w') := fun W => lnew_any W
  have kB1 : Rg.Bk w.heap.size [.string x0, .int .i64 p0, .slice b0 bn0 bc0, .slice g0 gn0 gc0, .string x1, .int .i64 p1, .slice b1 bn1 bc1, .slice g1 gn1 gc1, .bool false] 30 ((w.alloc (.cells #[.string x0, .int .i64 p0, .slice b0 bn0 bc0, .slice g0 gn0 gc0, .string x1, .int .i64 p1, .slice b1 bn1 bc1, .slice g1 gn1 gc1, .bool false] 30)).alloc (.cells #[.string ⟨#[]⟩, .int .i64 0, .slice none 0 0, .slice none 0 0, .string ⟨#[]⟩, .int .i64 0, .slice none 0 0, .slice none 0 0, .bool false] 30)) := (Rg.Bk.new rfl).old _
  have kR1 : Rg.Bk (w.heap.size + 1) [.string ⟨#[]⟩, .int .i64 0, .slice none 0 0, .slice none 0 0, .string ⟨#[]⟩, .int .i64 0, .slice none 0 0, .slice none 0 0, .bool false] 30 ((w.alloc (.cells #[.string x0, .int .i64 p0, .slice b0 bn0 bc0, .slice g0 gn0 gc0, .string x1, .int .i64 p1, .slice b1 bn1 bc1, .slice g1 gn1 gc1, .bool false] 30)).alloc (.cells #[.string ⟨#[]⟩, .int .i64 0, .slice none 0 0, .slice none 0 0, .string ⟨#[]⟩, .int .i64 0, .slice none 0 0, .slice none 0 0, .bool false] 30)) := Rg.Bk.new (by simp)
  have hb1 := Rg.al2 w (.cells #[.string x0, .int .i64 p0, .slice b0 bn0 bc0, .slice g0 gn0 gc0, .string x1, .int .i64 p1, .slice b1 bn1 bc1, .slice g1 gn1 gc1, .bool false] 30) (.cells #[.string ⟨#[]⟩, .int .i64 0, .slice none 0 0, .slice none 0 0, .string ⟨#[]⟩, .int .i64 0, .slice none 0 0, .slice none 0 0, .bool false] 30)
  go_enter Try.func24, Try.ntmps24
  go_upto_region 1 with fail
  generalize World.alloc _ _ = w1 at *
  obtain ⟨B, hB⟩ : ∃ B, B = w.heap.size := ⟨_, rfl⟩
  obtain ⟨R, hR⟩ : ∃ R, R = w.heap.size + 1 := ⟨_, rfl⟩
  rw [← hR] at kR1 ⊢
  rw [← hB] at kB1 ⊢
  have hBR : B ≠ R := by omega
  have hBw : w.heap.size ≤ B := by omega
  have hRw : w.heap.size ≤ R := by omega
  clear hB hR
  have z8 : w1.cell? ⟨B, 8, none⟩ = some (.bool false) := kB1.cell 8
  have kR1' := Rg.hid kR1
  have hb1' := Rg.hid hb1
  clear kB1 kR1 hb1
  go_wp2_with (go_at_call 11; refine (HN.out _).mono ?_)
  rintro e w2 ⟨rfl, b2⟩
  have kR := kR1'.out.below b2 kR1'.out.lt
  have hb := Rg.chain hb1'.out b2
  clear kR1' hb1' b2 HN z8
  obtain ⟨kE, oE⟩ := ret9 kR rfl (.string ⟨#[]⟩) (.int .i64 0) (.slice none 0 0) (.slice none 0 0) (.string ⟨#[]⟩) (.int .i64 0) (.slice none 0 0) (.slice none 0 0) (.bool true)
  have hbE := Rg.hid (hb.trans (oE.bel hRw))
  replace kE := Rg.hid kE
  have r0 : w2.cell? ⟨R, 0, none⟩ = some (.string ⟨#[]⟩) := kR.cell 0
  have r1 : w2.cell? ⟨R, 1, none⟩ = some (.int .i64 0) := kR.cell 1
  have r2 : w2.cell? ⟨R, 2, none⟩ = some (.slice none 0 0) := kR.cell 2
  have r3 : w2.cell? ⟨R, 3, none⟩ = some (.slice none 0 0) := kR.cell 3
  have r4 : w2.cell? ⟨R, 4, none⟩ = some (.string ⟨#[]⟩) := kR.cell 4
  have r5 : w2.cell? ⟨R, 5, none⟩ = some (.int .i64 0) := kR.cell 5
  have r6 : w2.cell? ⟨R, 6, none⟩ = some (.slice none 0 0) := kR.cell 6
  have r7 : w2.cell? ⟨R, 7, none⟩ = some (.slice none 0 0) := kR.cell 7
  have r8 : w2.cell? ⟨R, 8, none⟩ = some (.bool false) := kR.cell 8
  have rf := kR.thaw
  clear oE kR hb
  go_wp2
  replace kE := kE.out
  replace hbE := hbE.out
  generalize World.setCell _ _ _ = WE at *
  exact bodyPost_ret (v := .tuple #[.agg #[.string ⟨#[]⟩, .int .i64 0, .slice none 0 0, .slice none 0 0, .string ⟨#[]⟩, .int .i64 0, .slice none 0 0, .slice none 0 0, .bool true], .int .i64 0]) (by simp [results, Try.results24, go_sem, kE.cell]) rfl ⟨rfl, hbE⟩
end Go.Proofs.Ytalleocmnnnchaa
