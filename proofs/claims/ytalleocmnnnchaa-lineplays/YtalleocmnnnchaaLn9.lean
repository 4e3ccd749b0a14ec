/-
  Layer 7: carries, isUnder; Lose.
-/
import Derived.Test.YtalleocmnnnchaaLn8
namespace Go.Proofs.Ytalleocmnnnchaa
open Go.RowKit

theorem ret9 {b : Nat} {C : List Value} {ty : TypeId} {W : World} (h : Rg.Bk b C ty W) (hC : C.length = 9) (v0 v1 v2 v3 v4 v5 v6 v7 v8 : Value) :
    Rg.Bk b [v0, v1, v2, v3, v4, v5, v6, v7, v8] ty (((((((((W.setCell ⟨b, 0, none⟩ v0).setCell ⟨b, 1, none⟩ v1).setCell ⟨b, 2, none⟩ v2).setCell ⟨b, 3, none⟩ v3).setCell ⟨b, 4, none⟩ v4).setCell ⟨b, 5, none⟩ v5).setCell ⟨b, 6, none⟩ v6).setCell ⟨b, 7, none⟩ v7).setCell ⟨b, 8, none⟩ v8) ∧
    Rg.Only b W (((((((((W.setCell ⟨b, 0, none⟩ v0).setCell ⟨b, 1, none⟩ v1).setCell ⟨b, 2, none⟩ v2).setCell ⟨b, 3, none⟩ v3).setCell ⟨b, 4, none⟩ v4).setCell ⟨b, 5, none⟩ v5).setCell ⟨b, 6, none⟩ v6).setCell ⟨b, 7, none⟩ v7).setCell ⟨b, 8, none⟩ v8) := by
  match C, hC with
  | [a0, a1, a2, a3, a4, a5, a6, a7, a8], _ =>
    refine ⟨?_, ?_⟩
    · exact ((((((((h.set 0 v0).set 1 v1).set 2 v2).set 3 v3).set 4 v4).set 5 v5).set 6 v6).set 7 v7).set 8 v8
    · exact ((((((((Rg.Only.setCell W b 0 v0).trans (Rg.Only.setCell _ b 1 v1)).trans (Rg.Only.setCell _ b 2 v2)).trans (Rg.Only.setCell _ b 3 v3)).trans (Rg.Only.setCell _ b 4 v4)).trans (Rg.Only.setCell _ b 5 v5)).trans (Rg.Only.setCell _ b 6 v6)).trans (Rg.Only.setCell _ b 7 v7)).trans (Rg.Only.setCell _ b 8 v8)
theorem line_int : 30 ≠ 3 := by decide

set_option maxHeartbeats 400000 in
theorem lcarries_bad (x0 : ByteArray) (p0 : Int) (b0 : Option Addr) (bn0 bc0 : Nat) (g0 : Option Addr) (gn0 gc0 : Nat) (x1 : ByteArray) (p1 : Int) (b1 : Option Addr) (bn1 bc1 : Nat) (g1 : Option Addr) (gn1 gc1 : Nat) (up : Bool) (n : Int) (w : World) (h0 : n ≠ 0) (h1 : n ≠ 1) : Calls Try.prog 38 #[.agg #[.string x0, .int .i64 p0, .slice b0 bn0 bc0, .slice g0 gn0 gc0, .string x1, .int .i64 p1, .slice b1 bn1 bc1, .slice g1 gn1 gc1, .bool up], .int .i64 n] w fun e w' => e = .returned (.bool false) ∧ Below w.heap.size w w' := by
  have HW : Hid (∀ W, Calls Try.prog 33 #[.int .i64 n] W fun e w' => e = .returned (.bool false) ∧ w' = W) := fun W => by have := lway_any n W; rw [show decide (n = 0 ∨ n = 1) = false by simp [h0, h1]] at this; exact this
  go_enter Try.func38, Try.ntmps38
  go_wp2_with (go_at_call 33; refine (HW.out _).mono ?_; rintro e w' ⟨rfl, rfl⟩)
  go_ret
  exact ⟨rfl, Rg.al1 _ _⟩

set_option maxHeartbeats 400000 in
theorem lcarries0 (x0 : ByteArray) (p0 : Int) (b0 : Option Addr) (bn0 bc0 : Nat) (g0 : Option Addr) (gn0 gc0 : Nat) (x1 : ByteArray) (p1 : Int) (b1 : Option Addr) (bn1 bc1 : Nat) (g1 : Option Addr) (gn1 gc1 : Nat) (up : Bool) (w : World) : Calls Try.prog 38 #[.agg #[.string x0, .int .i64 p0, .slice b0 bn0 bc0, .slice g0 gn0 gc0, .string x1, .int .i64 p1, .slice b1 bn1 bc1, .slice g1 gn1 gc1, .bool up], .int .i64 0] w fun e w' => e = .returned (.bool up) ∧ Below w.heap.size w w' := by
  have HW : Hid (∀ W, Calls Try.prog 33 #[.int .i64 0] W fun e w' => e = .returned (.bool true) ∧ w' = W) := fun W => lway_any 0 W
  go_enter Try.func38, Try.ntmps38
  go_wp2_with (go_at_call 33; refine (HW.out _).mono ?_; rintro e w' ⟨rfl, rfl⟩)
  go_ret
  exact ⟨rfl, Rg.al1 _ _⟩

set_option maxHeartbeats 400000 in
theorem lcarries1 (x0 : ByteArray) (p0 : Int) (b0 : Option Addr) (bn0 bc0 : Nat) (g0 : Option Addr) (gn0 gc0 : Nat) (x1 : ByteArray) (p1 : Int) (b1 : Option Addr) (bn1 bc1 : Nat) (g1 : Option Addr) (gn1 gc1 : Nat) (up : Bool) (w : World) : Calls Try.prog 38 #[.agg #[.string x0, .int .i64 p0, .slice b0 bn0 bc0, .slice g0 gn0 gc0, .string x1, .int .i64 p1, .slice b1 bn1 bc1, .slice g1 gn1 gc1, .bool up], .int .i64 1] w fun e w' => e = .returned (.bool up) ∧ Below w.heap.size w w' := by
  have HW : Hid (∀ W, Calls Try.prog 33 #[.int .i64 1] W fun e w' => e = .returned (.bool true) ∧ w' = W) := fun W => lway_any 1 W
  go_enter Try.func38, Try.ntmps38
  go_wp2_with (go_at_call 33; refine (HW.out _).mono ?_; rintro e w' ⟨rfl, rfl⟩)
  go_ret
  exact ⟨rfl, Rg.al1 _ _⟩

set_option maxHeartbeats 400000 in
theorem lunder_any (x : ByteArray) (p : Int) (b : Option Addr) (bn bc : Nat) (g : Option Addr) (gn gc : Nat) (k : Int) (w : World) : Calls Try.prog 39 #[.agg #[.string x, .int .i64 p, .slice b bn bc, .slice g gn gc], .int .i64 k] w fun e w' => e = .returned (.bool (decide (0 ≤ k ∧ k < (x.size : Int)))) ∧ Below w.heap.size w w' := by
  by_cases h0 : 0 ≤ k
  · have d0 : decide (0 ≤ k) = true := by simp [h0]
    have d1 : Hid (decide (0 ≤ k ∧ k < (x.size : Int)) = decide (k < (x.size : Int))) := by show _ = _; simp [h0]
    rw [d1.out]
    go_enter Try.func39, Try.ntmps39
    go_wp2
    go_ret
    exact ⟨rfl, Rg.al1 _ _⟩
  · have d0 : decide (0 ≤ k) = false := by simp; omega
    have d1 : Hid (decide (0 ≤ k ∧ k < (x.size : Int)) = false) := by show _ = _; simp; omega
    rw [d1.out]
    clear h0
    go_enter Try.func39, Try.ntmps39
    go_wp2
    go_ret
    exact ⟨rfl, Rg.al1 _ _⟩

set_option maxHeartbeats 2000000 in
set_option maxRecDepth 100000 in
theorem llose_ok0 (x0 : ByteArray) (p0 : Int) (b0 : Option Addr) (bn0 bc0 : Nat) (g0 : Option Addr) (gn0 gc0 : Nat) (x1 : ByteArray) (p1 : Int) (b1 : Option Addr) (bn1 bc1 : Nat) (g1 : Option Addr) (gn1 gc1 : Nat) (k : Nat) (bad gap : List Int) (w : World) (hk : k < x0.size) (hx : x0.size ≤ 1000000) (hp : 0 ≤ p0) (hp2 : p0 ≤ 1000000000) (hbn : bn0 = bad.length) (hgn : gn0 = gap.length) (hbl : bad.length ≤ 100000000) (hgl : gap.length ≤ 100000000)
    (hbb : ∀ y ∈ bad, 0 ≤ y ∧ y ≤ 10000000000) (hgb : ∀ y ∈ gap, 0 ≤ y ∧ y ≤ 10000000000) (hub : Ln.Up bad) (hug : Ln.Up gap) (hrb : IRow w b0 bad) (hrg : IRow w g0 gap) :
    Calls Try.prog 21 #[.agg #[.string x0, .int .i64 p0, .slice b0 bn0 bc0, .slice g0 gn0 gc0, .string x1, .int .i64 p1, .slice b1 bn1 bc1, .slice g1 gn1 gc1, .bool true], .int .i64 0, .int .i64 k] w fun e w' => ∃ ba bc ga gc, e = .returned (.tuple #[.agg #[.string ⟨(x0.data.toList.take k ++ x0.data.toList.drop (k + 1)).toArray⟩, .int .i64 p0, .slice ba (Ln.loseBad bad (p0 + k)).length bc, .slice ga (Ln.loseGap gap (p0 + k)).length gc, .string x1, .int .i64 p1, .slice b1 bn1 bc1, .slice g1 gn1 gc1, .bool true], .int .i64 0]) ∧ IRow w' ba (Ln.loseBad bad (p0 + k)) ∧ IRow w' ga (Ln.loseGap gap (p0 + k)) ∧ (Ln.loseBad bad (p0 + k)).length ≤ bc ∧ (Ln.loseGap gap (p0 + k)).length ≤ gc ∧ Below w.heap.size w w' := by
  have HC : Hid (∀ W, Calls Try.prog 38 #[.agg #[.string x0, .int .i64 p0, .slice b0 bn0 bc0, .slice g0 gn0 gc0, .string x1, .int .i64 p1, .slice b1 bn1 bc1, .slice g1 gn1 gc1, .bool true], .int .i64 0] W fun e w' => e = .returned (.bool true) ∧ Below W.heap.size W w') := fun W => lcarries0 x0 p0 b0 bn0 bc0 g0 gn0 gc0 x1 p1 b1 bn1 bc1 g1 gn1 gc1 true W
  have HU : Hid (∀ W, Calls Try.prog 39 #[.agg #[.string x0, .int .i64 p0, .slice b0 bn0 bc0, .slice g0 gn0 gc0], .int .i64 k] W fun e w' => e = .returned (.bool true) ∧ Below W.heap.size W w') := fun W => by
    have := lunder_any x0 p0 b0 bn0 bc0 g0 gn0 gc0 (k : Int) W
    rw [show decide (0 ≤ (k : Int) ∧ (k : Int) < (x0.size : Int)) = true by simp; omega] at this
    exact this
  have HSp : Hid (∀ W, Calls Try.prog 40 #[.string x0, .int .i64 k, .int .i64 1, .slice none 0 0] W fun e w' => e = .returned (.string ⟨(x0.data.toList.take k ++ x0.data.toList.drop (k + 1)).toArray⟩) ∧ Below W.heap.size W w') := fun W => splice_out x0 k 1 W (by omega) (by omega)
  have HUn : Hid (∀ W, Below w.heap.size w W → Calls Try.prog 42 #[.slice b0 bn0 bc0, .int .i64 (p0 + k)] W fun e w' => ∃ a c, e = .returned (.slice a (bad.filter (fun q => !decide (q = p0 + k))).length c) ∧ IRow w' a (bad.filter (fun q => !decide (q = p0 + k))) ∧ Below W.heap.size W w') := fun W hW => by rw [hbn]; exact (lunmark_any b0 bc0 bad (p0 + k) W (by omega) (hrb.below hW)).mono fun e w' ⟨a, c, h1, h2, _, h4⟩ => ⟨a, c, h1, h2, h4⟩
  have hfl := List.length_filter_le (fun q => !decide (q = p0 + k)) bad
  have HS1 : Hid (∀ W a c, IRow W a (bad.filter (fun q => !decide (q = p0 + k))) → Calls Try.prog 41 #[.slice a (bad.filter (fun q => !decide (q = p0 + k))).length c, .int .i64 (p0 + k + 1), .int .i64 (-1)] W fun e w' => IPost W (Ln.loseBad bad (p0 + k)) e w') := fun W a c h => by
    have := lshift_any a c (bad.filter (fun q => !decide (q = p0 + k))) (p0 + k + 1) (-1) W (by omega) (by omega) (by omega) (fun y hy => by have := hbb y (List.mem_filter.1 hy).1; omega) h
    rw [Ln.lose_bad hub] at this
    exact this
  have HS2 : Hid (∀ W, Below w.heap.size w W → Calls Try.prog 41 #[.slice g0 gn0 gc0, .int .i64 (p0 + k + 1), .int .i64 (-1)] W fun e w' => IPost W (Ln.shift gap (p0 + k + 1) (-1)) e w') := fun W hW => by rw [hgn]; exact lshift_any g0 gc0 gap (p0 + k + 1) (-1) W (by omega) (by omega) (by omega) (fun y hy => by have := hgb y hy; omega) (hrg.below hW)
  have hsl : (Ln.shift gap (p0 + k + 1) (-1)).length ≤ gap.length := by
    have := Ln.compact_len (Ln.moved gap (p0 + k + 1) (-1))
    rw [Ln.moved_length] at this
    exact this
  have HM : Hid (∀ W a c, IRow W a (Ln.shift gap (p0 + k + 1) (-1)) → (Ln.shift gap (p0 + k + 1) (-1)).length ≤ c → Calls Try.prog 43 #[.slice a (Ln.shift gap (p0 + k + 1) (-1)).length c, .int .i64 (p0 + k)] W fun e w' => IPost W (Ln.loseGap gap (p0 + k)) e w') := fun W a c h hc => by
    have := lmark_any a c (Ln.shift gap (p0 + k + 1) (-1)) (p0 + k) W (by omega) hc (Ln.up_shift_down hug _) h
    rw [Ln.lose_gap hug] at this
    exact this
  have hw1 : IntKind.i64.wrap (p0 + (k : Int)) = p0 + (k : Int) := by rw [IntKind.wrap_i64]; omega
  have hw1' : wrap64 (p0 + (k : Int)) = p0 + (k : Int) := by unfold wrap64; omega
  obtain ⟨P, hP⟩ : ∃ P : Int, P = p0 + (k : Int) := ⟨_, rfl⟩
  rw [← hP] at HUn HS1 HS2 HM hfl hsl ⊢
  replace hw1 : IntKind.i64.wrap (p0 + (k : Int)) = P := by rw [hw1, hP]
  replace hw1' : wrap64 (p0 + (k : Int)) = P := by rw [hw1', hP]
  have hP2 : P + 1 ≤ 10000000000 := by omega
  have hP3 : 0 ≤ P := by omega
  have hw2 : IntKind.i64.wrap (P + 1) = P + 1 := by rw [IntKind.wrap_i64]; omega
  have hw2' : wrap64 (P + 1) = P + 1 := by unfold wrap64; omega
  replace hP := Rg.hid hP
  generalize Ln.loseBad bad P = LB at *
  generalize Ln.loseGap gap P = LG at *
  generalize Ln.shift gap (P + 1) (-1) = SG at *
  generalize bad.filter (fun q => !decide (q = P)) = FB at *
  generalize (⟨(x0.data.toList.take k ++ x0.data.toList.drop (k + 1)).toArray⟩ : ByteArray) = XN at *
  clear hbn hgn hbl hgl hbb hgb hub hug hrb hrg hfl hsl hx hk
  have kB1 : Rg.Bk w.heap.size [.string x0, .int .i64 p0, .slice b0 bn0 bc0, .slice g0 gn0 gc0, .string x1, .int .i64 p1, .slice b1 bn1 bc1, .slice g1 gn1 gc1, .bool true] 30 ((w.alloc (.cells #[.string x0, .int .i64 p0, .slice b0 bn0 bc0, .slice g0 gn0 gc0, .string x1, .int .i64 p1, .slice b1 bn1 bc1, .slice g1 gn1 gc1, .bool true] 30)).alloc (.cells #[.string ⟨#[]⟩, .int .i64 0, .slice none 0 0, .slice none 0 0, .string ⟨#[]⟩, .int .i64 0, .slice none 0 0, .slice none 0 0, .bool false] 30)) := (Rg.Bk.new rfl).old _
  have kR1 : Rg.Bk (w.heap.size + 1) [.string ⟨#[]⟩, .int .i64 0, .slice none 0 0, .slice none 0 0, .string ⟨#[]⟩, .int .i64 0, .slice none 0 0, .slice none 0 0, .bool false] 30 ((w.alloc (.cells #[.string x0, .int .i64 p0, .slice b0 bn0 bc0, .slice g0 gn0 gc0, .string x1, .int .i64 p1, .slice b1 bn1 bc1, .slice g1 gn1 gc1, .bool true] 30)).alloc (.cells #[.string ⟨#[]⟩, .int .i64 0, .slice none 0 0, .slice none 0 0, .string ⟨#[]⟩, .int .i64 0, .slice none 0 0, .slice none 0 0, .bool false] 30)) := Rg.Bk.new (by simp)
  have hb1 := Rg.al2 w (.cells #[.string x0, .int .i64 p0, .slice b0 bn0 bc0, .slice g0 gn0 gc0, .string x1, .int .i64 p1, .slice b1 bn1 bc1, .slice g1 gn1 gc1, .bool true] 30) (.cells #[.string ⟨#[]⟩, .int .i64 0, .slice none 0 0, .slice none 0 0, .string ⟨#[]⟩, .int .i64 0, .slice none 0 0, .slice none 0 0, .bool false] 30)
  go_enter Try.func21, Try.ntmps21
  go_upto_region 1 with fail
  generalize World.alloc _ _ = w1 at *
  obtain ⟨B, hB⟩ : ∃ B, B = w.heap.size := ⟨_, rfl⟩
  obtain ⟨R, hR⟩ : ∃ R, R = w.heap.size + 1 := ⟨_, rfl⟩
  rw [← hR] at kR1 ⊢
  rw [← hB] at kB1 ⊢
  have hBR : B ≠ R := by omega
  have hBw : w.heap.size ≤ B := by omega
  have hRw : w.heap.size ≤ R := by omega
  clear hB hR
  have z0 : w1.cell? ⟨B, 0, none⟩ = some (.string x0) := kB1.cell 0
  have z1 : w1.cell? ⟨B, 1, none⟩ = some (.int .i64 p0) := kB1.cell 1
  have z2 : w1.cell? ⟨B, 2, none⟩ = some (.slice b0 bn0 bc0) := kB1.cell 2
  have z3 : w1.cell? ⟨B, 3, none⟩ = some (.slice g0 gn0 gc0) := kB1.cell 3
  have z4 : w1.cell? ⟨B, 4, none⟩ = some (.string x1) := kB1.cell 4
  have z5 : w1.cell? ⟨B, 5, none⟩ = some (.int .i64 p1) := kB1.cell 5
  have z6 : w1.cell? ⟨B, 6, none⟩ = some (.slice b1 bn1 bc1) := kB1.cell 6
  have z7 : w1.cell? ⟨B, 7, none⟩ = some (.slice g1 gn1 gc1) := kB1.cell 7
  have z8 : w1.cell? ⟨B, 8, none⟩ = some (.bool true) := kB1.cell 8
  have kB1' := Rg.hid kB1
  have kR1' := Rg.hid kR1
  have hb1' := Rg.hid hb1
  clear kB1 kR1 hb1
  go_upto_region 3 with (first
    | (go_at_call 38; refine (HC.out _).mono ?_; rintro e w2 ⟨rfl, b2⟩; have kB2 := kB1'.out.below b2 kB1'.out.lt; have y0 := kB2.cell 0; have y1 := kB2.cell 1; have y2 := kB2.cell 2; have y3 := kB2.cell 3; simp only [List.getElem?_cons_zero, List.getElem?_cons_succ] at y0 y1 y2 y3)
    | (go_at_call 39; refine (HU.out _).mono ?_; rintro e w3 ⟨rfl, b3⟩))
  have kB3 := kB2.below b3 kB2.lt
  have kR3 := Rg.hid ((kR1'.out.below b2 kR1'.out.lt).below b3 (kR1'.out.below b2 kR1'.out.lt).lt)
  have hb3 := Rg.hid (Rg.chain (Rg.chain hb1'.out b2) b3)
  clear kB2 kB1' kR1' hb1' b2 b3 HC HU y0 y1 y2 y3 z0 z1 z2 z3 z4 z5 z6 z7 z8
  have z1 : w3.cell? ⟨B, 1, none⟩ = some (.int .i64 p0) := kB3.cell 1
  have z0 : w3.cell? ⟨B, 0, none⟩ = some (.string x0) := kB3.cell 0
  have kB3' := Rg.hid kB3
  clear kB3
  go_upto_region 6 with (go_at_call 40; refine (HSp.out _).mono ?_; rintro e w5 ⟨rfl, b5⟩; have kB5 := kB3'.out.below b5 kB3'.out.lt; have y := kB5.cell 0; have yf := kB5.thaw; simp only [List.getElem?_cons_zero] at y)
  have kB6 : Rg.Bk B [.string XN, .int .i64 p0, .slice b0 bn0 bc0, .slice g0 gn0 gc0, .string x1, .int .i64 p1, .slice b1 bn1 bc1, .slice g1 gn1 gc1, .bool true] 30 (w5.setCell ⟨B, 0, none⟩ (.string XN)) := kB5.set 0 (.string XN)
  have o6 := Rg.Only.setCell w5 B 0 (.string XN)
  have kR6 := Rg.hid ((kR3.out.below b5 kR3.out.lt).same (o6.block R (Ne.symm hBR)))
  have hb6 := (Rg.chain hb3.out b5).trans (o6.bel hBw)
  clear y yf kB5 kB3' kR3 hb3 b5 o6 z0 z1 HSp
  generalize World.setCell _ _ _ = w6 at *
  have z2 : w6.cell? ⟨B, 2, none⟩ = some (.slice b0 bn0 bc0) := kB6.cell 2
  have kB6' := Rg.hid kB6
  clear kB6
  go_upto_region 7 with (first
    | (go_at_call 42; refine (HUn.out _ hb6).mono ?_; rintro e w7 ⟨a7, c7, rfl, hr7, b7⟩)
    | (go_at_call 41; refine (HS1.out _ _ _ hr7).mono ?_; rintro e w8 ⟨a8, c8, rfl, hr8, hc8, b8⟩; have kB8 := (kB6'.out.below b7 kB6'.out.lt).below b8 (kB6'.out.below b7 kB6'.out.lt).lt; have y := kB8.cell 2; have yf := kB8.thaw; simp only [List.getElem?_cons_zero, List.getElem?_cons_succ] at y))
  obtain ⟨NB, hNB⟩ : ∃ NB, NB = LB.length := ⟨_, rfl⟩
  rw [← hNB] at hc8 ⊢
  have kB9 : Rg.Bk B [.string XN, .int .i64 p0, .slice a8 NB c8, .slice g0 gn0 gc0, .string x1, .int .i64 p1, .slice b1 bn1 bc1, .slice g1 gn1 gc1, .bool true] 30 (w8.setCell ⟨B, 2, none⟩ (.slice a8 NB c8)) := kB8.set 2 (.slice a8 NB c8)
  have o9 := Rg.Only.setCell w8 B 2 (.slice a8 NB c8)
  have kR9 := Rg.hid (((kR6.out.below b7 kR6.out.lt).below b8 (kR6.out.below b7 kR6.out.lt).lt).same (o9.block R (Ne.symm hBR)))
  have hr9 := Rg.hid (hr8.only kB8 line_int o9)
  have hb9 := (Rg.chain (Rg.chain hb6 b7) b8).trans (o9.bel hBw)
  replace hNB := Rg.hid hNB
  clear y yf kB8 kB6' kR6 hb6 b7 b8 o9 hr7 hr8 z2 HUn HS1
  generalize World.setCell _ _ _ = w9 at *
  have z3 : w9.cell? ⟨B, 3, none⟩ = some (.slice g0 gn0 gc0) := kB9.cell 3
  have kB9' := Rg.hid kB9
  clear kB9
  go_upto_region 8 with (first
    | (go_at_call 41; refine (HS2.out _ hb9).mono ?_; rintro e w10 ⟨a10, c10, rfl, hr10, hc10, b10⟩)
    | (go_at_call 43; refine (HM.out _ _ _ hr10 hc10).mono ?_; rintro e w11 ⟨a11, c11, rfl, hr11, hc11, b11⟩; have kB11 := (kB9'.out.below b10 kB9'.out.lt).below b11 (kB9'.out.below b10 kB9'.out.lt).lt; have y := kB11.cell 3; have yf := kB11.thaw; simp only [List.getElem?_cons_zero, List.getElem?_cons_succ] at y))
  obtain ⟨NG, hNG⟩ : ∃ NG, NG = LG.length := ⟨_, rfl⟩
  rw [← hNG] at hc11 ⊢
  have kB12 : Rg.Bk B [.string XN, .int .i64 p0, .slice a8 NB c8, .slice a11 NG c11, .string x1, .int .i64 p1, .slice b1 bn1 bc1, .slice g1 gn1 gc1, .bool true] 30 (w11.setCell ⟨B, 3, none⟩ (.slice a11 NG c11)) := kB11.set 3 (.slice a11 NG c11)
  have o12 := Rg.Only.setCell w11 B 3 (.slice a11 NG c11)
  have kR12 := ((kR9.out.below b10 kR9.out.lt).below b11 (kR9.out.below b10 kR9.out.lt).lt).same (o12.block R (Ne.symm hBR))
  have hrB := ((hr9.out.below b10).below b11).only kB11 line_int o12
  have hrG := hr11.only kB11 line_int o12
  have hb12 := (Rg.chain (Rg.chain hb9 b10) b11).trans (o12.bel hBw)
  replace hNG := Rg.hid hNG
  clear y yf kB11 kB9' kR9 hb9 b10 b11 o12 hr10 hr11 hr9 hc10 z3 HS2 HM
  generalize World.setCell _ _ _ = w12 at *
  obtain ⟨kE, oE⟩ := ret9 kR12 rfl (.string XN) (.int .i64 p0) (.slice a8 NB c8) (.slice a11 NG c11) (.string x1) (.int .i64 p1) (.slice b1 bn1 bc1) (.slice g1 gn1 gc1) (.bool true)
  have post := Rg.hid ((⟨a8, c8, a11, c11, by rw [hNB.out, hNG.out], hrB.only kR12 line_int oE, hrG.only kR12 line_int oE, by rw [← hNB.out]; exact hc8, by rw [← hNG.out]; exact hc11, hb12.trans (oE.bel hRw)⟩ : ∃ ba bc ga gc, Ending.returned (.tuple #[.agg #[.string XN, .int .i64 p0, .slice a8 NB c8, .slice a11 NG c11, .string x1, .int .i64 p1, .slice b1 bn1 bc1, .slice g1 gn1 gc1, .bool true], .int .i64 0]) = .returned (.tuple #[.agg #[.string XN, .int .i64 p0, .slice ba LB.length bc, .slice ga LG.length gc, .string x1, .int .i64 p1, .slice b1 bn1 bc1, .slice g1 gn1 gc1, .bool true], .int .i64 0]) ∧ IRow _ ba LB ∧ IRow _ ga LG ∧ LB.length ≤ bc ∧ LG.length ≤ gc ∧ Below w.heap.size w _))
  replace kE := Rg.hid kE
  have d0' : w12.cell? ⟨B, 0, none⟩ = some (.string XN) := kB12.cell 0
  have d1' : w12.cell? ⟨B, 1, none⟩ = some (.int .i64 p0) := kB12.cell 1
  have d2' : w12.cell? ⟨B, 2, none⟩ = some (.slice a8 NB c8) := kB12.cell 2
  have d3' : w12.cell? ⟨B, 3, none⟩ = some (.slice a11 NG c11) := kB12.cell 3
  have d4' : w12.cell? ⟨B, 4, none⟩ = some (.string x1) := kB12.cell 4
  have d5' : w12.cell? ⟨B, 5, none⟩ = some (.int .i64 p1) := kB12.cell 5
  have d6' : w12.cell? ⟨B, 6, none⟩ = some (.slice b1 bn1 bc1) := kB12.cell 6
  have d7' : w12.cell? ⟨B, 7, none⟩ = some (.slice g1 gn1 gc1) := kB12.cell 7
  have d8' : w12.cell? ⟨B, 8, none⟩ = some (.bool true) := kB12.cell 8
  have r0 : w12.cell? ⟨R, 0, none⟩ = some (.string ⟨#[]⟩) := kR12.cell 0
  have r1 : w12.cell? ⟨R, 1, none⟩ = some (.int .i64 0) := kR12.cell 1
  have r2 : w12.cell? ⟨R, 2, none⟩ = some (.slice none 0 0) := kR12.cell 2
  have r3 : w12.cell? ⟨R, 3, none⟩ = some (.slice none 0 0) := kR12.cell 3
  have r4 : w12.cell? ⟨R, 4, none⟩ = some (.string ⟨#[]⟩) := kR12.cell 4
  have r5 : w12.cell? ⟨R, 5, none⟩ = some (.int .i64 0) := kR12.cell 5
  have r6 : w12.cell? ⟨R, 6, none⟩ = some (.slice none 0 0) := kR12.cell 6
  have r7 : w12.cell? ⟨R, 7, none⟩ = some (.slice none 0 0) := kR12.cell 7
  have r8 : w12.cell? ⟨R, 8, none⟩ = some (.bool false) := kR12.cell 8
  have rf := kR12.thaw
  clear oE kR12 kB12 hb12 hrB hrG hNB hNG
  go_wp2
  replace kE := kE.out
  replace post := post.out
  generalize World.setCell _ _ _ = WE at *
  exact bodyPost_ret (v := .tuple #[.agg #[.string XN, .int .i64 p0, .slice a8 NB c8, .slice a11 NG c11, .string x1, .int .i64 p1, .slice b1 bn1 bc1, .slice g1 gn1 gc1, .bool true], .int .i64 0]) (by simp [results, Try.results21, go_sem, kE.cell]) rfl post

set_option maxHeartbeats 2000000 in
set_option maxRecDepth 100000 in
theorem llose_ok1 (x0 : ByteArray) (p0 : Int) (b0 : Option Addr) (bn0 bc0 : Nat) (g0 : Option Addr) (gn0 gc0 : Nat) (x1 : ByteArray) (p1 : Int) (b1 : Option Addr) (bn1 bc1 : Nat) (g1 : Option Addr) (gn1 gc1 : Nat) (k : Nat) (bad gap : List Int) (w : World) (hk : k < x1.size) (hx : x1.size ≤ 1000000) (hp : 0 ≤ p1) (hp2 : p1 ≤ 1000000000) (hbn : bn1 = bad.length) (hgn : gn1 = gap.length) (hbl : bad.length ≤ 100000000) (hgl : gap.length ≤ 100000000)
    (hbb : ∀ y ∈ bad, 0 ≤ y ∧ y ≤ 10000000000) (hgb : ∀ y ∈ gap, 0 ≤ y ∧ y ≤ 10000000000) (hub : Ln.Up bad) (hug : Ln.Up gap) (hrb : IRow w b1 bad) (hrg : IRow w g1 gap) :
    Calls Try.prog 21 #[.agg #[.string x0, .int .i64 p0, .slice b0 bn0 bc0, .slice g0 gn0 gc0, .string x1, .int .i64 p1, .slice b1 bn1 bc1, .slice g1 gn1 gc1, .bool true], .int .i64 1, .int .i64 k] w fun e w' => ∃ ba bc ga gc, e = .returned (.tuple #[.agg #[.string x0, .int .i64 p0, .slice b0 bn0 bc0, .slice g0 gn0 gc0, .string ⟨(x1.data.toList.take k ++ x1.data.toList.drop (k + 1)).toArray⟩, .int .i64 p1, .slice ba (Ln.loseBad bad (p1 + k)).length bc, .slice ga (Ln.loseGap gap (p1 + k)).length gc, .bool true], .int .i64 0]) ∧ IRow w' ba (Ln.loseBad bad (p1 + k)) ∧ IRow w' ga (Ln.loseGap gap (p1 + k)) ∧ (Ln.loseBad bad (p1 + k)).length ≤ bc ∧ (Ln.loseGap gap (p1 + k)).length ≤ gc ∧ Below w.heap.size w w' := by
  have HC : Hid (∀ W, Calls Try.prog 38 #[.agg #[.string x0, .int .i64 p0, .slice b0 bn0 bc0, .slice g0 gn0 gc0, .string x1, .int .i64 p1, .slice b1 bn1 bc1, .slice g1 gn1 gc1, .bool true], .int .i64 1] W fun e w' => e = .returned (.bool true) ∧ Below W.heap.size W w') := fun W => lcarries1 x0 p0 b0 bn0 bc0 g0 gn0 gc0 x1 p1 b1 bn1 bc1 g1 gn1 gc1 true W
  have HU : Hid (∀ W, Calls Try.prog 39 #[.agg #[.string x1, .int .i64 p1, .slice b1 bn1 bc1, .slice g1 gn1 gc1], .int .i64 k] W fun e w' => e = .returned (.bool true) ∧ Below W.heap.size W w') := fun W => by
    have := lunder_any x1 p1 b1 bn1 bc1 g1 gn1 gc1 (k : Int) W
    rw [show decide (0 ≤ (k : Int) ∧ (k : Int) < (x1.size : Int)) = true by simp; omega] at this
    exact this
  have HSp : Hid (∀ W, Calls Try.prog 40 #[.string x1, .int .i64 k, .int .i64 1, .slice none 0 0] W fun e w' => e = .returned (.string ⟨(x1.data.toList.take k ++ x1.data.toList.drop (k + 1)).toArray⟩) ∧ Below W.heap.size W w') := fun W => splice_out x1 k 1 W (by omega) (by omega)
  have HUn : Hid (∀ W, Below w.heap.size w W → Calls Try.prog 42 #[.slice b1 bn1 bc1, .int .i64 (p1 + k)] W fun e w' => ∃ a c, e = .returned (.slice a (bad.filter (fun q => !decide (q = p1 + k))).length c) ∧ IRow w' a (bad.filter (fun q => !decide (q = p1 + k))) ∧ Below W.heap.size W w') := fun W hW => by rw [hbn]; exact (lunmark_any b1 bc1 bad (p1 + k) W (by omega) (hrb.below hW)).mono fun e w' ⟨a, c, h1, h2, _, h4⟩ => ⟨a, c, h1, h2, h4⟩
  have hfl := List.length_filter_le (fun q => !decide (q = p1 + k)) bad
  have HS1 : Hid (∀ W a c, IRow W a (bad.filter (fun q => !decide (q = p1 + k))) → Calls Try.prog 41 #[.slice a (bad.filter (fun q => !decide (q = p1 + k))).length c, .int .i64 (p1 + k + 1), .int .i64 (-1)] W fun e w' => IPost W (Ln.loseBad bad (p1 + k)) e w') := fun W a c h => by
    have := lshift_any a c (bad.filter (fun q => !decide (q = p1 + k))) (p1 + k + 1) (-1) W (by omega) (by omega) (by omega) (fun y hy => by have := hbb y (List.mem_filter.1 hy).1; omega) h
    rw [Ln.lose_bad hub] at this
    exact this
  have HS2 : Hid (∀ W, Below w.heap.size w W → Calls Try.prog 41 #[.slice g1 gn1 gc1, .int .i64 (p1 + k + 1), .int .i64 (-1)] W fun e w' => IPost W (Ln.shift gap (p1 + k + 1) (-1)) e w') := fun W hW => by rw [hgn]; exact lshift_any g1 gc1 gap (p1 + k + 1) (-1) W (by omega) (by omega) (by omega) (fun y hy => by have := hgb y hy; omega) (hrg.below hW)
  have hsl : (Ln.shift gap (p1 + k + 1) (-1)).length ≤ gap.length := by
    have := Ln.compact_len (Ln.moved gap (p1 + k + 1) (-1))
    rw [Ln.moved_length] at this
    exact this
  have HM : Hid (∀ W a c, IRow W a (Ln.shift gap (p1 + k + 1) (-1)) → (Ln.shift gap (p1 + k + 1) (-1)).length ≤ c → Calls Try.prog 43 #[.slice a (Ln.shift gap (p1 + k + 1) (-1)).length c, .int .i64 (p1 + k)] W fun e w' => IPost W (Ln.loseGap gap (p1 + k)) e w') := fun W a c h hc => by
    have := lmark_any a c (Ln.shift gap (p1 + k + 1) (-1)) (p1 + k) W (by omega) hc (Ln.up_shift_down hug _) h
    rw [Ln.lose_gap hug] at this
    exact this
  have hw1 : IntKind.i64.wrap (p1 + (k : Int)) = p1 + (k : Int) := by rw [IntKind.wrap_i64]; omega
  have hw1' : wrap64 (p1 + (k : Int)) = p1 + (k : Int) := by unfold wrap64; omega
  obtain ⟨P, hP⟩ : ∃ P : Int, P = p1 + (k : Int) := ⟨_, rfl⟩
  rw [← hP] at HUn HS1 HS2 HM hfl hsl ⊢
  replace hw1 : IntKind.i64.wrap (p1 + (k : Int)) = P := by rw [hw1, hP]
  replace hw1' : wrap64 (p1 + (k : Int)) = P := by rw [hw1', hP]
  have hP2 : P + 1 ≤ 10000000000 := by omega
  have hP3 : 0 ≤ P := by omega
  have hw2 : IntKind.i64.wrap (P + 1) = P + 1 := by rw [IntKind.wrap_i64]; omega
  have hw2' : wrap64 (P + 1) = P + 1 := by unfold wrap64; omega
  replace hP := Rg.hid hP
  generalize Ln.loseBad bad P = LB at *
  generalize Ln.loseGap gap P = LG at *
  generalize Ln.shift gap (P + 1) (-1) = SG at *
  generalize bad.filter (fun q => !decide (q = P)) = FB at *
  generalize (⟨(x1.data.toList.take k ++ x1.data.toList.drop (k + 1)).toArray⟩ : ByteArray) = XN at *
  clear hbn hgn hbl hgl hbb hgb hub hug hrb hrg hfl hsl hx hk
  have kB1 : Rg.Bk w.heap.size [.string x0, .int .i64 p0, .slice b0 bn0 bc0, .slice g0 gn0 gc0, .string x1, .int .i64 p1, .slice b1 bn1 bc1, .slice g1 gn1 gc1, .bool true] 30 ((w.alloc (.cells #[.string x0, .int .i64 p0, .slice b0 bn0 bc0, .slice g0 gn0 gc0, .string x1, .int .i64 p1, .slice b1 bn1 bc1, .slice g1 gn1 gc1, .bool true] 30)).alloc (.cells #[.string ⟨#[]⟩, .int .i64 0, .slice none 0 0, .slice none 0 0, .string ⟨#[]⟩, .int .i64 0, .slice none 0 0, .slice none 0 0, .bool false] 30)) := (Rg.Bk.new rfl).old _
  have kR1 : Rg.Bk (w.heap.size + 1) [.string ⟨#[]⟩, .int .i64 0, .slice none 0 0, .slice none 0 0, .string ⟨#[]⟩, .int .i64 0, .slice none 0 0, .slice none 0 0, .bool false] 30 ((w.alloc (.cells #[.string x0, .int .i64 p0, .slice b0 bn0 bc0, .slice g0 gn0 gc0, .string x1, .int .i64 p1, .slice b1 bn1 bc1, .slice g1 gn1 gc1, .bool true] 30)).alloc (.cells #[.string ⟨#[]⟩, .int .i64 0, .slice none 0 0, .slice none 0 0, .string ⟨#[]⟩, .int .i64 0, .slice none 0 0, .slice none 0 0, .bool false] 30)) := Rg.Bk.new (by simp)
  have hb1 := Rg.al2 w (.cells #[.string x0, .int .i64 p0, .slice b0 bn0 bc0, .slice g0 gn0 gc0, .string x1, .int .i64 p1, .slice b1 bn1 bc1, .slice g1 gn1 gc1, .bool true] 30) (.cells #[.string ⟨#[]⟩, .int .i64 0, .slice none 0 0, .slice none 0 0, .string ⟨#[]⟩, .int .i64 0, .slice none 0 0, .slice none 0 0, .bool false] 30)
  go_enter Try.func21, Try.ntmps21
  go_upto_region 1 with fail
  generalize World.alloc _ _ = w1 at *
  obtain ⟨B, hB⟩ : ∃ B, B = w.heap.size := ⟨_, rfl⟩
  obtain ⟨R, hR⟩ : ∃ R, R = w.heap.size + 1 := ⟨_, rfl⟩
  rw [← hR] at kR1 ⊢
  rw [← hB] at kB1 ⊢
  have hBR : B ≠ R := by omega
  have hBw : w.heap.size ≤ B := by omega
  have hRw : w.heap.size ≤ R := by omega
  clear hB hR
  have z0 : w1.cell? ⟨B, 0, none⟩ = some (.string x0) := kB1.cell 0
  have z1 : w1.cell? ⟨B, 1, none⟩ = some (.int .i64 p0) := kB1.cell 1
  have z2 : w1.cell? ⟨B, 2, none⟩ = some (.slice b0 bn0 bc0) := kB1.cell 2
  have z3 : w1.cell? ⟨B, 3, none⟩ = some (.slice g0 gn0 gc0) := kB1.cell 3
  have z4 : w1.cell? ⟨B, 4, none⟩ = some (.string x1) := kB1.cell 4
  have z5 : w1.cell? ⟨B, 5, none⟩ = some (.int .i64 p1) := kB1.cell 5
  have z6 : w1.cell? ⟨B, 6, none⟩ = some (.slice b1 bn1 bc1) := kB1.cell 6
  have z7 : w1.cell? ⟨B, 7, none⟩ = some (.slice g1 gn1 gc1) := kB1.cell 7
  have z8 : w1.cell? ⟨B, 8, none⟩ = some (.bool true) := kB1.cell 8
  have kB1' := Rg.hid kB1
  have kR1' := Rg.hid kR1
  have hb1' := Rg.hid hb1
  clear kB1 kR1 hb1
  go_upto_region 3 with (first
    | (go_at_call 38; refine (HC.out _).mono ?_; rintro e w2 ⟨rfl, b2⟩; have kB2 := kB1'.out.below b2 kB1'.out.lt; have y4 := kB2.cell 4; have y5 := kB2.cell 5; have y6 := kB2.cell 6; have y7 := kB2.cell 7; simp only [List.getElem?_cons_zero, List.getElem?_cons_succ] at y4 y5 y6 y7)
    | (go_at_call 39; refine (HU.out _).mono ?_; rintro e w3 ⟨rfl, b3⟩))
  have kB3 := kB2.below b3 kB2.lt
  have kR3 := Rg.hid ((kR1'.out.below b2 kR1'.out.lt).below b3 (kR1'.out.below b2 kR1'.out.lt).lt)
  have hb3 := Rg.hid (Rg.chain (Rg.chain hb1'.out b2) b3)
  clear kB2 kB1' kR1' hb1' b2 b3 HC HU y4 y5 y6 y7 z0 z1 z2 z3 z4 z5 z6 z7 z8
  have z5 : w3.cell? ⟨B, 5, none⟩ = some (.int .i64 p1) := kB3.cell 5
  have z4 : w3.cell? ⟨B, 4, none⟩ = some (.string x1) := kB3.cell 4
  have kB3' := Rg.hid kB3
  clear kB3
  go_upto_region 6 with (go_at_call 40; refine (HSp.out _).mono ?_; rintro e w5 ⟨rfl, b5⟩; have kB5 := kB3'.out.below b5 kB3'.out.lt; have y := kB5.cell 4; have yf := kB5.thaw; simp only [List.getElem?_cons_zero, List.getElem?_cons_succ] at y)
  have kB6 : Rg.Bk B [.string x0, .int .i64 p0, .slice b0 bn0 bc0, .slice g0 gn0 gc0, .string XN, .int .i64 p1, .slice b1 bn1 bc1, .slice g1 gn1 gc1, .bool true] 30 (w5.setCell ⟨B, 4, none⟩ (.string XN)) := kB5.set 4 (.string XN)
  have o6 := Rg.Only.setCell w5 B 4 (.string XN)
  have kR6 := Rg.hid ((kR3.out.below b5 kR3.out.lt).same (o6.block R (Ne.symm hBR)))
  have hb6 := (Rg.chain hb3.out b5).trans (o6.bel hBw)
  clear y yf kB5 kB3' kR3 hb3 b5 o6 z4 z5 HSp
  generalize World.setCell _ _ _ = w6 at *
  have z6 : w6.cell? ⟨B, 6, none⟩ = some (.slice b1 bn1 bc1) := kB6.cell 6
  have kB6' := Rg.hid kB6
  clear kB6
  go_upto_region 7 with (first
    | (go_at_call 42; refine (HUn.out _ hb6).mono ?_; rintro e w7 ⟨a7, c7, rfl, hr7, b7⟩)
    | (go_at_call 41; refine (HS1.out _ _ _ hr7).mono ?_; rintro e w8 ⟨a8, c8, rfl, hr8, hc8, b8⟩; have kB8 := (kB6'.out.below b7 kB6'.out.lt).below b8 (kB6'.out.below b7 kB6'.out.lt).lt; have y := kB8.cell 6; have yf := kB8.thaw; simp only [List.getElem?_cons_zero, List.getElem?_cons_succ] at y))
  obtain ⟨NB, hNB⟩ : ∃ NB, NB = LB.length := ⟨_, rfl⟩
  rw [← hNB] at hc8 ⊢
  have kB9 : Rg.Bk B [.string x0, .int .i64 p0, .slice b0 bn0 bc0, .slice g0 gn0 gc0, .string XN, .int .i64 p1, .slice a8 NB c8, .slice g1 gn1 gc1, .bool true] 30 (w8.setCell ⟨B, 6, none⟩ (.slice a8 NB c8)) := kB8.set 6 (.slice a8 NB c8)
  have o9 := Rg.Only.setCell w8 B 6 (.slice a8 NB c8)
  have kR9 := Rg.hid (((kR6.out.below b7 kR6.out.lt).below b8 (kR6.out.below b7 kR6.out.lt).lt).same (o9.block R (Ne.symm hBR)))
  have hr9 := Rg.hid (hr8.only kB8 line_int o9)
  have hb9 := (Rg.chain (Rg.chain hb6 b7) b8).trans (o9.bel hBw)
  replace hNB := Rg.hid hNB
  clear y yf kB8 kB6' kR6 hb6 b7 b8 o9 hr7 hr8 z6 HUn HS1
  generalize World.setCell _ _ _ = w9 at *
  have z7 : w9.cell? ⟨B, 7, none⟩ = some (.slice g1 gn1 gc1) := kB9.cell 7
  have kB9' := Rg.hid kB9
  clear kB9
  go_upto_region 8 with (first
    | (go_at_call 41; refine (HS2.out _ hb9).mono ?_; rintro e w10 ⟨a10, c10, rfl, hr10, hc10, b10⟩)
    | (go_at_call 43; refine (HM.out _ _ _ hr10 hc10).mono ?_; rintro e w11 ⟨a11, c11, rfl, hr11, hc11, b11⟩; have kB11 := (kB9'.out.below b10 kB9'.out.lt).below b11 (kB9'.out.below b10 kB9'.out.lt).lt; have y := kB11.cell 7; have yf := kB11.thaw; simp only [List.getElem?_cons_zero, List.getElem?_cons_succ] at y))
  obtain ⟨NG, hNG⟩ : ∃ NG, NG = LG.length := ⟨_, rfl⟩
  rw [← hNG] at hc11 ⊢
  have kB12 : Rg.Bk B [.string x0, .int .i64 p0, .slice b0 bn0 bc0, .slice g0 gn0 gc0, .string XN, .int .i64 p1, .slice a8 NB c8, .slice a11 NG c11, .bool true] 30 (w11.setCell ⟨B, 7, none⟩ (.slice a11 NG c11)) := kB11.set 7 (.slice a11 NG c11)
  have o12 := Rg.Only.setCell w11 B 7 (.slice a11 NG c11)
  have kR12 := ((kR9.out.below b10 kR9.out.lt).below b11 (kR9.out.below b10 kR9.out.lt).lt).same (o12.block R (Ne.symm hBR))
  have hrB := ((hr9.out.below b10).below b11).only kB11 line_int o12
  have hrG := hr11.only kB11 line_int o12
  have hb12 := (Rg.chain (Rg.chain hb9 b10) b11).trans (o12.bel hBw)
  replace hNG := Rg.hid hNG
  clear y yf kB11 kB9' kR9 hb9 b10 b11 o12 hr10 hr11 hr9 hc10 z7 HS2 HM
  generalize World.setCell _ _ _ = w12 at *
  obtain ⟨kE, oE⟩ := ret9 kR12 rfl (.string x0) (.int .i64 p0) (.slice b0 bn0 bc0) (.slice g0 gn0 gc0) (.string XN) (.int .i64 p1) (.slice a8 NB c8) (.slice a11 NG c11) (.bool true)
  have post := Rg.hid ((⟨a8, c8, a11, c11, by rw [hNB.out, hNG.out], hrB.only kR12 line_int oE, hrG.only kR12 line_int oE, by rw [← hNB.out]; exact hc8, by rw [← hNG.out]; exact hc11, hb12.trans (oE.bel hRw)⟩ : ∃ ba bc ga gc, Ending.returned (.tuple #[.agg #[.string x0, .int .i64 p0, .slice b0 bn0 bc0, .slice g0 gn0 gc0, .string XN, .int .i64 p1, .slice a8 NB c8, .slice a11 NG c11, .bool true], .int .i64 0]) = .returned (.tuple #[.agg #[.string x0, .int .i64 p0, .slice b0 bn0 bc0, .slice g0 gn0 gc0, .string XN, .int .i64 p1, .slice ba LB.length bc, .slice ga LG.length gc, .bool true], .int .i64 0]) ∧ IRow _ ba LB ∧ IRow _ ga LG ∧ LB.length ≤ bc ∧ LG.length ≤ gc ∧ Below w.heap.size w _))
  replace kE := Rg.hid kE
  have d0' : w12.cell? ⟨B, 0, none⟩ = some (.string x0) := kB12.cell 0
  have d1' : w12.cell? ⟨B, 1, none⟩ = some (.int .i64 p0) := kB12.cell 1
  have d2' : w12.cell? ⟨B, 2, none⟩ = some (.slice b0 bn0 bc0) := kB12.cell 2
  have d3' : w12.cell? ⟨B, 3, none⟩ = some (.slice g0 gn0 gc0) := kB12.cell 3
  have d4' : w12.cell? ⟨B, 4, none⟩ = some (.string XN) := kB12.cell 4
  have d5' : w12.cell? ⟨B, 5, none⟩ = some (.int .i64 p1) := kB12.cell 5
  have d6' : w12.cell? ⟨B, 6, none⟩ = some (.slice a8 NB c8) := kB12.cell 6
  have d7' : w12.cell? ⟨B, 7, none⟩ = some (.slice a11 NG c11) := kB12.cell 7
  have d8' : w12.cell? ⟨B, 8, none⟩ = some (.bool true) := kB12.cell 8
  have r0 : w12.cell? ⟨R, 0, none⟩ = some (.string ⟨#[]⟩) := kR12.cell 0
  have r1 : w12.cell? ⟨R, 1, none⟩ = some (.int .i64 0) := kR12.cell 1
  have r2 : w12.cell? ⟨R, 2, none⟩ = some (.slice none 0 0) := kR12.cell 2
  have r3 : w12.cell? ⟨R, 3, none⟩ = some (.slice none 0 0) := kR12.cell 3
  have r4 : w12.cell? ⟨R, 4, none⟩ = some (.string ⟨#[]⟩) := kR12.cell 4
  have r5 : w12.cell? ⟨R, 5, none⟩ = some (.int .i64 0) := kR12.cell 5
  have r6 : w12.cell? ⟨R, 6, none⟩ = some (.slice none 0 0) := kR12.cell 6
  have r7 : w12.cell? ⟨R, 7, none⟩ = some (.slice none 0 0) := kR12.cell 7
  have r8 : w12.cell? ⟨R, 8, none⟩ = some (.bool false) := kR12.cell 8
  have rf := kR12.thaw
  clear oE kR12 kB12 hb12 hrB hrG hNB hNG
  go_wp2
  replace kE := kE.out
  replace post := post.out
  generalize World.setCell _ _ _ = WE at *
  exact bodyPost_ret (v := .tuple #[.agg #[.string x0, .int .i64 p0, .slice b0 bn0 bc0, .slice g0 gn0 gc0, .string XN, .int .i64 p1, .slice a8 NB c8, .slice a11 NG c11, .bool true], .int .i64 0]) (by simp [results, Try.results21, go_sem, kE.cell]) rfl post
end Go.Proofs.Ytalleocmnnnchaa
