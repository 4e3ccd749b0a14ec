/-
  Layer 7: Add.
-/
import Derived.Test.YtalleocmnnnchaaLn13
namespace Go.Proofs.Ytalleocmnnnchaa
open Go.RowKit

set_option maxHeartbeats 1000000 in
set_option maxRecDepth 100000 in
theorem ladd_fullmid0 (x0 : ByteArray) (p0 : Int) (b0 : Option Addr) (bn0 bc0 : Nat) (g0 : Option Addr) (gn0 gc0 : Nat) (x1 : ByteArray) (p1 : Int) (b1 : Option Addr) (bn1 bc1 : Nat) (g1 : Option Addr) (gn1 gc1 : Nat) (k : Nat) (c : Int) (w : World) (hk : k < x0.size) (hx : x0.size ≤ 1000000) (hf : 40000 ≤ x0.size) :
    Calls Try.prog 23 #[.agg #[.string x0, .int .i64 p0, .slice b0 bn0 bc0, .slice g0 gn0 gc0, .string x1, .int .i64 p1, .slice b1 bn1 bc1, .slice g1 gn1 gc1, .bool true], .int .i64 0, .int .i64 k, .int .u8 c] w fun e w' => e = .returned (.tuple #[.agg #[.string x0, .int .i64 p0, .slice b0 bn0 bc0, .slice g0 gn0 gc0, .string x1, .int .i64 p1, .slice b1 bn1 bc1, .slice g1 gn1 gc1, .bool true], .int .i64 8]) ∧ Below w.heap.size w w' := by
  have HC : Hid (∀ W, Calls Try.prog 38 #[.agg #[.string x0, .int .i64 p0, .slice b0 bn0 bc0, .slice g0 gn0 gc0, .string x1, .int .i64 p1, .slice b1 bn1 bc1, .slice g1 gn1 gc1, .bool true], .int .i64 0] W fun e w' => e = .returned (.bool true) ∧ Below W.heap.size W w') := fun W => lcarries0 x0 p0 b0 bn0 bc0 g0 gn0 gc0 x1 p1 b1 bn1 bc1 g1 gn1 gc1 true W
  have HU : Hid (∀ W, Calls Try.prog 39 #[.agg #[.string x0, .int .i64 p0, .slice b0 bn0 bc0, .slice g0 gn0 gc0], .int .i64 k] W fun e w' => e = .returned (.bool true) ∧ Below W.heap.size W w') := fun W => by
    have := lunder_any x0 p0 b0 bn0 bc0 g0 gn0 gc0 (k : Int) W
    rw [show decide (0 ≤ (k : Int) ∧ (k : Int) < (x0.size : Int)) = true by simp; omega] at this
    exact this
  have df : decide ((40000 : Int) ≤ (x0.size : Int)) = true := by simp; omega
  have kB1 : Rg.Bk w.heap.size [.string x0, .int .i64 p0, .slice b0 bn0 bc0, .slice g0 gn0 gc0, .string x1, .int .i64 p1, .slice b1 bn1 bc1, .slice g1 gn1 gc1, .bool true] 30 ((w.alloc (.cells #[.string x0, .int .i64 p0, .slice b0 bn0 bc0, .slice g0 gn0 gc0, .string x1, .int .i64 p1, .slice b1 bn1 bc1, .slice g1 gn1 gc1, .bool true] 30)).alloc (.cells #[.string ⟨#[]⟩, .int .i64 0, .slice none 0 0, .slice none 0 0, .string ⟨#[]⟩, .int .i64 0, .slice none 0 0, .slice none 0 0, .bool false] 30)) := (Rg.Bk.new rfl).old _
  have kR1 : Rg.Bk (w.heap.size + 1) [.string ⟨#[]⟩, .int .i64 0, .slice none 0 0, .slice none 0 0, .string ⟨#[]⟩, .int .i64 0, .slice none 0 0, .slice none 0 0, .bool false] 30 ((w.alloc (.cells #[.string x0, .int .i64 p0, .slice b0 bn0 bc0, .slice g0 gn0 gc0, .string x1, .int .i64 p1, .slice b1 bn1 bc1, .slice g1 gn1 gc1, .bool true] 30)).alloc (.cells #[.string ⟨#[]⟩, .int .i64 0, .slice none 0 0, .slice none 0 0, .string ⟨#[]⟩, .int .i64 0, .slice none 0 0, .slice none 0 0, .bool false] 30)) := Rg.Bk.new (by simp)
  have hb1 := Rg.al2 w (.cells #[.string x0, .int .i64 p0, .slice b0 bn0 bc0, .slice g0 gn0 gc0, .string x1, .int .i64 p1, .slice b1 bn1 bc1, .slice g1 gn1 gc1, .bool true] 30) (.cells #[.string ⟨#[]⟩, .int .i64 0, .slice none 0 0, .slice none 0 0, .string ⟨#[]⟩, .int .i64 0, .slice none 0 0, .slice none 0 0, .bool false] 30)
  go_enter Try.func23, Try.ntmps23
  go_upto_region 1 with fail
  generalize World.alloc _ _ = w1 at *
  obtain ⟨B, hB⟩ : ∃ B, B = w.heap.size := ⟨_, rfl⟩
  obtain ⟨R, hR⟩ : ∃ R, R = w.heap.size + 1 := ⟨_, rfl⟩
  rw [← hR] at kR1 ⊢
  rw [← hB] at kB1 ⊢
  have hBR : B ≠ R := by omega
  have hBw : w.heap.size ≤ B := by omega
  have hRw : w.heap.size ≤ R := by omega
  clear hB hR
  have z0 : w1.cell? ⟨B, 0, none⟩ = some (.string x0) := kB1.cell 0
  have z1 : w1.cell? ⟨B, 1, none⟩ = some (.int .i64 p0) := kB1.cell 1
  have z2 : w1.cell? ⟨B, 2, none⟩ = some (.slice b0 bn0 bc0) := kB1.cell 2
  have z3 : w1.cell? ⟨B, 3, none⟩ = some (.slice g0 gn0 gc0) := kB1.cell 3
  have z4 : w1.cell? ⟨B, 4, none⟩ = some (.string x1) := kB1.cell 4
  have z5 : w1.cell? ⟨B, 5, none⟩ = some (.int .i64 p1) := kB1.cell 5
  have z6 : w1.cell? ⟨B, 6, none⟩ = some (.slice b1 bn1 bc1) := kB1.cell 6
  have z7 : w1.cell? ⟨B, 7, none⟩ = some (.slice g1 gn1 gc1) := kB1.cell 7
  have z8 : w1.cell? ⟨B, 8, none⟩ = some (.bool true) := kB1.cell 8
  have kB1' := Rg.hid kB1
  have kR1' := Rg.hid kR1
  have hb1' := Rg.hid hb1
  clear kB1 kR1 hb1
  go_upto_region 3 with (first
    | (go_at_call 38; refine (HC.out _).mono ?_; rintro e w2 ⟨rfl, b2⟩; have kB2 := kB1'.out.below b2 kB1'.out.lt; have y0 := kB2.cell 0; have y1 := kB2.cell 1; have y2 := kB2.cell 2; have y3 := kB2.cell 3; simp only [List.getElem?_cons_zero, List.getElem?_cons_succ] at y0 y1 y2 y3)
    | (go_at_call 39; refine (HU.out _).mono ?_; rintro e w3 ⟨rfl, b3⟩; have kB3 := kB2.below b3 kB2.lt; have u := kB3.cell 0; simp only [List.getElem?_cons_zero] at u))
  have kR3 := Rg.hid ((kR1'.out.below b2 kR1'.out.lt).below b3 (kR1'.out.below b2 kR1'.out.lt).lt)
  have hb3 := Rg.hid (Rg.chain (Rg.chain hb1'.out b2) b3)
  clear kB2 kB1' kR1' hb1' b2 b3 HC HU u y0 y1 y2 y3 z0 z1 z2 z3 z4 z5 z6 z7 z8
  have z1 : w3.cell? ⟨B, 1, none⟩ = some (.int .i64 p0) := kB3.cell 1
  have z0 : w3.cell? ⟨B, 0, none⟩ = some (.string x0) := kB3.cell 0
  have kR3b := kR3.out
  have kB3' := Rg.hid kB3
  clear kR3
  go_upto_region 5 with fail
  have kB3b := kB3'.out
  clear z0 z1 kB3 kB3'
  obtain ⟨kE, oE⟩ := ret9 kR3b rfl (.string x0) (.int .i64 p0) (.slice b0 bn0 bc0) (.slice g0 gn0 gc0) (.string x1) (.int .i64 p1) (.slice b1 bn1 bc1) (.slice g1 gn1 gc1) (.bool true)
  have post := Rg.hid (hb3.out.trans (oE.bel hRw))
  replace kE := Rg.hid kE
  have d0' : w3.cell? ⟨B, 0, none⟩ = some (.string x0) := kB3b.cell 0
  have d1' : w3.cell? ⟨B, 1, none⟩ = some (.int .i64 p0) := kB3b.cell 1
  have d2' : w3.cell? ⟨B, 2, none⟩ = some (.slice b0 bn0 bc0) := kB3b.cell 2
  have d3' : w3.cell? ⟨B, 3, none⟩ = some (.slice g0 gn0 gc0) := kB3b.cell 3
  have d4' : w3.cell? ⟨B, 4, none⟩ = some (.string x1) := kB3b.cell 4
  have d5' : w3.cell? ⟨B, 5, none⟩ = some (.int .i64 p1) := kB3b.cell 5
  have d6' : w3.cell? ⟨B, 6, none⟩ = some (.slice b1 bn1 bc1) := kB3b.cell 6
  have d7' : w3.cell? ⟨B, 7, none⟩ = some (.slice g1 gn1 gc1) := kB3b.cell 7
  have d8' : w3.cell? ⟨B, 8, none⟩ = some (.bool true) := kB3b.cell 8
  have r0 : w3.cell? ⟨R, 0, none⟩ = some (.string ⟨#[]⟩) := kR3b.cell 0
  have r1 : w3.cell? ⟨R, 1, none⟩ = some (.int .i64 0) := kR3b.cell 1
  have r2 : w3.cell? ⟨R, 2, none⟩ = some (.slice none 0 0) := kR3b.cell 2
  have r3 : w3.cell? ⟨R, 3, none⟩ = some (.slice none 0 0) := kR3b.cell 3
  have r4 : w3.cell? ⟨R, 4, none⟩ = some (.string ⟨#[]⟩) := kR3b.cell 4
  have r5 : w3.cell? ⟨R, 5, none⟩ = some (.int .i64 0) := kR3b.cell 5
  have r6 : w3.cell? ⟨R, 6, none⟩ = some (.slice none 0 0) := kR3b.cell 6
  have r7 : w3.cell? ⟨R, 7, none⟩ = some (.slice none 0 0) := kR3b.cell 7
  have r8 : w3.cell? ⟨R, 8, none⟩ = some (.bool false) := kR3b.cell 8
  have rf := kR3b.thaw
  clear oE kR3b kB3b hb3
  go_wp2
  replace kE := kE.out
  replace post := post.out
  generalize World.setCell _ _ _ = WE at *
  exact bodyPost_ret (v := .tuple #[.agg #[.string x0, .int .i64 p0, .slice b0 bn0 bc0, .slice g0 gn0 gc0, .string x1, .int .i64 p1, .slice b1 bn1 bc1, .slice g1 gn1 gc1, .bool true], .int .i64 8]) (by simp [results, Try.results23, go_sem, kE.cell]) rfl ⟨rfl, post⟩

set_option maxHeartbeats 2000000 in
set_option maxRecDepth 100000 in
theorem ladd_mid0 (x0 : ByteArray) (p0 : Int) (b0 : Option Addr) (bn0 bc0 : Nat) (g0 : Option Addr) (gn0 gc0 : Nat) (x1 : ByteArray) (p1 : Int) (b1 : Option Addr) (bn1 bc1 : Nat) (g1 : Option Addr) (gn1 gc1 : Nat) (k : Nat) (c : UInt8) (bad gap : List Int) (w : World) (hk : k < x0.size) (hx : x0.size < 40000) (hp : 0 ≤ p0) (hp2 : p0 ≤ 1000000000) (hbn : bn0 = bad.length) (hgn : gn0 = gap.length) (hbl : bad.length ≤ 100000000) (hgl : gap.length ≤ 100000000)
    (hbb : ∀ y ∈ bad, 0 ≤ y ∧ y ≤ 10000000000) (hgb : ∀ y ∈ gap, 0 ≤ y ∧ y ≤ 10000000000) (hub : Ln.Up bad) (hug : Ln.Up gap) (hrb : IRow w b0 bad) (hrg : IRow w g0 gap) :
    Calls Try.prog 23 #[.agg #[.string x0, .int .i64 p0, .slice b0 bn0 bc0, .slice g0 gn0 gc0, .string x1, .int .i64 p1, .slice b1 bn1 bc1, .slice g1 gn1 gc1, .bool true], .int .i64 0, .int .i64 k, .int .u8 (c.toNat : Int)] w fun e w' => ∃ ba bc ga gc, e = .returned (.tuple #[.agg #[.string ⟨((x0.data.toList.take k ++ [c]) ++ x0.data.toList.drop (k + 0)).toArray⟩, .int .i64 p0, .slice ba (Ln.addBad bad (p0 + k)).length bc, .slice ga (Ln.addGap gap (p0 + k)).length gc, .string x1, .int .i64 p1, .slice b1 bn1 bc1, .slice g1 gn1 gc1, .bool true], .int .i64 0]) ∧ IRow w' ba (Ln.addBad bad (p0 + k)) ∧ IRow w' ga (Ln.addGap gap (p0 + k)) ∧ (Ln.addBad bad (p0 + k)).length ≤ bc ∧ (Ln.addGap gap (p0 + k)).length ≤ gc ∧ Below w.heap.size w w' := by
  have HC : Hid (∀ W, Calls Try.prog 38 #[.agg #[.string x0, .int .i64 p0, .slice b0 bn0 bc0, .slice g0 gn0 gc0, .string x1, .int .i64 p1, .slice b1 bn1 bc1, .slice g1 gn1 gc1, .bool true], .int .i64 0] W fun e w' => e = .returned (.bool true) ∧ Below W.heap.size W w') := fun W => lcarries0 x0 p0 b0 bn0 bc0 g0 gn0 gc0 x1 p1 b1 bn1 bc1 g1 gn1 gc1 true W
  have HU : Hid (∀ W, Calls Try.prog 39 #[.agg #[.string x0, .int .i64 p0, .slice b0 bn0 bc0, .slice g0 gn0 gc0], .int .i64 k] W fun e w' => e = .returned (.bool true) ∧ Below W.heap.size W w') := fun W => by
    have := lunder_any x0 p0 b0 bn0 bc0 g0 gn0 gc0 (k : Int) W
    rw [show decide (0 ≤ (k : Int) ∧ (k : Int) < (x0.size : Int)) = true by simp; omega] at this
    exact this
  have df : decide ((40000 : Int) ≤ (x0.size : Int)) = false := by simp; omega
  have HSp0 := fun W vb (hv : ∀ W', Below W.heap.size W W' → W'.cell? ⟨vb, 0, none⟩ = some (.int .u8 (c.toNat : Int))) => splice_in x0 k 0 c vb W (by omega) (by omega) hv
  have HSp : Hid (∀ W, Calls Try.prog 40 #[.string x0, .int .i64 k, .int .i64 0, .slice (some ⟨W.heap.size, 0, none⟩) 1 1] (W.alloc (.cells #[.int .u8 (c.toNat : Int)] 5)) fun e w' => e = .returned (.string ⟨((x0.data.toList.take k ++ [c]) ++ x0.data.toList.drop (k + 0)).toArray⟩) ∧ Below W.heap.size W w') := fun W => (HSp0 (W.alloc (.cells #[.int .u8 (c.toNat : Int)] 5)) W.heap.size (fun W' hb => Rg.Bk.cell (Rg.Bk.below (Rg.Bk.new rfl) hb (by simp)) 0)).mono fun e w' ⟨h1, h2⟩ => ⟨h1, Rg.chain (Rg.al1 _ _) h2⟩
  clear HSp0
  have HS1 : Hid (∀ W, Below w.heap.size w W → Calls Try.prog 41 #[.slice b0 bn0 bc0, .int .i64 (p0 + k), .int .i64 1] W fun e w' => IPost W (Ln.shift bad (p0 + k) 1) e w') := fun W hW => by rw [hbn]; exact lshift_any b0 bc0 bad (p0 + k) 1 W (by omega) (by omega) (by omega) (fun y hy => by have := hbb y hy; omega) (hrb.below hW)
  have hsl : (Ln.shift bad (p0 + k) 1).length ≤ bad.length := by
    have := Ln.compact_len (Ln.moved bad (p0 + k) 1)
    rw [Ln.moved_length] at this
    exact this
  have HM : Hid (∀ W a c, IRow W a (Ln.shift bad (p0 + k) 1) → (Ln.shift bad (p0 + k) 1).length ≤ c → Calls Try.prog 43 #[.slice a (Ln.shift bad (p0 + k) 1).length c, .int .i64 (p0 + k)] W fun e w' => IPost W (Ln.addBad bad (p0 + k)) e w') := fun W a c h hc => by
    have := lmark_any a c (Ln.shift bad (p0 + k) 1) (p0 + k) W (by omega) hc (Ln.up_shift_up hub _) h
    rw [Ln.add_bad hub] at this
    exact this
  have HS2 : Hid (∀ W, Below w.heap.size w W → Calls Try.prog 41 #[.slice g0 gn0 gc0, .int .i64 (p0 + k + 1), .int .i64 1] W fun e w' => IPost W (Ln.addGap gap (p0 + k)) e w') := fun W hW => by
    have := lshift_any g0 gc0 gap (p0 + k + 1) 1 W (by omega) (by omega) (by omega) (fun y hy => by have := hgb y hy; omega) (hrg.below hW)
    rw [Ln.add_gap hug] at this
    rw [hgn]
    exact this
  have hw1' : wrap64 (p0 + (k : Int)) = p0 + (k : Int) := by unfold wrap64; omega
  have hw1 : IntKind.i64.wrap (p0 + (k : Int)) = p0 + (k : Int) := by rw [IntKind.wrap_i64]; omega
  obtain ⟨P, hP⟩ : ∃ P : Int, P = p0 + (k : Int) := ⟨_, rfl⟩
  rw [← hP] at HS1 HS2 HM hsl ⊢
  replace hw1 : IntKind.i64.wrap (p0 + (k : Int)) = P := by rw [hw1, hP]
  replace hw1' : wrap64 (p0 + (k : Int)) = P := by rw [hw1', hP]
  have hP2 : P + 1 ≤ 10000000000 := by omega
  have hP3 : 0 ≤ P := by omega
  have hw2 : IntKind.i64.wrap (P + 1) = P + 1 := by rw [IntKind.wrap_i64]; omega
  have hw2' : wrap64 (P + 1) = P + 1 := by unfold wrap64; omega
  replace hP := Rg.hid hP
  generalize Ln.addBad bad P = LB at *
  generalize Ln.addGap gap P = LG at *
  generalize Ln.shift bad P 1 = SB at *
  generalize (⟨((x0.data.toList.take k ++ [c]) ++ x0.data.toList.drop (k + 0)).toArray⟩ : ByteArray) = XN at *
  generalize (c.toNat : Int) = CN at *
  clear hbn hgn hbl hgl hbb hgb hub hug hrb hrg hsl
  have kB1 : Rg.Bk w.heap.size [.string x0, .int .i64 p0, .slice b0 bn0 bc0, .slice g0 gn0 gc0, .string x1, .int .i64 p1, .slice b1 bn1 bc1, .slice g1 gn1 gc1, .bool true] 30 ((w.alloc (.cells #[.string x0, .int .i64 p0, .slice b0 bn0 bc0, .slice g0 gn0 gc0, .string x1, .int .i64 p1, .slice b1 bn1 bc1, .slice g1 gn1 gc1, .bool true] 30)).alloc (.cells #[.string ⟨#[]⟩, .int .i64 0, .slice none 0 0, .slice none 0 0, .string ⟨#[]⟩, .int .i64 0, .slice none 0 0, .slice none 0 0, .bool false] 30)) := (Rg.Bk.new rfl).old _
  have kR1 : Rg.Bk (w.heap.size + 1) [.string ⟨#[]⟩, .int .i64 0, .slice none 0 0, .slice none 0 0, .string ⟨#[]⟩, .int .i64 0, .slice none 0 0, .slice none 0 0, .bool false] 30 ((w.alloc (.cells #[.string x0, .int .i64 p0, .slice b0 bn0 bc0, .slice g0 gn0 gc0, .string x1, .int .i64 p1, .slice b1 bn1 bc1, .slice g1 gn1 gc1, .bool true] 30)).alloc (.cells #[.string ⟨#[]⟩, .int .i64 0, .slice none 0 0, .slice none 0 0, .string ⟨#[]⟩, .int .i64 0, .slice none 0 0, .slice none 0 0, .bool false] 30)) := Rg.Bk.new (by simp)
  have hb1 := Rg.al2 w (.cells #[.string x0, .int .i64 p0, .slice b0 bn0 bc0, .slice g0 gn0 gc0, .string x1, .int .i64 p1, .slice b1 bn1 bc1, .slice g1 gn1 gc1, .bool true] 30) (.cells #[.string ⟨#[]⟩, .int .i64 0, .slice none 0 0, .slice none 0 0, .string ⟨#[]⟩, .int .i64 0, .slice none 0 0, .slice none 0 0, .bool false] 30)
  go_enter Try.func23, Try.ntmps23
  go_upto_region 1 with fail
  generalize World.alloc _ _ = w1 at *
  obtain ⟨B, hB⟩ : ∃ B, B = w.heap.size := ⟨_, rfl⟩
  obtain ⟨R, hR⟩ : ∃ R, R = w.heap.size + 1 := ⟨_, rfl⟩
  rw [← hR] at kR1 ⊢
  rw [← hB] at kB1 ⊢
  have hBR : B ≠ R := by omega
  have hBw : w.heap.size ≤ B := by omega
  have hRw : w.heap.size ≤ R := by omega
  clear hB hR
  have z0 : w1.cell? ⟨B, 0, none⟩ = some (.string x0) := kB1.cell 0
  have z1 : w1.cell? ⟨B, 1, none⟩ = some (.int .i64 p0) := kB1.cell 1
  have z2 : w1.cell? ⟨B, 2, none⟩ = some (.slice b0 bn0 bc0) := kB1.cell 2
  have z3 : w1.cell? ⟨B, 3, none⟩ = some (.slice g0 gn0 gc0) := kB1.cell 3
  have z4 : w1.cell? ⟨B, 4, none⟩ = some (.string x1) := kB1.cell 4
  have z5 : w1.cell? ⟨B, 5, none⟩ = some (.int .i64 p1) := kB1.cell 5
  have z6 : w1.cell? ⟨B, 6, none⟩ = some (.slice b1 bn1 bc1) := kB1.cell 6
  have z7 : w1.cell? ⟨B, 7, none⟩ = some (.slice g1 gn1 gc1) := kB1.cell 7
  have z8 : w1.cell? ⟨B, 8, none⟩ = some (.bool true) := kB1.cell 8
  have kB1' := Rg.hid kB1
  have kR1' := Rg.hid kR1
  have hb1' := Rg.hid hb1
  clear kB1 kR1 hb1
  go_upto_region 3 with (first
    | (go_at_call 38; refine (HC.out _).mono ?_; rintro e w2 ⟨rfl, b2⟩; have kB2 := kB1'.out.below b2 kB1'.out.lt; have y0 := kB2.cell 0; have y1 := kB2.cell 1; have y2 := kB2.cell 2; have y3 := kB2.cell 3; simp only [List.getElem?_cons_zero, List.getElem?_cons_succ] at y0 y1 y2 y3)
    | (go_at_call 39; refine (HU.out _).mono ?_; rintro e w3 ⟨rfl, b3⟩; have kB3 := kB2.below b3 kB2.lt; have u := kB3.cell 0; simp only [List.getElem?_cons_zero] at u))
  have kR3 := Rg.hid ((kR1'.out.below b2 kR1'.out.lt).below b3 (kR1'.out.below b2 kR1'.out.lt).lt)
  have hb3 := Rg.hid (Rg.chain (Rg.chain hb1'.out b2) b3)
  clear kB2 kB1' kR1' hb1' b2 b3 HC HU u y0 y1 y2 y3 z0 z1 z2 z3 z4 z5 z6 z7 z8
  have z1 : w3.cell? ⟨B, 1, none⟩ = some (.int .i64 p0) := kB3.cell 1
  have z0 : w3.cell? ⟨B, 0, none⟩ = some (.string x0) := kB3.cell 0
  have kB3' := Rg.hid kB3
  clear kB3
  go_upto_region 8 with (go_at_call 40; refine (HSp.out _).mono ?_; rintro e w5 ⟨rfl, b5⟩; have kB5 := kB3'.out.below b5 kB3'.out.lt; have y := kB5.cell 0; have yf := kB5.thaw; simp only [List.getElem?_cons_zero] at y)
  have kB6 : Rg.Bk B [.string XN, .int .i64 p0, .slice b0 bn0 bc0, .slice g0 gn0 gc0, .string x1, .int .i64 p1, .slice b1 bn1 bc1, .slice g1 gn1 gc1, .bool true] 30 (w5.setCell ⟨B, 0, none⟩ (.string XN)) := kB5.set 0 (.string XN)
  have o6 := Rg.Only.setCell w5 B 0 (.string XN)
  have kR6 := Rg.hid ((kR3.out.below b5 kR3.out.lt).same (o6.block R (Ne.symm hBR)))
  have hb6 := (Rg.chain hb3.out b5).trans (o6.bel hBw)
  clear y yf kB5 kB3' kR3 hb3 b5 o6 z0 z1 HSp
  generalize World.setCell _ _ _ = w6 at *
  have z2 : w6.cell? ⟨B, 2, none⟩ = some (.slice b0 bn0 bc0) := kB6.cell 2
  have kB6' := Rg.hid kB6
  clear kB6
  go_upto_region 9 with (first
    | (go_at_call 41; refine (HS1.out _ hb6).mono ?_; rintro e w7 ⟨a7, c7, rfl, hr7, hc7, b7⟩)
    | (go_at_call 43; refine (HM.out _ _ _ hr7 hc7).mono ?_; rintro e w8 ⟨a8, c8, rfl, hr8, hc8, b8⟩; have kB8 := (kB6'.out.below b7 kB6'.out.lt).below b8 (kB6'.out.below b7 kB6'.out.lt).lt; have y := kB8.cell 2; have yf := kB8.thaw; simp only [List.getElem?_cons_zero, List.getElem?_cons_succ] at y))
  obtain ⟨NB, hNB⟩ : ∃ NB, NB = LB.length := ⟨_, rfl⟩
  rw [← hNB] at hc8 ⊢
  have kB9 : Rg.Bk B [.string XN, .int .i64 p0, .slice a8 NB c8, .slice g0 gn0 gc0, .string x1, .int .i64 p1, .slice b1 bn1 bc1, .slice g1 gn1 gc1, .bool true] 30 (w8.setCell ⟨B, 2, none⟩ (.slice a8 NB c8)) := kB8.set 2 (.slice a8 NB c8)
  have o9 := Rg.Only.setCell w8 B 2 (.slice a8 NB c8)
  have kR9 := Rg.hid (((kR6.out.below b7 kR6.out.lt).below b8 (kR6.out.below b7 kR6.out.lt).lt).same (o9.block R (Ne.symm hBR)))
  have hr9 := Rg.hid (hr8.only kB8 line_int o9)
  have hb9 := (Rg.chain (Rg.chain hb6 b7) b8).trans (o9.bel hBw)
  replace hNB := Rg.hid hNB
  clear y yf kB8 kB6' kR6 hb6 b7 b8 o9 hr7 hr8 hc7 z2 HS1 HM
  generalize World.setCell _ _ _ = w9 at *
  have z3 : w9.cell? ⟨B, 3, none⟩ = some (.slice g0 gn0 gc0) := kB9.cell 3
  have kB9' := Rg.hid kB9
  clear kB9
  go_upto_region 10 with (go_at_call 41; refine (HS2.out _ hb9).mono ?_; rintro e w11 ⟨a11, c11, rfl, hr11, hc11, b11⟩; have kB11 := kB9'.out.below b11 kB9'.out.lt; have y := kB11.cell 3; have yf := kB11.thaw; simp only [List.getElem?_cons_zero, List.getElem?_cons_succ] at y)
  obtain ⟨NG, hNG⟩ : ∃ NG, NG = LG.length := ⟨_, rfl⟩
  rw [← hNG] at hc11 ⊢
  have kB12 : Rg.Bk B [.string XN, .int .i64 p0, .slice a8 NB c8, .slice a11 NG c11, .string x1, .int .i64 p1, .slice b1 bn1 bc1, .slice g1 gn1 gc1, .bool true] 30 (w11.setCell ⟨B, 3, none⟩ (.slice a11 NG c11)) := kB11.set 3 (.slice a11 NG c11)
  have o12 := Rg.Only.setCell w11 B 3 (.slice a11 NG c11)
  have kR12 := (kR9.out.below b11 kR9.out.lt).same (o12.block R (Ne.symm hBR))
  have hrB := (hr9.out.below b11).only kB11 line_int o12
  have hrG := hr11.only kB11 line_int o12
  have hb12 := (Rg.chain hb9 b11).trans (o12.bel hBw)
  replace hNG := Rg.hid hNG
  clear y yf kB11 kB9' kR9 hb9 b11 o12 hr11 hr9 z3 HS2
  generalize World.setCell _ _ _ = w12 at *
  obtain ⟨kE, oE⟩ := ret9 kR12 rfl (.string XN) (.int .i64 p0) (.slice a8 NB c8) (.slice a11 NG c11) (.string x1) (.int .i64 p1) (.slice b1 bn1 bc1) (.slice g1 gn1 gc1) (.bool true)
  have post := Rg.hid ((⟨a8, c8, a11, c11, by rw [hNB.out, hNG.out], hrB.only kR12 line_int oE, hrG.only kR12 line_int oE, by rw [← hNB.out]; exact hc8, by rw [← hNG.out]; exact hc11, hb12.trans (oE.bel hRw)⟩ : ∃ ba bc ga gc, Ending.returned (.tuple #[.agg #[.string XN, .int .i64 p0, .slice a8 NB c8, .slice a11 NG c11, .string x1, .int .i64 p1, .slice b1 bn1 bc1, .slice g1 gn1 gc1, .bool true], .int .i64 0]) = .returned (.tuple #[.agg #[.string XN, .int .i64 p0, .slice ba LB.length bc, .slice ga LG.length gc, .string x1, .int .i64 p1, .slice b1 bn1 bc1, .slice g1 gn1 gc1, .bool true], .int .i64 0]) ∧ IRow _ ba LB ∧ IRow _ ga LG ∧ LB.length ≤ bc ∧ LG.length ≤ gc ∧ Below w.heap.size w _))
  replace kE := Rg.hid kE
  have d0' : w12.cell? ⟨B, 0, none⟩ = some (.string XN) := kB12.cell 0
  have d1' : w12.cell? ⟨B, 1, none⟩ = some (.int .i64 p0) := kB12.cell 1
  have d2' : w12.cell? ⟨B, 2, none⟩ = some (.slice a8 NB c8) := kB12.cell 2
  have d3' : w12.cell? ⟨B, 3, none⟩ = some (.slice a11 NG c11) := kB12.cell 3
  have d4' : w12.cell? ⟨B, 4, none⟩ = some (.string x1) := kB12.cell 4
  have d5' : w12.cell? ⟨B, 5, none⟩ = some (.int .i64 p1) := kB12.cell 5
  have d6' : w12.cell? ⟨B, 6, none⟩ = some (.slice b1 bn1 bc1) := kB12.cell 6
  have d7' : w12.cell? ⟨B, 7, none⟩ = some (.slice g1 gn1 gc1) := kB12.cell 7
  have d8' : w12.cell? ⟨B, 8, none⟩ = some (.bool true) := kB12.cell 8
  have r0 : w12.cell? ⟨R, 0, none⟩ = some (.string ⟨#[]⟩) := kR12.cell 0
  have r1 : w12.cell? ⟨R, 1, none⟩ = some (.int .i64 0) := kR12.cell 1
  have r2 : w12.cell? ⟨R, 2, none⟩ = some (.slice none 0 0) := kR12.cell 2
  have r3 : w12.cell? ⟨R, 3, none⟩ = some (.slice none 0 0) := kR12.cell 3
  have r4 : w12.cell? ⟨R, 4, none⟩ = some (.string ⟨#[]⟩) := kR12.cell 4
  have r5 : w12.cell? ⟨R, 5, none⟩ = some (.int .i64 0) := kR12.cell 5
  have r6 : w12.cell? ⟨R, 6, none⟩ = some (.slice none 0 0) := kR12.cell 6
  have r7 : w12.cell? ⟨R, 7, none⟩ = some (.slice none 0 0) := kR12.cell 7
  have r8 : w12.cell? ⟨R, 8, none⟩ = some (.bool false) := kR12.cell 8
  have rf := kR12.thaw
  clear oE kR12 kB12 hb12 hrB hrG hNB hNG
  go_wp2
  replace kE := kE.out
  replace post := post.out
  generalize World.setCell _ _ _ = WE at *
  exact bodyPost_ret (v := .tuple #[.agg #[.string XN, .int .i64 p0, .slice a8 NB c8, .slice a11 NG c11, .string x1, .int .i64 p1, .slice b1 bn1 bc1, .slice g1 gn1 gc1, .bool true], .int .i64 0]) (by simp [results, Try.results23, go_sem, kE.cell]) rfl post

set_option maxHeartbeats 1000000 in
set_option maxRecDepth 100000 in
theorem ladd_fullend0 (x0 : ByteArray) (p0 : Int) (b0 : Option Addr) (bn0 bc0 : Nat) (g0 : Option Addr) (gn0 gc0 : Nat) (x1 : ByteArray) (p1 : Int) (b1 : Option Addr) (bn1 bc1 : Nat) (g1 : Option Addr) (gn1 gc1 : Nat) (k : Nat) (c : Int) (w : World) (hk : k ≤ x0.size) (hk2 : x0.size ≤ k) (hx : x0.size ≤ 1000000) (hf : 40000 ≤ x0.size) :
    Calls Try.prog 23 #[.agg #[.string x0, .int .i64 p0, .slice b0 bn0 bc0, .slice g0 gn0 gc0, .string x1, .int .i64 p1, .slice b1 bn1 bc1, .slice g1 gn1 gc1, .bool true], .int .i64 0, .int .i64 k, .int .u8 c] w fun e w' => e = .returned (.tuple #[.agg #[.string x0, .int .i64 p0, .slice b0 bn0 bc0, .slice g0 gn0 gc0, .string x1, .int .i64 p1, .slice b1 bn1 bc1, .slice g1 gn1 gc1, .bool true], .int .i64 8]) ∧ Below w.heap.size w w' := by
  have HC : Hid (∀ W, Calls Try.prog 38 #[.agg #[.string x0, .int .i64 p0, .slice b0 bn0 bc0, .slice g0 gn0 gc0, .string x1, .int .i64 p1, .slice b1 bn1 bc1, .slice g1 gn1 gc1, .bool true], .int .i64 0] W fun e w' => e = .returned (.bool true) ∧ Below W.heap.size W w') := fun W => lcarries0 x0 p0 b0 bn0 bc0 g0 gn0 gc0 x1 p1 b1 bn1 bc1 g1 gn1 gc1 true W
  have HU : Hid (∀ W, Calls Try.prog 39 #[.agg #[.string x0, .int .i64 p0, .slice b0 bn0 bc0, .slice g0 gn0 gc0], .int .i64 k] W fun e w' => e = .returned (.bool false) ∧ Below W.heap.size W w') := fun W => by
    have := lunder_any x0 p0 b0 bn0 bc0 g0 gn0 gc0 (k : Int) W
    rw [show decide (0 ≤ (k : Int) ∧ (k : Int) < (x0.size : Int)) = false by simp; omega] at this
    exact this
  have dne : ((k : Int) != (x0.size : Int)) = false := by simp; omega
  have df : decide ((40000 : Int) ≤ (x0.size : Int)) = true := by simp; omega
  have kB1 : Rg.Bk w.heap.size [.string x0, .int .i64 p0, .slice b0 bn0 bc0, .slice g0 gn0 gc0, .string x1, .int .i64 p1, .slice b1 bn1 bc1, .slice g1 gn1 gc1, .bool true] 30 ((w.alloc (.cells #[.string x0, .int .i64 p0, .slice b0 bn0 bc0, .slice g0 gn0 gc0, .string x1, .int .i64 p1, .slice b1 bn1 bc1, .slice g1 gn1 gc1, .bool true] 30)).alloc (.cells #[.string ⟨#[]⟩, .int .i64 0, .slice none 0 0, .slice none 0 0, .string ⟨#[]⟩, .int .i64 0, .slice none 0 0, .slice none 0 0, .bool false] 30)) := (Rg.Bk.new rfl).old _
  have kR1 : Rg.Bk (w.heap.size + 1) [.string ⟨#[]⟩, .int .i64 0, .slice none 0 0, .slice none 0 0, .string ⟨#[]⟩, .int .i64 0, .slice none 0 0, .slice none 0 0, .bool false] 30 ((w.alloc (.cells #[.string x0, .int .i64 p0, .slice b0 bn0 bc0, .slice g0 gn0 gc0, .string x1, .int .i64 p1, .slice b1 bn1 bc1, .slice g1 gn1 gc1, .bool true] 30)).alloc (.cells #[.string ⟨#[]⟩, .int .i64 0, .slice none 0 0, .slice none 0 0, .string ⟨#[]⟩, .int .i64 0, .slice none 0 0, .slice none 0 0, .bool false] 30)) := Rg.Bk.new (by simp)
  have hb1 := Rg.al2 w (.cells #[.string x0, .int .i64 p0, .slice b0 bn0 bc0, .slice g0 gn0 gc0, .string x1, .int .i64 p1, .slice b1 bn1 bc1, .slice g1 gn1 gc1, .bool true] 30) (.cells #[.string ⟨#[]⟩, .int .i64 0, .slice none 0 0, .slice none 0 0, .string ⟨#[]⟩, .int .i64 0, .slice none 0 0, .slice none 0 0, .bool false] 30)
  go_enter Try.func23, Try.ntmps23
  go_upto_region 1 with fail
  generalize World.alloc _ _ = w1 at *
  obtain ⟨B, hB⟩ : ∃ B, B = w.heap.size := ⟨_, rfl⟩
  obtain ⟨R, hR⟩ : ∃ R, R = w.heap.size + 1 := ⟨_, rfl⟩
  rw [← hR] at kR1 ⊢
  rw [← hB] at kB1 ⊢
  have hBR : B ≠ R := by omega
  have hBw : w.heap.size ≤ B := by omega
  have hRw : w.heap.size ≤ R := by omega
  clear hB hR
  have z0 : w1.cell? ⟨B, 0, none⟩ = some (.string x0) := kB1.cell 0
  have z1 : w1.cell? ⟨B, 1, none⟩ = some (.int .i64 p0) := kB1.cell 1
  have z2 : w1.cell? ⟨B, 2, none⟩ = some (.slice b0 bn0 bc0) := kB1.cell 2
  have z3 : w1.cell? ⟨B, 3, none⟩ = some (.slice g0 gn0 gc0) := kB1.cell 3
  have z4 : w1.cell? ⟨B, 4, none⟩ = some (.string x1) := kB1.cell 4
  have z5 : w1.cell? ⟨B, 5, none⟩ = some (.int .i64 p1) := kB1.cell 5
  have z6 : w1.cell? ⟨B, 6, none⟩ = some (.slice b1 bn1 bc1) := kB1.cell 6
  have z7 : w1.cell? ⟨B, 7, none⟩ = some (.slice g1 gn1 gc1) := kB1.cell 7
  have z8 : w1.cell? ⟨B, 8, none⟩ = some (.bool true) := kB1.cell 8
  have kB1' := Rg.hid kB1
  have kR1' := Rg.hid kR1
  have hb1' := Rg.hid hb1
  clear kB1 kR1 hb1
  go_upto_region 3 with (first
    | (go_at_call 38; refine (HC.out _).mono ?_; rintro e w2 ⟨rfl, b2⟩; have kB2 := kB1'.out.below b2 kB1'.out.lt; have y0 := kB2.cell 0; have y1 := kB2.cell 1; have y2 := kB2.cell 2; have y3 := kB2.cell 3; simp only [List.getElem?_cons_zero, List.getElem?_cons_succ] at y0 y1 y2 y3)
    | (go_at_call 39; refine (HU.out _).mono ?_; rintro e w3 ⟨rfl, b3⟩; have kB3 := kB2.below b3 kB2.lt; have u := kB3.cell 0; simp only [List.getElem?_cons_zero] at u))
  have kR3 := Rg.hid ((kR1'.out.below b2 kR1'.out.lt).below b3 (kR1'.out.below b2 kR1'.out.lt).lt)
  have hb3 := Rg.hid (Rg.chain (Rg.chain hb1'.out b2) b3)
  clear kB2 kB1' kR1' hb1' b2 b3 HC HU u y0 y1 y2 y3 z0 z1 z2 z3 z4 z5 z6 z7 z8
  have z1 : w3.cell? ⟨B, 1, none⟩ = some (.int .i64 p0) := kB3.cell 1
  have z0 : w3.cell? ⟨B, 0, none⟩ = some (.string x0) := kB3.cell 0
  have kR3b := kR3.out
  have kB3' := Rg.hid kB3
  clear kR3
  go_upto_region 5 with fail
  have kB3b := kB3'.out
  clear z0 z1 kB3 kB3'
  obtain ⟨kE, oE⟩ := ret9 kR3b rfl (.string x0) (.int .i64 p0) (.slice b0 bn0 bc0) (.slice g0 gn0 gc0) (.string x1) (.int .i64 p1) (.slice b1 bn1 bc1) (.slice g1 gn1 gc1) (.bool true)
  have post := Rg.hid (hb3.out.trans (oE.bel hRw))
  replace kE := Rg.hid kE
  have d0' : w3.cell? ⟨B, 0, none⟩ = some (.string x0) := kB3b.cell 0
  have d1' : w3.cell? ⟨B, 1, none⟩ = some (.int .i64 p0) := kB3b.cell 1
  have d2' : w3.cell? ⟨B, 2, none⟩ = some (.slice b0 bn0 bc0) := kB3b.cell 2
  have d3' : w3.cell? ⟨B, 3, none⟩ = some (.slice g0 gn0 gc0) := kB3b.cell 3
  have d4' : w3.cell? ⟨B, 4, none⟩ = some (.string x1) := kB3b.cell 4
  have d5' : w3.cell? ⟨B, 5, none⟩ = some (.int .i64 p1) := kB3b.cell 5
  have d6' : w3.cell? ⟨B, 6, none⟩ = some (.slice b1 bn1 bc1) := kB3b.cell 6
  have d7' : w3.cell? ⟨B, 7, none⟩ = some (.slice g1 gn1 gc1) := kB3b.cell 7
  have d8' : w3.cell? ⟨B, 8, none⟩ = some (.bool true) := kB3b.cell 8
  have r0 : w3.cell? ⟨R, 0, none⟩ = some (.string ⟨#[]⟩) := kR3b.cell 0
  have r1 : w3.cell? ⟨R, 1, none⟩ = some (.int .i64 0) := kR3b.cell 1
  have r2 : w3.cell? ⟨R, 2, none⟩ = some (.slice none 0 0) := kR3b.cell 2
  have r3 : w3.cell? ⟨R, 3, none⟩ = some (.slice none 0 0) := kR3b.cell 3
  have r4 : w3.cell? ⟨R, 4, none⟩ = some (.string ⟨#[]⟩) := kR3b.cell 4
  have r5 : w3.cell? ⟨R, 5, none⟩ = some (.int .i64 0) := kR3b.cell 5
  have r6 : w3.cell? ⟨R, 6, none⟩ = some (.slice none 0 0) := kR3b.cell 6
  have r7 : w3.cell? ⟨R, 7, none⟩ = some (.slice none 0 0) := kR3b.cell 7
  have r8 : w3.cell? ⟨R, 8, none⟩ = some (.bool false) := kR3b.cell 8
  have rf := kR3b.thaw
  clear oE kR3b kB3b hb3
  go_wp2
  replace kE := kE.out
  replace post := post.out
  generalize World.setCell _ _ _ = WE at *
  exact bodyPost_ret (v := .tuple #[.agg #[.string x0, .int .i64 p0, .slice b0 bn0 bc0, .slice g0 gn0 gc0, .string x1, .int .i64 p1, .slice b1 bn1 bc1, .slice g1 gn1 gc1, .bool true], .int .i64 8]) (by simp [results, Try.results23, go_sem, kE.cell]) rfl ⟨rfl, post⟩

set_option maxHeartbeats 2000000 in
set_option maxRecDepth 100000 in
theorem ladd_end0 (x0 : ByteArray) (p0 : Int) (b0 : Option Addr) (bn0 bc0 : Nat) (g0 : Option Addr) (gn0 gc0 : Nat) (x1 : ByteArray) (p1 : Int) (b1 : Option Addr) (bn1 bc1 : Nat) (g1 : Option Addr) (gn1 gc1 : Nat) (k : Nat) (c : UInt8) (bad gap : List Int) (w : World) (hk : k ≤ x0.size) (hk2 : x0.size ≤ k) (hx : x0.size < 40000) (hp : 0 ≤ p0) (hp2 : p0 ≤ 1000000000) (hbn : bn0 = bad.length) (hgn : gn0 = gap.length) (hbl : bad.length ≤ 100000000) (hgl : gap.length ≤ 100000000)
    (hbb : ∀ y ∈ bad, 0 ≤ y ∧ y ≤ 10000000000) (hgb : ∀ y ∈ gap, 0 ≤ y ∧ y ≤ 10000000000) (hub : Ln.Up bad) (hug : Ln.Up gap) (hrb : IRow w b0 bad) (hrg : IRow w g0 gap) :
    Calls Try.prog 23 #[.agg #[.string x0, .int .i64 p0, .slice b0 bn0 bc0, .slice g0 gn0 gc0, .string x1, .int .i64 p1, .slice b1 bn1 bc1, .slice g1 gn1 gc1, .bool true], .int .i64 0, .int .i64 k, .int .u8 (c.toNat : Int)] w fun e w' => ∃ ba bc ga gc, e = .returned (.tuple #[.agg #[.string ⟨((x0.data.toList.take k ++ [c]) ++ x0.data.toList.drop (k + 0)).toArray⟩, .int .i64 p0, .slice ba (Ln.addBad bad (p0 + k)).length bc, .slice ga (Ln.addGap gap (p0 + k)).length gc, .string x1, .int .i64 p1, .slice b1 bn1 bc1, .slice g1 gn1 gc1, .bool true], .int .i64 0]) ∧ IRow w' ba (Ln.addBad bad (p0 + k)) ∧ IRow w' ga (Ln.addGap gap (p0 + k)) ∧ (Ln.addBad bad (p0 + k)).length ≤ bc ∧ (Ln.addGap gap (p0 + k)).length ≤ gc ∧ Below w.heap.size w w' := by
  have HC : Hid (∀ W, Calls Try.prog 38 #[.agg #[.string x0, .int .i64 p0, .slice b0 bn0 bc0, .slice g0 gn0 gc0, .string x1, .int .i64 p1, .slice b1 bn1 bc1, .slice g1 gn1 gc1, .bool true], .int .i64 0] W fun e w' => e = .returned (.bool true) ∧ Below W.heap.size W w') := fun W => lcarries0 x0 p0 b0 bn0 bc0 g0 gn0 gc0 x1 p1 b1 bn1 bc1 g1 gn1 gc1 true W
  have HU : Hid (∀ W, Calls Try.prog 39 #[.agg #[.string x0, .int .i64 p0, .slice b0 bn0 bc0, .slice g0 gn0 gc0], .int .i64 k] W fun e w' => e = .returned (.bool false) ∧ Below W.heap.size W w') := fun W => by
    have := lunder_any x0 p0 b0 bn0 bc0 g0 gn0 gc0 (k : Int) W
    rw [show decide (0 ≤ (k : Int) ∧ (k : Int) < (x0.size : Int)) = false by simp; omega] at this
    exact this
  have dne : ((k : Int) != (x0.size : Int)) = false := by simp; omega
  have df : decide ((40000 : Int) ≤ (x0.size : Int)) = false := by simp; omega
  have HSp0 := fun W vb (hv : ∀ W', Below W.heap.size W W' → W'.cell? ⟨vb, 0, none⟩ = some (.int .u8 (c.toNat : Int))) => splice_in x0 k 0 c vb W (by omega) (by omega) hv
  have HSp : Hid (∀ W, Calls Try.prog 40 #[.string x0, .int .i64 k, .int .i64 0, .slice (some ⟨W.heap.size, 0, none⟩) 1 1] (W.alloc (.cells #[.int .u8 (c.toNat : Int)] 5)) fun e w' => e = .returned (.string ⟨((x0.data.toList.take k ++ [c]) ++ x0.data.toList.drop (k + 0)).toArray⟩) ∧ Below W.heap.size W w') := fun W => (HSp0 (W.alloc (.cells #[.int .u8 (c.toNat : Int)] 5)) W.heap.size (fun W' hb => Rg.Bk.cell (Rg.Bk.below (Rg.Bk.new rfl) hb (by simp)) 0)).mono fun e w' ⟨h1, h2⟩ => ⟨h1, Rg.chain (Rg.al1 _ _) h2⟩
  clear HSp0
  have HS1 : Hid (∀ W, Below w.heap.size w W → Calls Try.prog 41 #[.slice b0 bn0 bc0, .int .i64 (p0 + k), .int .i64 1] W fun e w' => IPost W (Ln.shift bad (p0 + k) 1) e w') := fun W hW => by rw [hbn]; exact lshift_any b0 bc0 bad (p0 + k) 1 W (by omega) (by omega) (by omega) (fun y hy => by have := hbb y hy; omega) (hrb.below hW)
  have hsl : (Ln.shift bad (p0 + k) 1).length ≤ bad.length := by
    have := Ln.compact_len (Ln.moved bad (p0 + k) 1)
    rw [Ln.moved_length] at this
    exact this
  have HM : Hid (∀ W a c, IRow W a (Ln.shift bad (p0 + k) 1) → (Ln.shift bad (p0 + k) 1).length ≤ c → Calls Try.prog 43 #[.slice a (Ln.shift bad (p0 + k) 1).length c, .int .i64 (p0 + k)] W fun e w' => IPost W (Ln.addBad bad (p0 + k)) e w') := fun W a c h hc => by
    have := lmark_any a c (Ln.shift bad (p0 + k) 1) (p0 + k) W (by omega) hc (Ln.up_shift_up hub _) h
    rw [Ln.add_bad hub] at this
    exact this
  have HS2 : Hid (∀ W, Below w.heap.size w W → Calls Try.prog 41 #[.slice g0 gn0 gc0, .int .i64 (p0 + k + 1), .int .i64 1] W fun e w' => IPost W (Ln.addGap gap (p0 + k)) e w') := fun W hW => by
    have := lshift_any g0 gc0 gap (p0 + k + 1) 1 W (by omega) (by omega) (by omega) (fun y hy => by have := hgb y hy; omega) (hrg.below hW)
    rw [Ln.add_gap hug] at this
    rw [hgn]
    exact this
  have hw1' : wrap64 (p0 + (k : Int)) = p0 + (k : Int) := by unfold wrap64; omega
  have hw1 : IntKind.i64.wrap (p0 + (k : Int)) = p0 + (k : Int) := by rw [IntKind.wrap_i64]; omega
  obtain ⟨P, hP⟩ : ∃ P : Int, P = p0 + (k : Int) := ⟨_, rfl⟩
  rw [← hP] at HS1 HS2 HM hsl ⊢
  replace hw1 : IntKind.i64.wrap (p0 + (k : Int)) = P := by rw [hw1, hP]
  replace hw1' : wrap64 (p0 + (k : Int)) = P := by rw [hw1', hP]
  have hP2 : P + 1 ≤ 10000000000 := by omega
  have hP3 : 0 ≤ P := by omega
  have hw2 : IntKind.i64.wrap (P + 1) = P + 1 := by rw [IntKind.wrap_i64]; omega
  have hw2' : wrap64 (P + 1) = P + 1 := by unfold wrap64; omega
  replace hP := Rg.hid hP
  generalize Ln.addBad bad P = LB at *
  generalize Ln.addGap gap P = LG at *
  generalize Ln.shift bad P 1 = SB at *
  generalize (⟨((x0.data.toList.take k ++ [c]) ++ x0.data.toList.drop (k + 0)).toArray⟩ : ByteArray) = XN at *
  generalize (c.toNat : Int) = CN at *
  clear hbn hgn hbl hgl hbb hgb hub hug hrb hrg hsl
  have kB1 : Rg.Bk w.heap.size [.string x0, .int .i64 p0, .slice b0 bn0 bc0, .slice g0 gn0 gc0, .string x1, .int .i64 p1, .slice b1 bn1 bc1, .slice g1 gn1 gc1, .bool true] 30 ((w.alloc (.cells #[.string x0, .int .i64 p0, .slice b0 bn0 bc0, .slice g0 gn0 gc0, .string x1, .int .i64 p1, .slice b1 bn1 bc1, .slice g1 gn1 gc1, .bool true] 30)).alloc (.cells #[.string ⟨#[]⟩, .int .i64 0, .slice none 0 0, .slice none 0 0, .string ⟨#[]⟩, .int .i64 0, .slice none 0 0, .slice none 0 0, .bool false] 30)) := (Rg.Bk.new rfl).old _
  have kR1 : Rg.Bk (w.heap.size + 1) [.string ⟨#[]⟩, .int .i64 0, .slice none 0 0, .slice none 0 0, .string ⟨#[]⟩, .int .i64 0, .slice none 0 0, .slice none 0 0, .bool false] 30 ((w.alloc (.cells #[.string x0, .int .i64 p0, .slice b0 bn0 bc0, .slice g0 gn0 gc0, .string x1, .int .i64 p1, .slice b1 bn1 bc1, .slice g1 gn1 gc1, .bool true] 30)).alloc (.cells #[.string ⟨#[]⟩, .int .i64 0, .slice none 0 0, .slice none 0 0, .string ⟨#[]⟩, .int .i64 0, .slice none 0 0, .slice none 0 0, .bool false] 30)) := Rg.Bk.new (by simp)
  have hb1 := Rg.al2 w (.cells #[.string x0, .int .i64 p0, .slice b0 bn0 bc0, .slice g0 gn0 gc0, .string x1, .int .i64 p1, .slice b1 bn1 bc1, .slice g1 gn1 gc1, .bool true] 30) (.cells #[.string ⟨#[]⟩, .int .i64 0, .slice none 0 0, .slice none 0 0, .string ⟨#[]⟩, .int .i64 0, .slice none 0 0, .slice none 0 0, .bool false] 30)
  go_enter Try.func23, Try.ntmps23
  go_upto_region 1 with fail
  generalize World.alloc _ _ = w1 at *
  obtain ⟨B, hB⟩ : ∃ B, B = w.heap.size := ⟨_, rfl⟩
  obtain ⟨R, hR⟩ : ∃ R, R = w.heap.size + 1 := ⟨_, rfl⟩
  rw [← hR] at kR1 ⊢
  rw [← hB] at kB1 ⊢
  have hBR : B ≠ R := by omega
  have hBw : w.heap.size ≤ B := by omega
  have hRw : w.heap.size ≤ R := by omega
  clear hB hR
  have z0 : w1.cell? ⟨B, 0, none⟩ = some (.string x0) := kB1.cell 0
  have z1 : w1.cell? ⟨B, 1, none⟩ = some (.int .i64 p0) := kB1.cell 1
  have z2 : w1.cell? ⟨B, 2, none⟩ = some (.slice b0 bn0 bc0) := kB1.cell 2
  have z3 : w1.cell? ⟨B, 3, none⟩ = some (.slice g0 gn0 gc0) := kB1.cell 3
  have z4 : w1.cell? ⟨B, 4, none⟩ = some (.string x1) := kB1.cell 4
  have z5 : w1.cell? ⟨B, 5, none⟩ = some (.int .i64 p1) := kB1.cell 5
  have z6 : w1.cell? ⟨B, 6, none⟩ = some (.slice b1 bn1 bc1) := kB1.cell 6
  have z7 : w1.cell? ⟨B, 7, none⟩ = some (.slice g1 gn1 gc1) := kB1.cell 7
  have z8 : w1.cell? ⟨B, 8, none⟩ = some (.bool true) := kB1.cell 8
  have kB1' := Rg.hid kB1
  have kR1' := Rg.hid kR1
  have hb1' := Rg.hid hb1
  clear kB1 kR1 hb1
  go_upto_region 3 with (first
    | (go_at_call 38; refine (HC.out _).mono ?_; rintro e w2 ⟨rfl, b2⟩; have kB2 := kB1'.out.below b2 kB1'.out.lt; have y0 := kB2.cell 0; have y1 := kB2.cell 1; have y2 := kB2.cell 2; have y3 := kB2.cell 3; simp only [List.getElem?_cons_zero, List.getElem?_cons_succ] at y0 y1 y2 y3)
    | (go_at_call 39; refine (HU.out _).mono ?_; rintro e w3 ⟨rfl, b3⟩; have kB3 := kB2.below b3 kB2.lt; have u := kB3.cell 0; simp only [List.getElem?_cons_zero] at u))
  have kR3 := Rg.hid ((kR1'.out.below b2 kR1'.out.lt).below b3 (kR1'.out.below b2 kR1'.out.lt).lt)
  have hb3 := Rg.hid (Rg.chain (Rg.chain hb1'.out b2) b3)
  clear kB2 kB1' kR1' hb1' b2 b3 HC HU u y0 y1 y2 y3 z0 z1 z2 z3 z4 z5 z6 z7 z8
  have z1 : w3.cell? ⟨B, 1, none⟩ = some (.int .i64 p0) := kB3.cell 1
  have z0 : w3.cell? ⟨B, 0, none⟩ = some (.string x0) := kB3.cell 0
  have kB3' := Rg.hid kB3
  clear kB3
  go_upto_region 8 with (go_at_call 40; refine (HSp.out _).mono ?_; rintro e w5 ⟨rfl, b5⟩; have kB5 := kB3'.out.below b5 kB3'.out.lt; have y := kB5.cell 0; have yf := kB5.thaw; simp only [List.getElem?_cons_zero] at y)
  have kB6 : Rg.Bk B [.string XN, .int .i64 p0, .slice b0 bn0 bc0, .slice g0 gn0 gc0, .string x1, .int .i64 p1, .slice b1 bn1 bc1, .slice g1 gn1 gc1, .bool true] 30 (w5.setCell ⟨B, 0, none⟩ (.string XN)) := kB5.set 0 (.string XN)
  have o6 := Rg.Only.setCell w5 B 0 (.string XN)
  have kR6 := Rg.hid ((kR3.out.below b5 kR3.out.lt).same (o6.block R (Ne.symm hBR)))
  have hb6 := (Rg.chain hb3.out b5).trans (o6.bel hBw)
  clear y yf kB5 kB3' kR3 hb3 b5 o6 z0 z1 HSp
  generalize World.setCell _ _ _ = w6 at *
  have z2 : w6.cell? ⟨B, 2, none⟩ = some (.slice b0 bn0 bc0) := kB6.cell 2
  have kB6' := Rg.hid kB6
  clear kB6
  go_upto_region 9 with (first
    | (go_at_call 41; refine (HS1.out _ hb6).mono ?_; rintro e w7 ⟨a7, c7, rfl, hr7, hc7, b7⟩)
    | (go_at_call 43; refine (HM.out _ _ _ hr7 hc7).mono ?_; rintro e w8 ⟨a8, c8, rfl, hr8, hc8, b8⟩; have kB8 := (kB6'.out.below b7 kB6'.out.lt).below b8 (kB6'.out.below b7 kB6'.out.lt).lt; have y := kB8.cell 2; have yf := kB8.thaw; simp only [List.getElem?_cons_zero, List.getElem?_cons_succ] at y))
  obtain ⟨NB, hNB⟩ : ∃ NB, NB = LB.length := ⟨_, rfl⟩
  rw [← hNB] at hc8 ⊢
  have kB9 : Rg.Bk B [.string XN, .int .i64 p0, .slice a8 NB c8, .slice g0 gn0 gc0, .string x1, .int .i64 p1, .slice b1 bn1 bc1, .slice g1 gn1 gc1, .bool true] 30 (w8.setCell ⟨B, 2, none⟩ (.slice a8 NB c8)) := kB8.set 2 (.slice a8 NB c8)
  have o9 := Rg.Only.setCell w8 B 2 (.slice a8 NB c8)
  have kR9 := Rg.hid (((kR6.out.below b7 kR6.out.lt).below b8 (kR6.out.below b7 kR6.out.lt).lt).same (o9.block R (Ne.symm hBR)))
  have hr9 := Rg.hid (hr8.only kB8 line_int o9)
  have hb9 := (Rg.chain (Rg.chain hb6 b7) b8).trans (o9.bel hBw)
  replace hNB := Rg.hid hNB
  clear y yf kB8 kB6' kR6 hb6 b7 b8 o9 hr7 hr8 hc7 z2 HS1 HM
  generalize World.setCell _ _ _ = w9 at *
  have z3 : w9.cell? ⟨B, 3, none⟩ = some (.slice g0 gn0 gc0) := kB9.cell 3
  have kB9' := Rg.hid kB9
  clear kB9
  go_upto_region 10 with (go_at_call 41; refine (HS2.out _ hb9).mono ?_; rintro e w11 ⟨a11, c11, rfl, hr11, hc11, b11⟩; have kB11 := kB9'.out.below b11 kB9'.out.lt; have y := kB11.cell 3; have yf := kB11.thaw; simp only [List.getElem?_cons_zero, List.getElem?_cons_succ] at y)
  obtain ⟨NG, hNG⟩ : ∃ NG, NG = LG.length := ⟨_, rfl⟩
  rw [← hNG] at hc11 ⊢
  have kB12 : Rg.Bk B [.string XN, .int .i64 p0, .slice a8 NB c8, .slice a11 NG c11, .string x1, .int .i64 p1, .slice b1 bn1 bc1, .slice g1 gn1 gc1, .bool true] 30 (w11.setCell ⟨B, 3, none⟩ (.slice a11 NG c11)) := kB11.set 3 (.slice a11 NG c11)
  have o12 := Rg.Only.setCell w11 B 3 (.slice a11 NG c11)
  have kR12 := (kR9.out.below b11 kR9.out.lt).same (o12.block R (Ne.symm hBR))
  have hrB := (hr9.out.below b11).only kB11 line_int o12
  have hrG := hr11.only kB11 line_int o12
  have hb12 := (Rg.chain hb9 b11).trans (o12.bel hBw)
  replace hNG := Rg.hid hNG
  clear y yf kB11 kB9' kR9 hb9 b11 o12 hr11 hr9 z3 HS2
  generalize World.setCell _ _ _ = w12 at *
  obtain ⟨kE, oE⟩ := ret9 kR12 rfl (.string XN) (.int .i64 p0) (.slice a8 NB c8) (.slice a11 NG c11) (.string x1) (.int .i64 p1) (.slice b1 bn1 bc1) (.slice g1 gn1 gc1) (.bool true)
  have post := Rg.hid ((⟨a8, c8, a11, c11, by rw [hNB.out, hNG.out], hrB.only kR12 line_int oE, hrG.only kR12 line_int oE, by rw [← hNB.out]; exact hc8, by rw [← hNG.out]; exact hc11, hb12.trans (oE.bel hRw)⟩ : ∃ ba bc ga gc, Ending.returned (.tuple #[.agg #[.string XN, .int .i64 p0, .slice a8 NB c8, .slice a11 NG c11, .string x1, .int .i64 p1, .slice b1 bn1 bc1, .slice g1 gn1 gc1, .bool true], .int .i64 0]) = .returned (.tuple #[.agg #[.string XN, .int .i64 p0, .slice ba LB.length bc, .slice ga LG.length gc, .string x1, .int .i64 p1, .slice b1 bn1 bc1, .slice g1 gn1 gc1, .bool true], .int .i64 0]) ∧ IRow _ ba LB ∧ IRow _ ga LG ∧ LB.length ≤ bc ∧ LG.length ≤ gc ∧ Below w.heap.size w _))
  replace kE := Rg.hid kE
  have d0' : w12.cell? ⟨B, 0, none⟩ = some (.string XN) := kB12.cell 0
  have d1' : w12.cell? ⟨B, 1, none⟩ = some (.int .i64 p0) := kB12.cell 1
  have d2' : w12.cell? ⟨B, 2, none⟩ = some (.slice a8 NB c8) := kB12.cell 2
  have d3' : w12.cell? ⟨B, 3, none⟩ = some (.slice a11 NG c11) := kB12.cell 3
  have d4' : w12.cell? ⟨B, 4, none⟩ = some (.string x1) := kB12.cell 4
  have d5' : w12.cell? ⟨B, 5, none⟩ = some (.int .i64 p1) := kB12.cell 5
  have d6' : w12.cell? ⟨B, 6, none⟩ = some (.slice b1 bn1 bc1) := kB12.cell 6
  have d7' : w12.cell? ⟨B, 7, none⟩ = some (.slice g1 gn1 gc1) := kB12.cell 7
  have d8' : w12.cell? ⟨B, 8, none⟩ = some (.bool true) := kB12.cell 8
  have r0 : w12.cell? ⟨R, 0, none⟩ = some (.string ⟨#[]⟩) := kR12.cell 0
  have r1 : w12.cell? ⟨R, 1, none⟩ = some (.int .i64 0) := kR12.cell 1
  have r2 : w12.cell? ⟨R, 2, none⟩ = some (.slice none 0 0) := kR12.cell 2
  have r3 : w12.cell? ⟨R, 3, none⟩ = some (.slice none 0 0) := kR12.cell 3
  have r4 : w12.cell? ⟨R, 4, none⟩ = some (.string ⟨#[]⟩) := kR12.cell 4
  have r5 : w12.cell? ⟨R, 5, none⟩ = some (.int .i64 0) := kR12.cell 5
  have r6 : w12.cell? ⟨R, 6, none⟩ = some (.slice none 0 0) := kR12.cell 6
  have r7 : w12.cell? ⟨R, 7, none⟩ = some (.slice none 0 0) := kR12.cell 7
  have r8 : w12.cell? ⟨R, 8, none⟩ = some (.bool false) := kR12.cell 8
  have rf := kR12.thaw
  clear oE kR12 kB12 hb12 hrB hrG hNB hNG
  go_wp2
  replace kE := kE.out
  replace post := post.out
  generalize World.setCell _ _ _ = WE at *
  exact bodyPost_ret (v := .tuple #[.agg #[.string XN, .int .i64 p0, .slice a8 NB c8, .slice a11 NG c11, .string x1, .int .i64 p1, .slice b1 bn1 bc1, .slice g1 gn1 gc1, .bool true], .int .i64 0]) (by simp [results, Try.results23, go_sem, kE.cell]) rfl post

set_option maxHeartbeats 1000000 in
set_option maxRecDepth 100000 in
theorem ladd_fullmid1 (x0 : ByteArray) (p0 : Int) (b0 : Option Addr) (bn0 bc0 : Nat) (g0 : Option Addr) (gn0 gc0 : Nat) (x1 : ByteArray) (p1 : Int) (b1 : Option Addr) (bn1 bc1 : Nat) (g1 : Option Addr) (gn1 gc1 : Nat) (k : Nat) (c : Int) (w : World) (hk : k < x1.size) (hx : x1.size ≤ 1000000) (hf : 40000 ≤ x1.size) :
    Calls Try.prog 23 #[.agg #[.string x0, .int .i64 p0, .slice b0 bn0 bc0, .slice g0 gn0 gc0, .string x1, .int .i64 p1, .slice b1 bn1 bc1, .slice g1 gn1 gc1, .bool true], .int .i64 1, .int .i64 k, .int .u8 c] w fun e w' => e = .returned (.tuple #[.agg #[.string x0, .int .i64 p0, .slice b0 bn0 bc0, .slice g0 gn0 gc0, .string x1, .int .i64 p1, .slice b1 bn1 bc1, .slice g1 gn1 gc1, .bool true], .int .i64 8]) ∧ Below w.heap.size w w' := by
  have HC : Hid (∀ W, Calls Try.prog 38 #[.agg #[.string x0, .int .i64 p0, .slice b0 bn0 bc0, .slice g0 gn0 gc0, .string x1, .int .i64 p1, .slice b1 bn1 bc1, .slice g1 gn1 gc1, .bool true], .int .i64 1] W fun e w' => e = .returned (.bool true) ∧ Below W.heap.size W w') := fun W => lcarries1 x0 p0 b0 bn0 bc0 g0 gn0 gc0 x1 p1 b1 bn1 bc1 g1 gn1 gc1 true W
  have HU : Hid (∀ W, Calls Try.prog 39 #[.agg #[.string x1, .int .i64 p1, .slice b1 bn1 bc1, .slice g1 gn1 gc1], .int .i64 k] W fun e w' => e = .returned (.bool true) ∧ Below W.heap.size W w') := fun W => by
    have := lunder_any x1 p1 b1 bn1 bc1 g1 gn1 gc1 (k : Int) W
    rw [show decide (0 ≤ (k : Int) ∧ (k : Int) < (x1.size : Int)) = true by simp; omega] at this
    exact this
  have df : decide ((40000 : Int) ≤ (x1.size : Int)) = true := by simp; omega
  have kB1 : Rg.Bk w.heap.size [.string x0, .int .i64 p0, .slice b0 bn0 bc0, .slice g0 gn0 gc0, .string x1, .int .i64 p1, .slice b1 bn1 bc1, .slice g1 gn1 gc1, .bool true] 30 ((w.alloc (.cells #[.string x0, .int .i64 p0, .slice b0 bn0 bc0, .slice g0 gn0 gc0, .string x1, .int .i64 p1, .slice b1 bn1 bc1, .slice g1 gn1 gc1, .bool true] 30)).alloc (.cells #[.string ⟨#[]⟩, .int .i64 0, .slice none 0 0, .slice none 0 0, .string ⟨#[]⟩, .int .i64 0, .slice none 0 0, .slice none 0 0, .bool false] 30)) := (Rg.Bk.new rfl).old _
  have kR1 : Rg.Bk (w.heap.size + 1) [.string ⟨#[]⟩, .int .i64 0, .slice none 0 0, .slice none 0 0, .string ⟨#[]⟩, .int .i64 0, .slice none 0 0, .slice none 0 0, .bool false] 30 ((w.alloc (.cells #[.string x0, .int .i64 p0, .slice b0 bn0 bc0, .slice g0 gn0 gc0, .string x1, .int .i64 p1, .slice b1 bn1 bc1, .slice g1 gn1 gc1, .bool true] 30)).alloc (.cells #[.string ⟨#[]⟩, .int .i64 0, .slice none 0 0, .slice none 0 0, .string ⟨#[]⟩, .int .i64 0, .slice none 0 0, .slice none 0 0, .bool false] 30)) := Rg.Bk.new (by simp)
  have hb1 := Rg.al2 w (.cells #[.string x0, .int .i64 p0, .slice b0 bn0 bc0, .slice g0 gn0 gc0, .string x1, .int .i64 p1, .slice b1 bn1 bc1, .slice g1 gn1 gc1, .bool true] 30) (.cells #[.string ⟨#[]⟩, .int .i64 0, .slice none 0 0, .slice none 0 0, .string ⟨#[]⟩, .int .i64 0, .slice none 0 0, .slice none 0 0, .bool false] 30)
  go_enter Try.func23, Try.ntmps23
  go_upto_region 1 with fail
  generalize World.alloc _ _ = w1 at *
  obtain ⟨B, hB⟩ : ∃ B, B = w.heap.size := ⟨_, rfl⟩
  obtain ⟨R, hR⟩ : ∃ R, R = w.heap.size + 1 := ⟨_, rfl⟩
  rw [← hR] at kR1 ⊢
  rw [← hB] at kB1 ⊢
  have hBR : B ≠ R := by omega
  have hBw : w.heap.size ≤ B := by omega
  have hRw : w.heap.size ≤ R := by omega
  clear hB hR
  have z0 : w1.cell? ⟨B, 0, none⟩ = some (.string x0) := kB1.cell 0
  have z1 : w1.cell? ⟨B, 1, none⟩ = some (.int .i64 p0) := kB1.cell 1
  have z2 : w1.cell? ⟨B, 2, none⟩ = some (.slice b0 bn0 bc0) := kB1.cell 2
  have z3 : w1.cell? ⟨B, 3, none⟩ = some (.slice g0 gn0 gc0) := kB1.cell 3
  have z4 : w1.cell? ⟨B, 4, none⟩ = some (.string x1) := kB1.cell 4
  have z5 : w1.cell? ⟨B, 5, none⟩ = some (.int .i64 p1) := kB1.cell 5
  have z6 : w1.cell? ⟨B, 6, none⟩ = some (.slice b1 bn1 bc1) := kB1.cell 6
  have z7 : w1.cell? ⟨B, 7, none⟩ = some (.slice g1 gn1 gc1) := kB1.cell 7
  have z8 : w1.cell? ⟨B, 8, none⟩ = some (.bool true) := kB1.cell 8
  have kB1' := Rg.hid kB1
  have kR1' := Rg.hid kR1
  have hb1' := Rg.hid hb1
  clear kB1 kR1 hb1
  go_upto_region 3 with (first
    | (go_at_call 38; refine (HC.out _).mono ?_; rintro e w2 ⟨rfl, b2⟩; have kB2 := kB1'.out.below b2 kB1'.out.lt; have y4 := kB2.cell 4; have y5 := kB2.cell 5; have y6 := kB2.cell 6; have y7 := kB2.cell 7; simp only [List.getElem?_cons_zero, List.getElem?_cons_succ] at y4 y5 y6 y7)
    | (go_at_call 39; refine (HU.out _).mono ?_; rintro e w3 ⟨rfl, b3⟩; have kB3 := kB2.below b3 kB2.lt; have u := kB3.cell 4; simp only [List.getElem?_cons_zero, List.getElem?_cons_succ] at u))
  have kR3 := Rg.hid ((kR1'.out.below b2 kR1'.out.lt).below b3 (kR1'.out.below b2 kR1'.out.lt).lt)
  have hb3 := Rg.hid (Rg.chain (Rg.chain hb1'.out b2) b3)
  clear kB2 kB1' kR1' hb1' b2 b3 HC HU u y4 y5 y6 y7 z0 z1 z2 z3 z4 z5 z6 z7 z8
  have z5 : w3.cell? ⟨B, 5, none⟩ = some (.int .i64 p1) := kB3.cell 5
  have z4 : w3.cell? ⟨B, 4, none⟩ = some (.string x1) := kB3.cell 4
  have kR3b := kR3.out
  have kB3' := Rg.hid kB3
  clear kR3
  go_upto_region 5 with fail
  have kB3b := kB3'.out
  clear z4 z5 kB3 kB3'
  obtain ⟨kE, oE⟩ := ret9 kR3b rfl (.string x0) (.int .i64 p0) (.slice b0 bn0 bc0) (.slice g0 gn0 gc0) (.string x1) (.int .i64 p1) (.slice b1 bn1 bc1) (.slice g1 gn1 gc1) (.bool true)
  have post := Rg.hid (hb3.out.trans (oE.bel hRw))
  replace kE := Rg.hid kE
  have d0' : w3.cell? ⟨B, 0, none⟩ = some (.string x0) := kB3b.cell 0
  have d1' : w3.cell? ⟨B, 1, none⟩ = some (.int .i64 p0) := kB3b.cell 1
  have d2' : w3.cell? ⟨B, 2, none⟩ = some (.slice b0 bn0 bc0) := kB3b.cell 2
  have d3' : w3.cell? ⟨B, 3, none⟩ = some (.slice g0 gn0 gc0) := kB3b.cell 3
  have d4' : w3.cell? ⟨B, 4, none⟩ = some (.string x1) := kB3b.cell 4
  have d5' : w3.cell? ⟨B, 5, none⟩ = some (.int .i64 p1) := kB3b.cell 5
  have d6' : w3.cell? ⟨B, 6, none⟩ = some (.slice b1 bn1 bc1) := kB3b.cell 6
  have d7' : w3.cell? ⟨B, 7, none⟩ = some (.slice g1 gn1 gc1) := kB3b.cell 7
  have d8' : w3.cell? ⟨B, 8, none⟩ = some (.bool true) := kB3b.cell 8
  have r0 : w3.cell? ⟨R, 0, none⟩ = some (.string ⟨#[]⟩) := kR3b.cell 0
  have r1 : w3.cell? ⟨R, 1, none⟩ = some (.int .i64 0) := kR3b.cell 1
  have r2 : w3.cell? ⟨R, 2, none⟩ = some (.slice none 0 0) := kR3b.cell 2
  have r3 : w3.cell? ⟨R, 3, none⟩ = some (.slice none 0 0) := kR3b.cell 3
  have r4 : w3.cell? ⟨R, 4, none⟩ = some (.string ⟨#[]⟩) := kR3b.cell 4
  have r5 : w3.cell? ⟨R, 5, none⟩ = some (.int .i64 0) := kR3b.cell 5
  have r6 : w3.cell? ⟨R, 6, none⟩ = some (.slice none 0 0) := kR3b.cell 6
  have r7 : w3.cell? ⟨R, 7, none⟩ = some (.slice none 0 0) := kR3b.cell 7
  have r8 : w3.cell? ⟨R, 8, none⟩ = some (.bool false) := kR3b.cell 8
  have rf := kR3b.thaw
  clear oE kR3b kB3b hb3
  go_wp2
  replace kE := kE.out
  replace post := post.out
  generalize World.setCell _ _ _ = WE at *
  exact bodyPost_ret (v := .tuple #[.agg #[.string x0, .int .i64 p0, .slice b0 bn0 bc0, .slice g0 gn0 gc0, .string x1, .int .i64 p1, .slice b1 bn1 bc1, .slice g1 gn1 gc1, .bool true], .int .i64 8]) (by simp [results, Try.results23, go_sem, kE.cell]) rfl ⟨rfl, post⟩

set_option maxHeartbeats 2000000 in
set_option maxRecDepth 100000 in
theorem ladd_mid1 (x0 : ByteArray) (p0 : Int) (b0 : Option Addr) (bn0 bc0 : Nat) (g0 : Option Addr) (gn0 gc0 : Nat) (x1 : ByteArray) (p1 : Int) (b1 : Option Addr) (bn1 bc1 : Nat) (g1 : Option Addr) (gn1 gc1 : Nat) (k : Nat) (c : UInt8) (bad gap : List Int) (w : World) (hk : k < x1.size) (hx : x1.size < 40000) (hp : 0 ≤ p1) (hp2 : p1 ≤ 1000000000) (hbn : bn1 = bad.length) (hgn : gn1 = gap.length) (hbl : bad.length ≤ 100000000) (hgl : gap.length ≤ 100000000)
    (hbb : ∀ y ∈ bad, 0 ≤ y ∧ y ≤ 10000000000) (hgb : ∀ y ∈ gap, 0 ≤ y ∧ y ≤ 10000000000) (hub : Ln.Up bad) (hug : Ln.Up gap) (hrb : IRow w b1 bad) (hrg : IRow w g1 gap) :
    Calls Try.prog 23 #[.agg #[.string x0, .int .i64 p0, .slice b0 bn0 bc0, .slice g0 gn0 gc0, .string x1, .int .i64 p1, .slice b1 bn1 bc1, .slice g1 gn1 gc1, .bool true], .int .i64 1, .int .i64 k, .int .u8 (c.toNat : Int)] w fun e w' => ∃ ba bc ga gc, e = .returned (.tuple #[.agg #[.string x0, .int .i64 p0, .slice b0 bn0 bc0, .slice g0 gn0 gc0, .string ⟨((x1.data.toList.take k ++ [c]) ++ x1.data.toList.drop (k + 0)).toArray⟩, .int .i64 p1, .slice ba (Ln.addBad bad (p1 + k)).length bc, .slice ga (Ln.addGap gap (p1 + k)).length gc, .bool true], .int .i64 0]) ∧ IRow w' ba (Ln.addBad bad (p1 + k)) ∧ IRow w' ga (Ln.addGap gap (p1 + k)) ∧ (Ln.addBad bad (p1 + k)).length ≤ bc ∧ (Ln.addGap gap (p1 + k)).length ≤ gc ∧ Below w.heap.size w w' := by
  have HC : Hid (∀ W, Calls Try.prog 38 #[.agg #[.string x0, .int .i64 p0, .slice b0 bn0 bc0, .slice g0 gn0 gc0, .string x1, .int .i64 p1, .slice b1 bn1 bc1, .slice g1 gn1 gc1, .bool true], .int .i64 1] W fun e w' => e = .returned (.bool true) ∧ Below W.heap.size W w') := fun W => lcarries1 x0 p0 b0 bn0 bc0 g0 gn0 gc0 x1 p1 b1 bn1 bc1 g1 gn1 gc1 true W
  have HU : Hid (∀ W, Calls Try.prog 39 #[.agg #[.string x1, .int .i64 p1, .slice b1 bn1 bc1, .slice g1 gn1 gc1], .int .i64 k] W fun e w' => e = .returned (.bool true) ∧ Below W.heap.size W w') := fun W => by
    have := lunder_any x1 p1 b1 bn1 bc1 g1 gn1 gc1 (k : Int) W
    rw [show decide (0 ≤ (k : Int) ∧ (k : Int) < (x1.size : Int)) = true by simp; omega] at this
    exact this
  have df : decide ((40000 : Int) ≤ (x1.size : Int)) = false := by simp; omega
  have HSp0 := fun W vb (hv : ∀ W', Below W.heap.size W W' → W'.cell? ⟨vb, 0, none⟩ = some (.int .u8 (c.toNat : Int))) => splice_in x1 k 0 c vb W (by omega) (by omega) hv
  have HSp : Hid (∀ W, Calls Try.prog 40 #[.string x1, .int .i64 k, .int .i64 0, .slice (some ⟨W.heap.size, 0, none⟩) 1 1] (W.alloc (.cells #[.int .u8 (c.toNat : Int)] 5)) fun e w' => e = .returned (.string ⟨((x1.data.toList.take k ++ [c]) ++ x1.data.toList.drop (k + 0)).toArray⟩) ∧ Below W.heap.size W w') := fun W => (HSp0 (W.alloc (.cells #[.int .u8 (c.toNat : Int)] 5)) W.heap.size (fun W' hb => Rg.Bk.cell (Rg.Bk.below (Rg.Bk.new rfl) hb (by simp)) 0)).mono fun e w' ⟨h1, h2⟩ => ⟨h1, Rg.chain (Rg.al1 _ _) h2⟩
  clear HSp0
  have HS1 : Hid (∀ W, Below w.heap.size w W → Calls Try.prog 41 #[.slice b1 bn1 bc1, .int .i64 (p1 + k), .int .i64 1] W fun e w' => IPost W (Ln.shift bad (p1 + k) 1) e w') := fun W hW => by rw [hbn]; exact lshift_any b1 bc1 bad (p1 + k) 1 W (by omega) (by omega) (by omega) (fun y hy => by have := hbb y hy; omega) (hrb.below hW)
  have hsl : (Ln.shift bad (p1 + k) 1).length ≤ bad.length := by
    have := Ln.compact_len (Ln.moved bad (p1 + k) 1)
    rw [Ln.moved_length] at this
    exact this
  have HM : Hid (∀ W a c, IRow W a (Ln.shift bad (p1 + k) 1) → (Ln.shift bad (p1 + k) 1).length ≤ c → Calls Try.prog 43 #[.slice a (Ln.shift bad (p1 + k) 1).length c, .int .i64 (p1 + k)] W fun e w' => IPost W (Ln.addBad bad (p1 + k)) e w') := fun W a c h hc => by
    have := lmark_any a c (Ln.shift bad (p1 + k) 1) (p1 + k) W (by omega) hc (Ln.up_shift_up hub _) h
    rw [Ln.add_bad hub] at this
    exact this
  have HS2 : Hid (∀ W, Below w.heap.size w W → Calls Try.prog 41 #[.slice g1 gn1 gc1, .int .i64 (p1 + k + 1), .int .i64 1] W fun e w' => IPost W (Ln.addGap gap (p1 + k)) e w') := fun W hW => by
    have := lshift_any g1 gc1 gap (p1 + k + 1) 1 W (by omega) (by omega) (by omega) (fun y hy => by have := hgb y hy; omega) (hrg.below hW)
    rw [Ln.add_gap hug] at this
    rw [hgn]
    exact this
  have hw1' : wrap64 (p1 + (k : Int)) = p1 + (k : Int) := by unfold wrap64; omega
  have hw1 : IntKind.i64.wrap (p1 + (k : Int)) = p1 + (k : Int) := by rw [IntKind.wrap_i64]; omega
  obtain ⟨P, hP⟩ : ∃ P : Int, P = p1 + (k : Int) := ⟨_, rfl⟩
  rw [← hP] at HS1 HS2 HM hsl ⊢
  replace hw1 : IntKind.i64.wrap (p1 + (k : Int)) = P := by rw [hw1, hP]
  replace hw1' : wrap64 (p1 + (k : Int)) = P := by rw [hw1', hP]
  have hP2 : P + 1 ≤ 10000000000 := by omega
  have hP3 : 0 ≤ P := by omega
  have hw2 : IntKind.i64.wrap (P + 1) = P + 1 := by rw [IntKind.wrap_i64]; omega
  have hw2' : wrap64 (P + 1) = P + 1 := by unfold wrap64; omega
  replace hP := Rg.hid hP
  generalize Ln.addBad bad P = LB at *
  generalize Ln.addGap gap P = LG at *
  generalize Ln.shift bad P 1 = SB at *
  generalize (⟨((x1.data.toList.take k ++ [c]) ++ x1.data.toList.drop (k + 0)).toArray⟩ : ByteArray) = XN at *
  generalize (c.toNat : Int) = CN at *
  clear hbn hgn hbl hgl hbb hgb hub hug hrb hrg hsl
  have kB1 : Rg.Bk w.heap.size [.string x0, .int .i64 p0, .slice b0 bn0 bc0, .slice g0 gn0 gc0, .string x1, .int .i64 p1, .slice b1 bn1 bc1, .slice g1 gn1 gc1, .bool true] 30 ((w.alloc (.cells #[.string x0, .int .i64 p0, .slice b0 bn0 bc0, .slice g0 gn0 gc0, .string x1, .int .i64 p1, .slice b1 bn1 bc1, .slice g1 gn1 gc1, .bool true] 30)).alloc (.cells #[.string ⟨#[]⟩, .int .i64 0, .slice none 0 0, .slice none 0 0, .string ⟨#[]⟩, .int .i64 0, .slice none 0 0, .slice none 0 0, .bool false] 30)) := (Rg.Bk.new rfl).old _
  have kR1 : Rg.Bk (w.heap.size + 1) [.string ⟨#[]⟩, .int .i64 0, .slice none 0 0, .slice none 0 0, .string ⟨#[]⟩, .int .i64 0, .slice none 0 0, .slice none 0 0, .bool false] 30 ((w.alloc (.cells #[.string x0, .int .i64 p0, .slice b0 bn0 bc0, .slice g0 gn0 gc0, .string x1, .int .i64 p1, .slice b1 bn1 bc1, .slice g1 gn1 gc1, .bool true] 30)).alloc (.cells #[.string ⟨#[]⟩, .int .i64 0, .slice none 0 0, .slice none 0 0, .string ⟨#[]⟩, .int .i64 0, .slice none 0 0, .slice none 0 0, .bool false] 30)) := Rg.Bk.new (by simp)
  have hb1 := Rg.al2 w (.cells #[.string x0, .int .i64 p0, .slice b0 bn0 bc0, .slice g0 gn0 gc0, .string x1, .int .i64 p1, .slice b1 bn1 bc1, .slice g1 gn1 gc1, .bool true] 30) (.cells #[.string ⟨#[]⟩, .int .i64 0, .slice none 0 0, .slice none 0 0, .string ⟨#[]⟩, .int .i64 0, .slice none 0 0, .slice none 0 0, .bool false] 30)
  go_enter Try.func23, Try.ntmps23
  go_upto_region 1 with fail
  generalize World.alloc _ _ = w1 at *
  obtain ⟨B, hB⟩ : ∃ B, B = w.heap.size := ⟨_, rfl⟩
  obtain ⟨R, hR⟩ : ∃ R, R = w.heap.size + 1 := ⟨_, rfl⟩
  rw [← hR] at kR1 ⊢
  rw [← hB] at kB1 ⊢
  have hBR : B ≠ R := by omega
  have hBw : w.heap.size ≤ B := by omega
  have hRw : w.heap.size ≤ R := by omega
  clear hB hR
  have z0 : w1.cell? ⟨B, 0, none⟩ = some (.string x0) := kB1.cell 0
  have z1 : w1.cell? ⟨B, 1, none⟩ = some (.int .i64 p0) := kB1.cell 1
  have z2 : w1.cell? ⟨B, 2, none⟩ = some (.slice b0 bn0 bc0) := kB1.cell 2
  have z3 : w1.cell? ⟨B, 3, none⟩ = some (.slice g0 gn0 gc0) := kB1.cell 3
  have z4 : w1.cell? ⟨B, 4, none⟩ = some (.string x1) := kB1.cell 4
  have z5 : w1.cell? ⟨B, 5, none⟩ = some (.int .i64 p1) := kB1.cell 5
  have z6 : w1.cell? ⟨B, 6, none⟩ = some (.slice b1 bn1 bc1) := kB1.cell 6
  have z7 : w1.cell? ⟨B, 7, none⟩ = some (.slice g1 gn1 gc1) := kB1.cell 7
  have z8 : w1.cell? ⟨B, 8, none⟩ = some (.bool true) := kB1.cell 8
  have kB1' := Rg.hid kB1
  have kR1' := Rg.hid kR1
  have hb1' := Rg.hid hb1
  clear kB1 kR1 hb1
  go_upto_region 3 with (first
    | (go_at_call 38; refine (HC.out _).mono ?_; rintro e w2 ⟨rfl, b2⟩; have kB2 := kB1'.out.below b2 kB1'.out.lt; have y4 := kB2.cell 4; have y5 := kB2.cell 5; have y6 := kB2.cell 6; have y7 := kB2.cell 7; simp only [List.getElem?_cons_zero, List.getElem?_cons_succ] at y4 y5 y6 y7)
    | (go_at_call 39; refine (HU.out _).mono ?_; rintro e w3 ⟨rfl, b3⟩; have kB3 := kB2.below b3 kB2.lt; have u := kB3.cell 4; simp only [List.getElem?_cons_zero, List.getElem?_cons_succ] at u))
  have kR3 := Rg.hid ((kR1'.out.below b2 kR1'.out.lt).below b3 (kR1'.out.below b2 kR1'.out.lt).lt)
  have hb3 := Rg.hid (Rg.chain (Rg.chain hb1'.out b2) b3)
  clear kB2 kB1' kR1' hb1' b2 b3 HC HU u y4 y5 y6 y7 z0 z1 z2 z3 z4 z5 z6 z7 z8
  have z5 : w3.cell? ⟨B, 5, none⟩ = some (.int .i64 p1) := kB3.cell 5
  have z4 : w3.cell? ⟨B, 4, none⟩ = some (.string x1) := kB3.cell 4
  have kB3' := Rg.hid kB3
  clear kB3
  go_upto_region 8 with (go_at_call 40; refine (HSp.out _).mono ?_; rintro e w5 ⟨rfl, b5⟩; have kB5 := kB3'.out.below b5 kB3'.out.lt; have y := kB5.cell 4; have yf := kB5.thaw; simp only [List.getElem?_cons_zero, List.getElem?_cons_succ] at y)
  have kB6 : Rg.Bk B [.string x0, .int .i64 p0, .slice b0 bn0 bc0, .slice g0 gn0 gc0, .string XN, .int .i64 p1, .slice b1 bn1 bc1, .slice g1 gn1 gc1, .bool true] 30 (w5.setCell ⟨B, 4, none⟩ (.string XN)) := kB5.set 4 (.string XN)
  have o6 := Rg.Only.setCell w5 B 4 (.string XN)
  have kR6 := Rg.hid ((kR3.out.below b5 kR3.out.lt).same (o6.block R (Ne.symm hBR)))
  have hb6 := (Rg.chain hb3.out b5).trans (o6.bel hBw)
  clear y yf kB5 kB3' kR3 hb3 b5 o6 z4 z5 HSp
  generalize World.setCell _ _ _ = w6 at *
  have z6 : w6.cell? ⟨B, 6, none⟩ = some (.slice b1 bn1 bc1) := kB6.cell 6
  have kB6' := Rg.hid kB6
  clear kB6
  go_upto_region 9 with (first
    | (go_at_call 41; refine (HS1.out _ hb6).mono ?_; rintro e w7 ⟨a7, c7, rfl, hr7, hc7, b7⟩)
    | (go_at_call 43; refine (HM.out _ _ _ hr7 hc7).mono ?_; rintro e w8 ⟨a8, c8, rfl, hr8, hc8, b8⟩; have kB8 := (kB6'.out.below b7 kB6'.out.lt).below b8 (kB6'.out.below b7 kB6'.out.lt).lt; have y := kB8.cell 6; have yf := kB8.thaw; simp only [List.getElem?_cons_zero, List.getElem?_cons_succ] at y))
  obtain ⟨NB, hNB⟩ : ∃ NB, NB = LB.length := ⟨_, rfl⟩
  rw [← hNB] at hc8 ⊢
  have kB9 : Rg.Bk B [.string x0, .int .i64 p0, .slice b0 bn0 bc0, .slice g0 gn0 gc0, .string XN, .int .i64 p1, .slice a8 NB c8, .slice g1 gn1 gc1, .bool true] 30 (w8.setCell ⟨B, 6, none⟩ (.slice a8 NB c8)) := kB8.set 6 (.slice a8 NB c8)
  have o9 := Rg.Only.setCell w8 B 6 (.slice a8 NB c8)
  have kR9 := Rg.hid (((kR6.out.below b7 kR6.out.lt).below b8 (kR6.out.below b7 kR6.out.lt).lt).same (o9.block R (Ne.symm hBR)))
  have hr9 := Rg.hid (hr8.only kB8 line_int o9)
  have hb9 := (Rg.chain (Rg.chain hb6 b7) b8).trans (o9.bel hBw)
  replace hNB := Rg.hid hNB
  clear y yf kB8 kB6' kR6 hb6 b7 b8 o9 hr7 hr8 hc7 z6 HS1 HM
  generalize World.setCell _ _ _ = w9 at *
  have z7 : w9.cell? ⟨B, 7, none⟩ = some (.slice g1 gn1 gc1) := kB9.cell 7
  have kB9' := Rg.hid kB9
  clear kB9
  go_upto_region 10 with (go_at_call 41; refine (HS2.out _ hb9).mono ?_; rintro e w11 ⟨a11, c11, rfl, hr11, hc11, b11⟩; have kB11 := kB9'.out.below b11 kB9'.out.lt; have y := kB11.cell 7; have yf := kB11.thaw; simp only [List.getElem?_cons_zero, List.getElem?_cons_succ] at y)
  obtain ⟨NG, hNG⟩ : ∃ NG, NG = LG.length := ⟨_, rfl⟩
  rw [← hNG] at hc11 ⊢
  have kB12 : Rg.Bk B [.string x0, .int .i64 p0, .slice b0 bn0 bc0, .slice g0 gn0 gc0, .string XN, .int .i64 p1, .slice a8 NB c8, .slice a11 NG c11, .bool true] 30 (w11.setCell ⟨B, 7, none⟩ (.slice a11 NG c11)) := kB11.set 7 (.slice a11 NG c11)
  have o12 := Rg.Only.setCell w11 B 7 (.slice a11 NG c11)
  have kR12 := (kR9.out.below b11 kR9.out.lt).same (o12.block R (Ne.symm hBR))
  have hrB := (hr9.out.below b11).only kB11 line_int o12
  have hrG := hr11.only kB11 line_int o12
  have hb12 := (Rg.chain hb9 b11).trans (o12.bel hBw)
  replace hNG := Rg.hid hNG
  clear y yf kB11 kB9' kR9 hb9 b11 o12 hr11 hr9 z7 HS2
  generalize World.setCell _ _ _ = w12 at *
  obtain ⟨kE, oE⟩ := ret9 kR12 rfl (.string x0) (.int .i64 p0) (.slice b0 bn0 bc0) (.slice g0 gn0 gc0) (.string XN) (.int .i64 p1) (.slice a8 NB c8) (.slice a11 NG c11) (.bool true)
  have post := Rg.hid ((⟨a8, c8, a11, c11, by rw [hNB.out, hNG.out], hrB.only kR12 line_int oE, hrG.only kR12 line_int oE, by rw [← hNB.out]; exact hc8, by rw [← hNG.out]; exact hc11, hb12.trans (oE.bel hRw)⟩ : ∃ ba bc ga gc, Ending.returned (.tuple #[.agg #[.string x0, .int .i64 p0, .slice b0 bn0 bc0, .slice g0 gn0 gc0, .string XN, .int .i64 p1, .slice a8 NB c8, .slice a11 NG c11, .bool true], .int .i64 0]) = .returned (.tuple #[.agg #[.string x0, .int .i64 p0, .slice b0 bn0 bc0, .slice g0 gn0 gc0, .string XN, .int .i64 p1, .slice ba LB.length bc, .slice ga LG.length gc, .bool true], .int .i64 0]) ∧ IRow _ ba LB ∧ IRow _ ga LG ∧ LB.length ≤ bc ∧ LG.length ≤ gc ∧ Below w.heap.size w _))
  replace kE := Rg.hid kE
  have d0' : w12.cell? ⟨B, 0, none⟩ = some (.string x0) := kB12.cell 0
  have d1' : w12.cell? ⟨B, 1, none⟩ = some (.int .i64 p0) := kB12.cell 1
  have d2' : w12.cell? ⟨B, 2, none⟩ = some (.slice b0 bn0 bc0) := kB12.cell 2
  have d3' : w12.cell? ⟨B, 3, none⟩ = some (.slice g0 gn0 gc0) := kB12.cell 3
  have d4' : w12.cell? ⟨B, 4, none⟩ = some (.string XN) := kB12.cell 4
  have d5' : w12.cell? ⟨B, 5, none⟩ = some (.int .i64 p1) := kB12.cell 5
  have d6' : w12.cell? ⟨B, 6, none⟩ = some (.slice a8 NB c8) := kB12.cell 6
  have d7' : w12.cell? ⟨B, 7, none⟩ = some (.slice a11 NG c11) := kB12.cell 7
  have d8' : w12.cell? ⟨B, 8, none⟩ = some (.bool true) := kB12.cell 8
  have r0 : w12.cell? ⟨R, 0, none⟩ = some (.string ⟨#[]⟩) := kR12.cell 0
  have r1 : w12.cell? ⟨R, 1, none⟩ = some (.int .i64 0) := kR12.cell 1
  have r2 : w12.cell? ⟨R, 2, none⟩ = some (.slice none 0 0) := kR12.cell 2
  have r3 : w12.cell? ⟨R, 3, none⟩ = some (.slice none 0 0) := kR12.cell 3
  have r4 : w12.cell? ⟨R, 4, none⟩ = some (.string ⟨#[]⟩) := kR12.cell 4
  have r5 : w12.cell? ⟨R, 5, none⟩ = some (.int .i64 0) := kR12.cell 5
  have r6 : w12.cell? ⟨R, 6, none⟩ = some (.slice none 0 0) := kR12.cell 6
  have r7 : w12.cell? ⟨R, 7, none⟩ = some (.slice none 0 0) := kR12.cell 7
  have r8 : w12.cell? ⟨R, 8, none⟩ = some (.bool false) := kR12.cell 8
  have rf := kR12.thaw
  clear oE kR12 kB12 hb12 hrB hrG hNB hNG
  go_wp2
  replace kE := kE.out
  replace post := post.out
  generalize World.setCell _ _ _ = WE at *
  exact bodyPost_ret (v := .tuple #[.agg #[.string x0, .int .i64 p0, .slice b0 bn0 bc0, .slice g0 gn0 gc0, .string XN, .int .i64 p1, .slice a8 NB c8, .slice a11 NG c11, .bool true], .int .i64 0]) (by simp [results, Try.results23, go_sem, kE.cell]) rfl post

set_option maxHeartbeats 1000000 in
set_option maxRecDepth 100000 in
theorem ladd_fullend1 (x0 : ByteArray) (p0 : Int) (b0 : Option Addr) (bn0 bc0 : Nat) (g0 : Option Addr) (gn0 gc0 : Nat) (x1 : ByteArray) (p1 : Int) (b1 : Option Addr) (bn1 bc1 : Nat) (g1 : Option Addr) (gn1 gc1 : Nat) (k : Nat) (c : Int) (w : World) (hk : k ≤ x1.size) (hk2 : x1.size ≤ k) (hx : x1.size ≤ 1000000) (hf : 40000 ≤ x1.size) :
    Calls Try.prog 23 #[.agg #[.string x0, .int .i64 p0, .slice b0 bn0 bc0, .slice g0 gn0 gc0, .string x1, .int .i64 p1, .slice b1 bn1 bc1, .slice g1 gn1 gc1, .bool true], .int .i64 1, .int .i64 k, .int .u8 c] w fun e w' => e = .returned (.tuple #[.agg #[.string x0, .int .i64 p0, .slice b0 bn0 bc0, .slice g0 gn0 gc0, .string x1, .int .i64 p1, .slice b1 bn1 bc1, .slice g1 gn1 gc1, .bool true], .int .i64 8]) ∧ Below w.heap.size w w' := by
  have HC : Hid (∀ W, Calls Try.prog 38 #[.agg #[.string x0, .int .i64 p0, .slice b0 bn0 bc0, .slice g0 gn0 gc0, .string x1, .int .i64 p1, .slice b1 bn1 bc1, .slice g1 gn1 gc1, .bool true], .int .i64 1] W fun e w' => e = .returned (.bool true) ∧ Below W.heap.size W w') := fun W => lcarries1 x0 p0 b0 bn0 bc0 g0 gn0 gc0 x1 p1 b1 bn1 bc1 g1 gn1 gc1 true W
  have HU : Hid (∀ W, Calls Try.prog 39 #[.agg #[.string x1, .int .i64 p1, .slice b1 bn1 bc1, .slice g1 gn1 gc1], .int .i64 k] W fun e w' => e = .returned (.bool false) ∧ Below W.heap.size W w') := fun W => by
    have := lunder_any x1 p1 b1 bn1 bc1 g1 gn1 gc1 (k : Int) W
    rw [show decide (0 ≤ (k : Int) ∧ (k : Int) < (x1.size : Int)) = false by simp; omega] at this
    exact this
  have dne : ((k : Int) != (x1.size : Int)) = false := by simp; omega
  have df : decide ((40000 : Int) ≤ (x1.size : Int)) = true := by simp; omega
  have kB1 : Rg.Bk w.heap.size [.string x0, .int .i64 p0, .slice b0 bn0 bc0, .slice g0 gn0 gc0, .string x1, .int .i64 p1, .slice b1 bn1 bc1, .slice g1 gn1 gc1, .bool true] 30 ((w.alloc (.cells #[.string x0, .int .i64 p0, .slice b0 bn0 bc0, .slice g0 gn0 gc0, .string x1, .int .i64 p1, .slice b1 bn1 bc1, .slice g1 gn1 gc1, .bool true] 30)).alloc (.cells #[.string ⟨#[]⟩, .int .i64 0, .slice none 0 0, .slice none 0 0, .string ⟨#[]⟩, .int .i64 0, .slice none 0 0, .slice none 0 0, .bool false] 30)) := (Rg.Bk.new rfl).old _
  have kR1 : Rg.Bk (w.heap.size + 1) [.string ⟨#[]⟩, .int .i64 0, .slice none 0 0, .slice none 0 0, .string ⟨#[]⟩, .int .i64 0, .slice none 0 0, .slice none 0 0, .bool false] 30 ((w.alloc (.cells #[.string x0, .int .i64 p0, .slice b0 bn0 bc0, .slice g0 gn0 gc0, .string x1, .int .i64 p1, .slice b1 bn1 bc1, .slice g1 gn1 gc1, .bool true] 30)).alloc (.cells #[.string ⟨#[]⟩, .int .i64 0, .slice none 0 0, .slice none 0 0, .string ⟨#[]⟩, .int .i64 0, .slice none 0 0, .slice none 0 0, .bool false] 30)) := Rg.Bk.new (by simp)
  have hb1 := Rg.al2 w (.cells #[.string x0, .int .i64 p0, .slice b0 bn0 bc0, .slice g0 gn0 gc0, .string x1, .int .i64 p1, .slice b1 bn1 bc1, .slice g1 gn1 gc1, .bool true] 30) (.cells #[.string ⟨#[]⟩, .int .i64 0, .slice none 0 0, .slice none 0 0, .string ⟨#[]⟩, .int .i64 0, .slice none 0 0, .slice none 0 0, .bool false] 30)
  go_enter Try.func23, Try.ntmps23
  go_upto_region 1 with fail
  generalize World.alloc _ _ = w1 at *
  obtain ⟨B, hB⟩ : ∃ B, B = w.heap.size := ⟨_, rfl⟩
  obtain ⟨R, hR⟩ : ∃ R, R = w.heap.size + 1 := ⟨_, rfl⟩
  rw [← hR] at kR1 ⊢
  rw [← hB] at kB1 ⊢
  have hBR : B ≠ R := by omega
  have hBw : w.heap.size ≤ B := by omega
  have hRw : w.heap.size ≤ R := by omega
  clear hB hR
  have z0 : w1.cell? ⟨B, 0, none⟩ = some (.string x0) := kB1.cell 0
  have z1 : w1.cell? ⟨B, 1, none⟩ = some (.int .i64 p0) := kB1.cell 1
  have z2 : w1.cell? ⟨B, 2, none⟩ = some (.slice b0 bn0 bc0) := kB1.cell 2
  have z3 : w1.cell? ⟨B, 3, none⟩ = some (.slice g0 gn0 gc0) := kB1.cell 3
  have z4 : w1.cell? ⟨B, 4, none⟩ = some (.string x1) := kB1.cell 4
  have z5 : w1.cell? ⟨B, 5, none⟩ = some (.int .i64 p1) := kB1.cell 5
  have z6 : w1.cell? ⟨B, 6, none⟩ = some (.slice b1 bn1 bc1) := kB1.cell 6
  have z7 : w1.cell? ⟨B, 7, none⟩ = some (.slice g1 gn1 gc1) := kB1.cell 7
  have z8 : w1.cell? ⟨B, 8, none⟩ = some (.bool true) := kB1.cell 8
  have kB1' := Rg.hid kB1
  have kR1' := Rg.hid kR1
  have hb1' := Rg.hid hb1
  clear kB1 kR1 hb1
  go_upto_region 3 with (first
    | (go_at_call 38; refine (HC.out _).mono ?_; rintro e w2 ⟨rfl, b2⟩; have kB2 := kB1'.out.below b2 kB1'.out.lt; have y4 := kB2.cell 4; have y5 := kB2.cell 5; have y6 := kB2.cell 6; have y7 := kB2.cell 7; simp only [List.getElem?_cons_zero, List.getElem?_cons_succ] at y4 y5 y6 y7)
    | (go_at_call 39; refine (HU.out _).mono ?_; rintro e w3 ⟨rfl, b3⟩; have kB3 := kB2.below b3 kB2.lt; have u := kB3.cell 4; simp only [List.getElem?_cons_zero, List.getElem?_cons_succ] at u))
  have kR3 := Rg.hid ((kR1'.out.below b2 kR1'.out.lt).below b3 (kR1'.out.below b2 kR1'.out.lt).lt)
  have hb3 := Rg.hid (Rg.chain (Rg.chain hb1'.out b2) b3)
  clear kB2 kB1' kR1' hb1' b2 b3 HC HU u y4 y5 y6 y7 z0 z1 z2 z3 z4 z5 z6 z7 z8
  have z5 : w3.cell? ⟨B, 5, none⟩ = some (.int .i64 p1) := kB3.cell 5
  have z4 : w3.cell? ⟨B, 4, none⟩ = some (.string x1) := kB3.cell 4
  have kR3b := kR3.out
  have kB3' := Rg.hid kB3
  clear kR3
  go_upto_region 5 with fail
  have kB3b := kB3'.out
  clear z4 z5 kB3 kB3'
  obtain ⟨kE, oE⟩ := ret9 kR3b rfl (.string x0) (.int .i64 p0) (.slice b0 bn0 bc0) (.slice g0 gn0 gc0) (.string x1) (.int .i64 p1) (.slice b1 bn1 bc1) (.slice g1 gn1 gc1) (.bool true)
  have post := Rg.hid (hb3.out.trans (oE.bel hRw))
  replace kE := Rg.hid kE
  have d0' : w3.cell? ⟨B, 0, none⟩ = some (.string x0) := kB3b.cell 0
  have d1' : w3.cell? ⟨B, 1, none⟩ = some (.int .i64 p0) := kB3b.cell 1
  have d2' : w3.cell? ⟨B, 2, none⟩ = some (.slice b0 bn0 bc0) := kB3b.cell 2
  have d3' : w3.cell? ⟨B, 3, none⟩ = some (.slice g0 gn0 gc0) := kB3b.cell 3
  have d4' : w3.cell? ⟨B, 4, none⟩ = some (.string x1) := kB3b.cell 4
  have d5' : w3.cell? ⟨B, 5, none⟩ = some (.int .i64 p1) := kB3b.cell 5
  have d6' : w3.cell? ⟨B, 6, none⟩ = some (.slice b1 bn1 bc1) := kB3b.cell 6
  have d7' : w3.cell? ⟨B, 7, none⟩ = some (.slice g1 gn1 gc1) := kB3b.cell 7
  have d8' : w3.cell? ⟨B, 8, none⟩ = some (.bool true) := kB3b.cell 8
  have r0 : w3.cell? ⟨R, 0, none⟩ = some (.string ⟨#[]⟩) := kR3b.cell 0
  have r1 : w3.cell? ⟨R, 1, none⟩ = some (.int .i64 0) := kR3b.cell 1
  have r2 : w3.cell? ⟨R, 2, none⟩ = some (.slice none 0 0) := kR3b.cell 2
  have r3 : w3.cell? ⟨R, 3, none⟩ = some (.slice none 0 0) := kR3b.cell 3
  have r4 : w3.cell? ⟨R, 4, none⟩ = some (.string ⟨#[]⟩) := kR3b.cell 4
  have r5 : w3.cell? ⟨R, 5, none⟩ = some (.int .i64 0) := kR3b.cell 5
  have r6 : w3.cell? ⟨R, 6, none⟩ = some (.slice none 0 0) := kR3b.cell 6
  have r7 : w3.cell? ⟨R, 7, none⟩ = some (.slice none 0 0) := kR3b.cell 7
  have r8 : w3.cell? ⟨R, 8, none⟩ = some (.bool false) := kR3b.cell 8
  have rf := kR3b.thaw
  clear oE kR3b kB3b hb3
  go_wp2
  replace kE := kE.out
  replace post := post.out
  generalize World.setCell _ _ _ = WE at *
  exact bodyPost_ret (v := .tuple #[.agg #[.string x0, .int .i64 p0, .slice b0 bn0 bc0, .slice g0 gn0 gc0, .string x1, .int .i64 p1, .slice b1 bn1 bc1, .slice g1 gn1 gc1, .bool true], .int .i64 8]) (by simp [results, Try.results23, go_sem, kE.cell]) rfl ⟨rfl, post⟩

set_option maxHeartbeats 2000000 in
set_option maxRecDepth 100000 in
theorem ladd_end1 (x0 : ByteArray) (p0 : Int) (b0 : Option Addr) (bn0 bc0 : Nat) (g0 : Option Addr) (gn0 gc0 : Nat) (x1 : ByteArray) (p1 : Int) (b1 : Option Addr) (bn1 bc1 : Nat) (g1 : Option Addr) (gn1 gc1 : Nat) (k : Nat) (c : UInt8) (bad gap : List Int) (w : World) (hk : k ≤ x1.size) (hk2 : x1.size ≤ k) (hx : x1.size < 40000) (hp : 0 ≤ p1) (hp2 : p1 ≤ 1000000000) (hbn : bn1 = bad.length) (hgn : gn1 = gap.length) (hbl : bad.length ≤ 100000000) (hgl : gap.length ≤ 100000000)
    (hbb : ∀ y ∈ bad, 0 ≤ y ∧ y ≤ 10000000000) (hgb : ∀ y ∈ gap, 0 ≤ y ∧ y ≤ 10000000000) (hub : Ln.Up bad) (hug : Ln.Up gap) (hrb : IRow w b1 bad) (hrg : IRow w g1 gap) :
    Calls Try.prog 23 #[.agg #[.string x0, .int .i64 p0, .slice b0 bn0 bc0, .slice g0 gn0 gc0, .string x1, .int .i64 p1, .slice b1 bn1 bc1, .slice g1 gn1 gc1, .bool true], .int .i64 1, .int .i64 k, .int .u8 (c.toNat : Int)] w fun e w' => ∃ ba bc ga gc, e = .returned (.tuple #[.agg #[.string x0, .int .i64 p0, .slice b0 bn0 bc0, .slice g0 gn0 gc0, .string ⟨((x1.data.toList.take k ++ [c]) ++ x1.data.toList.drop (k + 0)).toArray⟩, .int .i64 p1, .slice ba (Ln.addBad bad (p1 + k)).length bc, .slice ga (Ln.addGap gap (p1 + k)).length gc, .bool true], .int .i64 0]) ∧ IRow w' ba (Ln.addBad bad (p1 + k)) ∧ IRow w' ga (Ln.addGap gap (p1 + k)) ∧ (Ln.addBad bad (p1 + k)).length ≤ bc ∧ (Ln.addGap gap (p1 + k)).length ≤ gc ∧ Below w.heap.size w w' := by
  have HC : Hid (∀ W, Calls Try.prog 38 #[.agg #[.string x0, .int .i64 p0, .slice b0 bn0 bc0, .slice g0 gn0 gc0, .string x1, .int .i64 p1, .slice b1 bn1 bc1, .slice g1 gn1 gc1, .bool true], .int .i64 1] W fun e w' => e = .returned (.bool true) ∧ Below W.heap.size W w') := fun W => lcarries1 x0 p0 b0 bn0 bc0 g0 gn0 gc0 x1 p1 b1 bn1 bc1 g1 gn1 gc1 true W
  have HU : Hid (∀ W, Calls Try.prog 39 #[.agg #[.string x1, .int .i64 p1, .slice b1 bn1 bc1, .slice g1 gn1 gc1], .int .i64 k] W fun e w' => e = .returned (.bool false) ∧ Below W.heap.size W w') := fun W => by
    have := lunder_any x1 p1 b1 bn1 bc1 g1 gn1 gc1 (k : Int) W
    rw [show decide (0 ≤ (k : Int) ∧ (k : Int) < (x1.size : Int)) = false by simp; omega] at this
    exact this
  have dne : ((k : Int) != (x1.size : Int)) = false := by simp; omega
  have df : decide ((40000 : Int) ≤ (x1.size : Int)) = false := by simp; omega
  have HSp0 := fun W vb (hv : ∀ W', Below W.heap.size W W' → W'.cell? ⟨vb, 0, none⟩ = some (.int .u8 (c.toNat : Int))) => splice_in x1 k 0 c vb W (by omega) (by omega) hv
  have HSp : Hid (∀ W, Calls Try.prog 40 #[.string x1, .int .i64 k, .int .i64 0, .slice (some ⟨W.heap.size, 0, none⟩) 1 1] (W.alloc (.cells #[.int .u8 (c.toNat : Int)] 5)) fun e w' => e = .returned (.string ⟨((x1.data.toList.take k ++ [c]) ++ x1.data.toList.drop (k + 0)).toArray⟩) ∧ Below W.heap.size W w') := fun W => (HSp0 (W.alloc (.cells #[.int .u8 (c.toNat : Int)] 5)) W.heap.size (fun W' hb => Rg.Bk.cell (Rg.Bk.below (Rg.Bk.new rfl) hb (by simp)) 0)).mono fun e w' ⟨h1, h2⟩ => ⟨h1, Rg.chain (Rg.al1 _ _) h2⟩
  clear HSp0
  have HS1 : Hid (∀ W, Below w.heap.size w W → Calls Try.prog 41 #[.slice b1 bn1 bc1, .int .i64 (p1 + k), .int .i64 1] W fun e w' => IPost W (Ln.shift bad (p1 + k) 1) e w') := fun W hW => by rw [hbn]; exact lshift_any b1 bc1 bad (p1 + k) 1 W (by omega) (by omega) (by omega) (fun y hy => by have := hbb y hy; omega) (hrb.below hW)
  have hsl : (Ln.shift bad (p1 + k) 1).length ≤ bad.length := by
    have := Ln.compact_len (Ln.moved bad (p1 + k) 1)
    rw [Ln.moved_length] at this
    exact this
  have HM : Hid (∀ W a c, IRow W a (Ln.shift bad (p1 + k) 1) → (Ln.shift bad (p1 + k) 1).length ≤ c → Calls Try.prog 43 #[.slice a (Ln.shift bad (p1 + k) 1).length c, .int .i64 (p1 + k)] W fun e w' => IPost W (Ln.addBad bad (p1 + k)) e w') := fun W a c h hc => by
    have := lmark_any a c (Ln.shift bad (p1 + k) 1) (p1 + k) W (by omega) hc (Ln.up_shift_up hub _) h
    rw [Ln.add_bad hub] at this
    exact this
  have HS2 : Hid (∀ W, Below w.heap.size w W → Calls Try.prog 41 #[.slice g1 gn1 gc1, .int .i64 (p1 + k + 1), .int .i64 1] W fun e w' => IPost W (Ln.addGap gap (p1 + k)) e w') := fun W hW => by
    have := lshift_any g1 gc1 gap (p1 + k + 1) 1 W (by omega) (by omega) (by omega) (fun y hy => by have := hgb y hy; omega) (hrg.below hW)
    rw [Ln.add_gap hug] at this
    rw [hgn]
    exact this
  have hw1' : wrap64 (p1 + (k : Int)) = p1 + (k : Int) := by unfold wrap64; omega
  have hw1 : IntKind.i64.wrap (p1 + (k : Int)) = p1 + (k : Int) := by rw [IntKind.wrap_i64]; omega
  obtain ⟨P, hP⟩ : ∃ P : Int, P = p1 + (k : Int) := ⟨_, rfl⟩
  rw [← hP] at HS1 HS2 HM hsl ⊢
  replace hw1 : IntKind.i64.wrap (p1 + (k : Int)) = P := by rw [hw1, hP]
  replace hw1' : wrap64 (p1 + (k : Int)) = P := by rw [hw1', hP]
  have hP2 : P + 1 ≤ 10000000000 := by omega
  have hP3 : 0 ≤ P := by omega
  have hw2 : IntKind.i64.wrap (P + 1) = P + 1 := by rw [IntKind.wrap_i64]; omega
  have hw2' : wrap64 (P + 1) = P + 1 := by unfold wrap64; omega
  replace hP := Rg.hid hP
  generalize Ln.addBad bad P = LB at *
  generalize Ln.addGap gap P = LG at *
  generalize Ln.shift bad P 1 = SB at *
  generalize (⟨((x1.data.toList.take k ++ [c]) ++ x1.data.toList.drop (k + 0)).toArray⟩ : ByteArray) = XN at *
  generalize (c.toNat : Int) = CN at *
  clear hbn hgn hbl hgl hbb hgb hub hug hrb hrg hsl
  have kB1 : Rg.Bk w.heap.size [.string x0, .int .i64 p0, .slice b0 bn0 bc0, .slice g0 gn0 gc0, .string x1, .int .i64 p1, .slice b1 bn1 bc1, .slice g1 gn1 gc1, .bool true] 30 ((w.alloc (.cells #[.string x0, .int .i64 p0, .slice b0 bn0 bc0, .slice g0 gn0 gc0, .string x1, .int .i64 p1, .slice b1 bn1 bc1, .slice g1 gn1 gc1, .bool true] 30)).alloc (.cells #[.string ⟨#[]⟩, .int .i64 0, .slice none 0 0, .slice none 0 0, .string ⟨#[]⟩, .int .i64 0, .slice none 0 0, .slice none 0 0, .bool false] 30)) := (Rg.Bk.new rfl).old _
  have kR1 : Rg.Bk (w.heap.size + 1) [.string ⟨#[]⟩, .int .i64 0, .slice none 0 0, .slice none 0 0, .string ⟨#[]⟩, .int .i64 0, .slice none 0 0, .slice none 0 0, .bool false] 30 ((w.alloc (.cells #[.string x0, .int .i64 p0, .slice b0 bn0 bc0, .slice g0 gn0 gc0, .string x1, .int .i64 p1, .slice b1 bn1 bc1, .slice g1 gn1 gc1, .bool true] 30)).alloc (.cells #[.string ⟨#[]⟩, .int .i64 0, .slice none 0 0, .slice none 0 0, .string ⟨#[]⟩, .int .i64 0, .slice none 0 0, .slice none 0 0, .bool false] 30)) := Rg.Bk.new (by simp)
  have hb1 := Rg.al2 w (.cells #[.string x0, .int .i64 p0, .slice b0 bn0 bc0, .slice g0 gn0 gc0, .string x1, .int .i64 p1, .slice b1 bn1 bc1, .slice g1 gn1 gc1, .bool true] 30) (.cells #[.string ⟨#[]⟩, .int .i64 0, .slice none 0 0, .slice none 0 0, .string ⟨#[]⟩, .int .i64 0, .slice none 0 0, .slice none 0 0, .bool false] 30)
  go_enter Try.func23, Try.ntmps23
  go_upto_region 1 with fail
  generalize World.alloc _ _ = w1 at *
  obtain ⟨B, hB⟩ : ∃ B, B = w.heap.size := ⟨_, rfl⟩
  obtain ⟨R, hR⟩ : ∃ R, R = w.heap.size + 1 := ⟨_, rfl⟩
  rw [← hR] at kR1 ⊢
  rw [← hB] at kB1 ⊢
  have hBR : B ≠ R := by omega
  have hBw : w.heap.size ≤ B := by omega
  have hRw : w.heap.size ≤ R := by omega
  clear hB hR
  have z0 : w1.cell? ⟨B, 0, none⟩ = some (.string x0) := kB1.cell 0
  have z1 : w1.cell? ⟨B, 1, none⟩ = some (.int .i64 p0) := kB1.cell 1
  have z2 : w1.cell? ⟨B, 2, none⟩ = some (.slice b0 bn0 bc0) := kB1.cell 2
  have z3 : w1.cell? ⟨B, 3, none⟩ = some (.slice g0 gn0 gc0) := kB1.cell 3
  have z4 : w1.cell? ⟨B, 4, none⟩ = some (.string x1) := kB1.cell 4
  have z5 : w1.cell? ⟨B, 5, none⟩ = some (.int .i64 p1) := kB1.cell 5
  have z6 : w1.cell? ⟨B, 6, none⟩ = some (.slice b1 bn1 bc1) := kB1.cell 6
  have z7 : w1.cell? ⟨B, 7, none⟩ = some (.slice g1 gn1 gc1) := kB1.cell 7
  have z8 : w1.cell? ⟨B, 8, none⟩ = some (.bool true) := kB1.cell 8
  have kB1' := Rg.hid kB1
  have kR1' := Rg.hid kR1
  have hb1' := Rg.hid hb1
  clear kB1 kR1 hb1
  go_upto_region 3 with (first
    | (go_at_call 38; refine (HC.out _).mono ?_; rintro e w2 ⟨rfl, b2⟩; have kB2 := kB1'.out.below b2 kB1'.out.lt; have y4 := kB2.cell 4; have y5 := kB2.cell 5; have y6 := kB2.cell 6; have y7 := kB2.cell 7; simp only [List.getElem?_cons_zero, List.getElem?_cons_succ] at y4 y5 y6 y7)
    | (go_at_call 39; refine (HU.out _).mono ?_; rintro e w3 ⟨rfl, b3⟩; have kB3 := kB2.below b3 kB2.lt; have u := kB3.cell 4; simp only [List.getElem?_cons_zero, List.getElem?_cons_succ] at u))
  have kR3 := Rg.hid ((kR1'.out.below b2 kR1'.out.lt).below b3 (kR1'.out.below b2 kR1'.out.lt).lt)
  have hb3 := Rg.hid (Rg.chain (Rg.chain hb1'.out b2) b3)
  clear kB2 kB1' kR1' hb1' b2 b3 HC HU u y4 y5 y6 y7 z0 z1 z2 z3 z4 z5 z6 z7 z8
  have z5 : w3.cell? ⟨B, 5, none⟩ = some (.int .i64 p1) := kB3.cell 5
  have z4 : w3.cell? ⟨B, 4, none⟩ = some (.string x1) := kB3.cell 4
  have kB3' := Rg.hid kB3
  clear kB3
  go_upto_region 8 with (go_at_call 40; refine (HSp.out _).mono ?_; rintro e w5 ⟨rfl, b5⟩; have kB5 := kB3'.out.below b5 kB3'.out.lt; have y := kB5.cell 4; have yf := kB5.thaw; simp only [List.getElem?_cons_zero, List.getElem?_cons_succ] at y)
  have kB6 : Rg.Bk B [.string x0, .int .i64 p0, .slice b0 bn0 bc0, .slice g0 gn0 gc0, .string XN, .int .i64 p1, .slice b1 bn1 bc1, .slice g1 gn1 gc1, .bool true] 30 (w5.setCell ⟨B, 4, none⟩ (.string XN)) := kB5.set 4 (.string XN)
  have o6 := Rg.Only.setCell w5 B 4 (.string XN)
  have kR6 := Rg.hid ((kR3.out.below b5 kR3.out.lt).same (o6.block R (Ne.symm hBR)))
  have hb6 := (Rg.chain hb3.out b5).trans (o6.bel hBw)
  clear y yf kB5 kB3' kR3 hb3 b5 o6 z4 z5 HSp
  generalize World.setCell _ _ _ = w6 at *
  have z6 : w6.cell? ⟨B, 6, none⟩ = some (.slice b1 bn1 bc1) := kB6.cell 6
  have kB6' := Rg.hid kB6
  clear kB6
  go_upto_region 9 with (first
    | (go_at_call 41; refine (HS1.out _ hb6).mono ?_; rintro e w7 ⟨a7, c7, rfl, hr7, hc7, b7⟩)
    | (go_at_call 43; refine (HM.out _ _ _ hr7 hc7).mono ?_; rintro e w8 ⟨a8, c8, rfl, hr8, hc8, b8⟩; have kB8 := (kB6'.out.below b7 kB6'.out.lt).below b8 (kB6'.out.below b7 kB6'.out.lt).lt; have y := kB8.cell 6; have yf := kB8.thaw; simp only [List.getElem?_cons_zero, List.getElem?_cons_succ] at y))
  obtain ⟨NB, hNB⟩ : ∃ NB, NB = LB.length := ⟨_, rfl⟩
  rw [← hNB] at hc8 ⊢
  have kB9 : Rg.Bk B [.string x0, .int .i64 p0, .slice b0 bn0 bc0, .slice g0 gn0 gc0, .string XN, .int .i64 p1, .slice a8 NB c8, .slice g1 gn1 gc1, .bool true] 30 (w8.setCell ⟨B, 6, none⟩ (.slice a8 NB c8)) := kB8.set 6 (.slice a8 NB c8)
  have o9 := Rg.Only.setCell w8 B 6 (.slice a8 NB c8)
  have kR9 := Rg.hid (((kR6.out.below b7 kR6.out.lt).below b8 (kR6.out.below b7 kR6.out.lt).lt).same (o9.block R (Ne.symm hBR)))
  have hr9 := Rg.hid (hr8.only kB8 line_int o9)
  have hb9 := (Rg.chain (Rg.chain hb6 b7) b8).trans (o9.bel hBw)
  replace hNB := Rg.hid hNB
  clear y yf kB8 kB6' kR6 hb6 b7 b8 o9 hr7 hr8 hc7 z6 HS1 HM
  generalize World.setCell _ _ _ = w9 at *
  have z7 : w9.cell? ⟨B, 7, none⟩ = some (.slice g1 gn1 gc1) := kB9.cell 7
  have kB9' := Rg.hid kB9
  clear kB9
  go_upto_region 10 with (go_at_call 41; refine (HS2.out _ hb9).mono ?_; rintro e w11 ⟨a11, c11, rfl, hr11, hc11, b11⟩; have kB11 := kB9'.out.below b11 kB9'.out.lt; have y := kB11.cell 7; have yf := kB11.thaw; simp only [List.getElem?_cons_zero, List.getElem?_cons_succ] at y)
  obtain ⟨NG, hNG⟩ : ∃ NG, NG = LG.length := ⟨_, rfl⟩
  rw [← hNG] at hc11 ⊢
  have kB12 : Rg.Bk B [.string x0, .int .i64 p0, .slice b0 bn0 bc0, .slice g0 gn0 gc0, .string XN, .int .i64 p1, .slice a8 NB c8, .slice a11 NG c11, .bool true] 30 (w11.setCell ⟨B, 7, none⟩ (.slice a11 NG c11)) := kB11.set 7 (.slice a11 NG c11)
  have o12 := Rg.Only.setCell w11 B 7 (.slice a11 NG c11)
  have kR12 := (kR9.out.below b11 kR9.out.lt).same (o12.block R (Ne.symm hBR))
  have hrB := (hr9.out.below b11).only kB11 line_int o12
  have hrG := hr11.only kB11 line_int o12
  have hb12 := (Rg.chain hb9 b11).trans (o12.bel hBw)
  replace hNG := Rg.hid hNG
  clear y yf kB11 kB9' kR9 hb9 b11 o12 hr11 hr9 z7 HS2
  generalize World.setCell _ _ _ = w12 at *
  obtain ⟨kE, oE⟩ := ret9 kR12 rfl (.string x0) (.int .i64 p0) (.slice b0 bn0 bc0) (.slice g0 gn0 gc0) (.string XN) (.int .i64 p1) (.slice a8 NB c8) (.slice a11 NG c11) (.bool true)
  have post := Rg.hid ((⟨a8, c8, a11, c11, by rw [hNB.out, hNG.out], hrB.only kR12 line_int oE, hrG.only kR12 line_int oE, by rw [← hNB.out]; exact hc8, by rw [← hNG.out]; exact hc11, hb12.trans (oE.bel hRw)⟩ : ∃ ba bc ga gc, Ending.returned (.tuple #[.agg #[.string x0, .int .i64 p0, .slice b0 bn0 bc0, .slice g0 gn0 gc0, .string XN, .int .i64 p1, .slice a8 NB c8, .slice a11 NG c11, .bool true], .int .i64 0]) = .returned (.tuple #[.agg #[.string x0, .int .i64 p0, .slice b0 bn0 bc0, .slice g0 gn0 gc0, .string XN, .int .i64 p1, .slice ba LB.length bc, .slice ga LG.length gc, .bool true], .int .i64 0]) ∧ IRow _ ba LB ∧ IRow _ ga LG ∧ LB.length ≤ bc ∧ LG.length ≤ gc ∧ Below w.heap.size w _))
  replace kE := Rg.hid kE
  have d0' : w12.cell? ⟨B, 0, none⟩ = some (.string x0) := kB12.cell 0
  have d1' : w12.cell? ⟨B, 1, none⟩ = some (.int .i64 p0) := kB12.cell 1
  have d2' : w12.cell? ⟨B, 2, none⟩ = some (.slice b0 bn0 bc0) := kB12.cell 2
  have d3' : w12.cell? ⟨B, 3, none⟩ = some (.slice g0 gn0 gc0) := kB12.cell 3
  have d4' : w12.cell? ⟨B, 4, none⟩ = some (.string XN) := kB12.cell 4
  have d5' : w12.cell? ⟨B, 5, none⟩ = some (.int .i64 p1) := kB12.cell 5
  have d6' : w12.cell? ⟨B, 6, none⟩ = some (.slice a8 NB c8) := kB12.cell 6
  have d7' : w12.cell? ⟨B, 7, none⟩ = some (.slice a11 NG c11) := kB12.cell 7
  have d8' : w12.cell? ⟨B, 8, none⟩ = some (.bool true) := kB12.cell 8
  have r0 : w12.cell? ⟨R, 0, none⟩ = some (.string ⟨#[]⟩) := kR12.cell 0
  have r1 : w12.cell? ⟨R, 1, none⟩ = some (.int .i64 0) := kR12.cell 1
  have r2 : w12.cell? ⟨R, 2, none⟩ = some (.slice none 0 0) := kR12.cell 2
  have r3 : w12.cell? ⟨R, 3, none⟩ = some (.slice none 0 0) := kR12.cell 3
  have r4 : w12.cell? ⟨R, 4, none⟩ = some (.string ⟨#[]⟩) := kR12.cell 4
  have r5 : w12.cell? ⟨R, 5, none⟩ = some (.int .i64 0) := kR12.cell 5
  have r6 : w12.cell? ⟨R, 6, none⟩ = some (.slice none 0 0) := kR12.cell 6
  have r7 : w12.cell? ⟨R, 7, none⟩ = some (.slice none 0 0) := kR12.cell 7
  have r8 : w12.cell? ⟨R, 8, none⟩ = some (.bool false) := kR12.cell 8
  have rf := kR12.thaw
  clear oE kR12 kB12 hb12 hrB hrG hNB hNG
  go_wp2
  replace kE := kE.out
  replace post := post.out
  generalize World.setCell _ _ _ = WE at *
  exact bodyPost_ret (v := .tuple #[.agg #[.string x0, .int .i64 p0, .slice b0 bn0 bc0, .slice g0 gn0 gc0, .string XN, .int .i64 p1, .slice a8 NB c8, .slice a11 NG c11, .bool true], .int .i64 0]) (by simp [results, Try.results23, go_sem, kE.cell]) rfl post
end Go.Proofs.Ytalleocmnnnchaa
