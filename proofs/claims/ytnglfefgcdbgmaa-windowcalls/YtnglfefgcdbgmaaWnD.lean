/-
  Walks of layer 14: the document's Put.
-/
import Derived.Test.YtnglfefgcdbgmaaWnC
namespace Go.Proofs.Ytnglfefgcdbgmaa
open Go.RowKit
set_option maxHeartbeats 4000000 in
set_option maxRecDepth 100000 in
theorem rput_wrong (m s b : Int) (a : Option Addr) (n c : Nat) (x : ByteArray) (l : List ByteArray) (hnl : Hid (n = l.length)) (hn : n ≤ 1000) (w : World) (hr : Hid (SRow w a l)) (HR : Hid (∀ g cap W, Calls Try.prog 31 #[.agg #[.int .i64 m, .int .i64 s, .int .i64 b, .slice (some ⟨g, 0, none⟩) n cap]] W fun e w' => e = .returned (.bool false) ∧ Below W.heap.size W w')) :
    Calls Try.prog 16 #[.agg #[.int .i64 m, .int .i64 s, .int .i64 b, .slice a n c], .string x] w fun e w' => ∃ g cap, e = .returned (.tuple #[.agg #[.int .i64 m, .int .i64 s, .int .i64 b, .slice (some ⟨g, 0, none⟩) n cap], .int .i64 0, .int .i64 1]) ∧ SRow w' (some ⟨g, 0, none⟩) l ∧ n ≤ cap ∧ Below w.heap.size w w'  := by
  have kB1 : Hid (Rg.Bk w.heap.size [.int .i64 m, .int .i64 s, .int .i64 b, .slice a n c] 24 ((w.alloc (.cells #[.int .i64 m, .int .i64 s, .int .i64 b, .slice a n c] 24)).alloc (.cells #[.int .i64 0, .int .i64 0, .int .i64 0, .slice none 0 0] 24))) := (Rg.Bk.new rfl).old _
  have kR1 : Hid (Rg.Bk (w.heap.size + 1) [.int .i64 0, .int .i64 0, .int .i64 0, .slice none 0 0] 24 ((w.alloc (.cells #[.int .i64 m, .int .i64 s, .int .i64 b, .slice a n c] 24)).alloc (.cells #[.int .i64 0, .int .i64 0, .int .i64 0, .slice none 0 0] 24))) := Rg.Bk.new (by simp)
  have hb1 := Rg.hid (Rg.al2 w (.cells #[.int .i64 m, .int .i64 s, .int .i64 b, .slice a n c] 24) (.cells #[.int .i64 0, .int .i64 0, .int .i64 0, .slice none 0 0] 24))
  go_enter Try.func16, Try.ntmps16
  go_upto_region 1 with fail
  generalize World.alloc _ _ = w1 at *
  obtain ⟨B, hB⟩ : ∃ B, B = w.heap.size := ⟨_, rfl⟩
  obtain ⟨R, hR⟩ : ∃ R, R = w.heap.size + 1 := ⟨_, rfl⟩
  rw [← hR] at kR1 ⊢
  rw [← hB] at kB1 ⊢
  have hBR : B ≠ R := by omega
  have hBw : w.heap.size ≤ B := by omega
  have hRw : w.heap.size ≤ R := by omega
  clear hB hR
  have z0 : w1.cell? ⟨B, 0, none⟩ = some (.int .i64 m) := kB1.out.cell 0
  have z1 : w1.cell? ⟨B, 1, none⟩ = some (.int .i64 s) := kB1.out.cell 1
  have z2 : w1.cell? ⟨B, 2, none⟩ = some (.int .i64 b) := kB1.out.cell 2
  have z3 : w1.cell? ⟨B, 3, none⟩ = some (.slice a n c) := kB1.out.cell 3
  have HO1 : Hid (Calls Try.prog 30 #[.agg #[.int .i64 m, .int .i64 s, .int .i64 b, .slice a n c]] w1 fun e w' => ∃ g cap rest, e = .returned (.agg #[.int .i64 m, .int .i64 s, .int .i64 b, .slice (some ⟨g, 0, none⟩) n cap]) ∧ (w'.cell? ⟨B, 0, none⟩ = some (.int .i64 m) ∧ w'.cell? ⟨B, 1, none⟩ = some (.int .i64 s) ∧ w'.cell? ⟨B, 2, none⟩ = some (.int .i64 b) ∧ w'.cell? ⟨B, 3, none⟩ = some (.slice a n c) ∧ ∀ i, w'.frozen? ⟨B, i, none⟩ = false) ∧ g ≠ B ∧ g ≠ R ∧ Hid (Rg.Bk B [.int .i64 m, .int .i64 s, .int .i64 b, .slice (some ⟨g, 0, none⟩) n cap] 24 ((((w'.setCell ⟨B, 0, none⟩ (.int .i64 m)).setCell ⟨B, 1, none⟩ (.int .i64 s)).setCell ⟨B, 2, none⟩ (.int .i64 b)).setCell ⟨B, 3, none⟩ (.slice (some ⟨g, 0, none⟩) n cap))) ∧ Hid (Rg.Bk R [.int .i64 0, .int .i64 0, .int .i64 0, .slice none 0 0] 24 ((((w'.setCell ⟨B, 0, none⟩ (.int .i64 m)).setCell ⟨B, 1, none⟩ (.int .i64 s)).setCell ⟨B, 2, none⟩ (.int .i64 b)).setCell ⟨B, 3, none⟩ (.slice (some ⟨g, 0, none⟩) n cap))) ∧ Hid (strE.Own w.heap.size ((((w'.setCell ⟨B, 0, none⟩ (.int .i64 m)).setCell ⟨B, 1, none⟩ (.int .i64 s)).setCell ⟨B, 2, none⟩ (.int .i64 b)).setCell ⟨B, 3, none⟩ (.slice (some ⟨g, 0, none⟩) n cap)) g cap l rest) ∧ Hid (Below w.heap.size w ((((w'.setCell ⟨B, 0, none⟩ (.int .i64 m)).setCell ⟨B, 1, none⟩ (.int .i64 s)).setCell ⟨B, 2, none⟩ (.int .i64 b)).setCell ⟨B, 3, none⟩ (.slice (some ⟨g, 0, none⟩) n cap)))) :=
    (rown_go m s b a n c l hnl (Nat.le_trans hn (by decide)) w1 (hr.out.below hb1.out)).mono fun e w' ⟨g, cap, rest, h1, h2, h3⟩ => by
      have k5 := kB1.out.below h3 kB1.out.lt
      have r5 := kR1.out.below h3 kR1.out.lt
      have hgB : g ≠ B := fun e => by have := h2.out.new; have := kB1.out.lt; omega
      have hgR : g ≠ R := fun e => by have := h2.out.new; have := kR1.out.lt; omega
      obtain ⟨kE, oE⟩ := Rg.ret4 k5 rfl (.int .i64 m) (.int .i64 s) (.int .i64 b) (.slice (some ⟨g, 0, none⟩) n cap)
      exact ⟨g, cap, rest, h1, ⟨k5.cell 0, k5.cell 1, k5.cell 2, k5.cell 3, k5.thaw⟩, hgB, hgR, kE, r5.same (oE.block R (fun e => hBR e.symm)), ⟨(h2.out.same (oE.block g hgB)).blk, Nat.le_trans hb1.out.size h2.out.new, h2.out.le, h2.out.max, h2.out.fit⟩, (Rg.chain hb1.out h3).trans (oE.bel hBw)⟩
  clear hr kB1 kR1 hb1
  go_upto_region 2 with (go_at_call 30; refine HO1.out.mono ?_; rintro e w2 ⟨g, cap, rest, rfl, ⟨y0, y1, y2, y3, yf⟩, hgB, hgR, kB2, kR2, ho2, hb2⟩)
  generalize World.setCell _ _ _ = w3 at *
  replace kB2 := kB2.out
  clear z0 z1 z2 z3 y0 y1 y2 y3 yf HO1
  have z0 : w3.cell? ⟨B, 0, none⟩ = some (.int .i64 m) := kB2.cell 0
  have z1 : w3.cell? ⟨B, 1, none⟩ = some (.int .i64 s) := kB2.cell 1
  have z2 : w3.cell? ⟨B, 2, none⟩ = some (.int .i64 b) := kB2.cell 2
  have z3 : w3.cell? ⟨B, 3, none⟩ = some (.slice (some ⟨g, 0, none⟩) n cap) := kB2.cell 3
  have HR3 := Rg.hid (HR.out g cap w3)
  go_upto_region 3 with (go_at_call 31; refine HR3.out.mono ?_; rintro e w4 ⟨rfl, b4⟩)
  have kB4 := kB2.below b4 kB2.lt
  have kR4 := kR2.out.below b4 kR2.out.lt
  have ho4 := Rg.hid (ho2.out.below b4)
  have hb4 := Rg.hid (Rg.chain hb2.out b4)
  clear z0 z1 z2 z3 kB2 kR2 ho2 hb2 b4 HR HR3
  obtain ⟨kE, oE⟩ := Rg.ret4 kR4 rfl (.int .i64 m) (.int .i64 s) (.int .i64 b) (.slice (some ⟨g, 0, none⟩) n cap)
  have hb5 := Rg.hid (hb4.out.trans (oE.bel hRw))
  have ho5 := Rg.hid (ho4.out.same (oE.block g hgR))
  have z0 : w4.cell? ⟨B, 0, none⟩ = some (.int .i64 m) := kB4.cell 0
  have z1 : w4.cell? ⟨B, 1, none⟩ = some (.int .i64 s) := kB4.cell 1
  have z2 : w4.cell? ⟨B, 2, none⟩ = some (.int .i64 b) := kB4.cell 2
  have z3 : w4.cell? ⟨B, 3, none⟩ = some (.slice (some ⟨g, 0, none⟩) n cap) := kB4.cell 3
  have r0 : w4.cell? ⟨R, 0, none⟩ = some (.int .i64 0) := kR4.cell 0
  have r1 : w4.cell? ⟨R, 1, none⟩ = some (.int .i64 0) := kR4.cell 1
  have r2 : w4.cell? ⟨R, 2, none⟩ = some (.int .i64 0) := kR4.cell 2
  have r3 : w4.cell? ⟨R, 3, none⟩ = some (.slice none 0 0) := kR4.cell 3
  have rf := kR4.thaw
  replace kE := Rg.hid kE
  clear oE kB4 kR4 hb4 ho4
  go_wp2
  replace kE := kE.out
  replace hb5 := hb5.out
  replace ho5 := ho5.out
  generalize World.setCell _ _ _ = WE at *
  exact bodyPost_ret (v := .tuple #[.agg #[.int .i64 m, .int .i64 s, .int .i64 b, .slice (some ⟨g, 0, none⟩) n cap], .int .i64 0, .int .i64 1]) (by simp [results, Try.results16, go_sem, kE.cell]) rfl ⟨g, cap, rfl, SRow.of ho5.toRow, by rw [hnl.out]; exact ho5.le, hb5⟩

set_option maxHeartbeats 4000000 in
set_option maxRecDepth 100000 in
theorem rput_full (m s b : Int) (a : Option Addr) (n c : Nat) (x : ByteArray) (l : List ByteArray) (hnl : Hid (n = l.length)) (hn : n ≤ 1000) (w : World) (hr : Hid (SRow w a l)) (HR : Hid (∀ g cap W, Calls Try.prog 31 #[.agg #[.int .i64 m, .int .i64 s, .int .i64 b, .slice (some ⟨g, 0, none⟩) n cap]] W fun e w' => e = .returned (.bool true) ∧ Below W.heap.size W w')) (hf : ((n : Int) == s) = true) :
    Calls Try.prog 16 #[.agg #[.int .i64 m, .int .i64 s, .int .i64 b, .slice a n c], .string x] w fun e w' => ∃ g cap, e = .returned (.tuple #[.agg #[.int .i64 m, .int .i64 s, .int .i64 b, .slice (some ⟨g, 0, none⟩) n cap], .int .i64 0, .int .i64 8]) ∧ SRow w' (some ⟨g, 0, none⟩) l ∧ n ≤ cap ∧ Below w.heap.size w w'  := by
  have kB1 : Hid (Rg.Bk w.heap.size [.int .i64 m, .int .i64 s, .int .i64 b, .slice a n c] 24 ((w.alloc (.cells #[.int .i64 m, .int .i64 s, .int .i64 b, .slice a n c] 24)).alloc (.cells #[.int .i64 0, .int .i64 0, .int .i64 0, .slice none 0 0] 24))) := (Rg.Bk.new rfl).old _
  have kR1 : Hid (Rg.Bk (w.heap.size + 1) [.int .i64 0, .int .i64 0, .int .i64 0, .slice none 0 0] 24 ((w.alloc (.cells #[.int .i64 m, .int .i64 s, .int .i64 b, .slice a n c] 24)).alloc (.cells #[.int .i64 0, .int .i64 0, .int .i64 0, .slice none 0 0] 24))) := Rg.Bk.new (by simp)
  have hb1 := Rg.hid (Rg.al2 w (.cells #[.int .i64 m, .int .i64 s, .int .i64 b, .slice a n c] 24) (.cells #[.int .i64 0, .int .i64 0, .int .i64 0, .slice none 0 0] 24))
  go_enter Try.func16, Try.ntmps16
  go_upto_region 1 with fail
  generalize World.alloc _ _ = w1 at *
  obtain ⟨B, hB⟩ : ∃ B, B = w.heap.size := ⟨_, rfl⟩
  obtain ⟨R, hR⟩ : ∃ R, R = w.heap.size + 1 := ⟨_, rfl⟩
  rw [← hR] at kR1 ⊢
  rw [← hB] at kB1 ⊢
  have hBR : B ≠ R := by omega
  have hBw : w.heap.size ≤ B := by omega
  have hRw : w.heap.size ≤ R := by omega
  clear hB hR
  have z0 : w1.cell? ⟨B, 0, none⟩ = some (.int .i64 m) := kB1.out.cell 0
  have z1 : w1.cell? ⟨B, 1, none⟩ = some (.int .i64 s) := kB1.out.cell 1
  have z2 : w1.cell? ⟨B, 2, none⟩ = some (.int .i64 b) := kB1.out.cell 2
  have z3 : w1.cell? ⟨B, 3, none⟩ = some (.slice a n c) := kB1.out.cell 3
  have HO1 : Hid (Calls Try.prog 30 #[.agg #[.int .i64 m, .int .i64 s, .int .i64 b, .slice a n c]] w1 fun e w' => ∃ g cap rest, e = .returned (.agg #[.int .i64 m, .int .i64 s, .int .i64 b, .slice (some ⟨g, 0, none⟩) n cap]) ∧ (w'.cell? ⟨B, 0, none⟩ = some (.int .i64 m) ∧ w'.cell? ⟨B, 1, none⟩ = some (.int .i64 s) ∧ w'.cell? ⟨B, 2, none⟩ = some (.int .i64 b) ∧ w'.cell? ⟨B, 3, none⟩ = some (.slice a n c) ∧ ∀ i, w'.frozen? ⟨B, i, none⟩ = false) ∧ g ≠ B ∧ g ≠ R ∧ Hid (Rg.Bk B [.int .i64 m, .int .i64 s, .int .i64 b, .slice (some ⟨g, 0, none⟩) n cap] 24 ((((w'.setCell ⟨B, 0, none⟩ (.int .i64 m)).setCell ⟨B, 1, none⟩ (.int .i64 s)).setCell ⟨B, 2, none⟩ (.int .i64 b)).setCell ⟨B, 3, none⟩ (.slice (some ⟨g, 0, none⟩) n cap))) ∧ Hid (Rg.Bk R [.int .i64 0, .int .i64 0, .int .i64 0, .slice none 0 0] 24 ((((w'.setCell ⟨B, 0, none⟩ (.int .i64 m)).setCell ⟨B, 1, none⟩ (.int .i64 s)).setCell ⟨B, 2, none⟩ (.int .i64 b)).setCell ⟨B, 3, none⟩ (.slice (some ⟨g, 0, none⟩) n cap))) ∧ Hid (strE.Own w.heap.size ((((w'.setCell ⟨B, 0, none⟩ (.int .i64 m)).setCell ⟨B, 1, none⟩ (.int .i64 s)).setCell ⟨B, 2, none⟩ (.int .i64 b)).setCell ⟨B, 3, none⟩ (.slice (some ⟨g, 0, none⟩) n cap)) g cap l rest) ∧ Hid (Below w.heap.size w ((((w'.setCell ⟨B, 0, none⟩ (.int .i64 m)).setCell ⟨B, 1, none⟩ (.int .i64 s)).setCell ⟨B, 2, none⟩ (.int .i64 b)).setCell ⟨B, 3, none⟩ (.slice (some ⟨g, 0, none⟩) n cap)))) :=
    (rown_go m s b a n c l hnl (Nat.le_trans hn (by decide)) w1 (hr.out.below hb1.out)).mono fun e w' ⟨g, cap, rest, h1, h2, h3⟩ => by
      have k5 := kB1.out.below h3 kB1.out.lt
      have r5 := kR1.out.below h3 kR1.out.lt
      have hgB : g ≠ B := fun e => by have := h2.out.new; have := kB1.out.lt; omega
      have hgR : g ≠ R := fun e => by have := h2.out.new; have := kR1.out.lt; omega
      obtain ⟨kE, oE⟩ := Rg.ret4 k5 rfl (.int .i64 m) (.int .i64 s) (.int .i64 b) (.slice (some ⟨g, 0, none⟩) n cap)
      exact ⟨g, cap, rest, h1, ⟨k5.cell 0, k5.cell 1, k5.cell 2, k5.cell 3, k5.thaw⟩, hgB, hgR, kE, r5.same (oE.block R (fun e => hBR e.symm)), ⟨(h2.out.same (oE.block g hgB)).blk, Nat.le_trans hb1.out.size h2.out.new, h2.out.le, h2.out.max, h2.out.fit⟩, (Rg.chain hb1.out h3).trans (oE.bel hBw)⟩
  clear hr kB1 kR1 hb1
  go_upto_region 2 with (go_at_call 30; refine HO1.out.mono ?_; rintro e w2 ⟨g, cap, rest, rfl, ⟨y0, y1, y2, y3, yf⟩, hgB, hgR, kB2, kR2, ho2, hb2⟩)
  generalize World.setCell _ _ _ = w3 at *
  replace kB2 := kB2.out
  clear z0 z1 z2 z3 y0 y1 y2 y3 yf HO1
  have z0 : w3.cell? ⟨B, 0, none⟩ = some (.int .i64 m) := kB2.cell 0
  have z1 : w3.cell? ⟨B, 1, none⟩ = some (.int .i64 s) := kB2.cell 1
  have z2 : w3.cell? ⟨B, 2, none⟩ = some (.int .i64 b) := kB2.cell 2
  have z3 : w3.cell? ⟨B, 3, none⟩ = some (.slice (some ⟨g, 0, none⟩) n cap) := kB2.cell 3
  have HR3 := Rg.hid (HR.out g cap w3)
  go_upto_region 4 with (go_at_call 31; refine HR3.out.mono ?_; rintro e w4 ⟨rfl, b4⟩)
  have kB4 := kB2.below b4 kB2.lt
  have kR4 := kR2.out.below b4 kR2.out.lt
  have ho4 := Rg.hid (ho2.out.below b4)
  have hb4 := Rg.hid (Rg.chain hb2.out b4)
  clear z0 z1 z2 z3 kB2 kR2 ho2 hb2 b4 HR HR3
  obtain ⟨kE, oE⟩ := Rg.ret4 kR4 rfl (.int .i64 m) (.int .i64 s) (.int .i64 b) (.slice (some ⟨g, 0, none⟩) n cap)
  have hb5 := Rg.hid (hb4.out.trans (oE.bel hRw))
  have ho5 := Rg.hid (ho4.out.same (oE.block g hgR))
  have z0 : w4.cell? ⟨B, 0, none⟩ = some (.int .i64 m) := kB4.cell 0
  have z1 : w4.cell? ⟨B, 1, none⟩ = some (.int .i64 s) := kB4.cell 1
  have z2 : w4.cell? ⟨B, 2, none⟩ = some (.int .i64 b) := kB4.cell 2
  have z3 : w4.cell? ⟨B, 3, none⟩ = some (.slice (some ⟨g, 0, none⟩) n cap) := kB4.cell 3
  have r0 : w4.cell? ⟨R, 0, none⟩ = some (.int .i64 0) := kR4.cell 0
  have r1 : w4.cell? ⟨R, 1, none⟩ = some (.int .i64 0) := kR4.cell 1
  have r2 : w4.cell? ⟨R, 2, none⟩ = some (.int .i64 0) := kR4.cell 2
  have r3 : w4.cell? ⟨R, 3, none⟩ = some (.slice none 0 0) := kR4.cell 3
  have rf := kR4.thaw
  replace kE := Rg.hid kE
  clear oE kB4 kR4 hb4 ho4
  go_wp2
  replace kE := kE.out
  replace hb5 := hb5.out
  replace ho5 := ho5.out
  generalize World.setCell _ _ _ = WE at *
  exact bodyPost_ret (v := .tuple #[.agg #[.int .i64 m, .int .i64 s, .int .i64 b, .slice (some ⟨g, 0, none⟩) n cap], .int .i64 0, .int .i64 8]) (by simp [results, Try.results16, go_sem, kE.cell]) rfl ⟨g, cap, rfl, SRow.of ho5.toRow, by rw [hnl.out]; exact ho5.le, hb5⟩

set_option maxHeartbeats 4000000 in
set_option maxRecDepth 100000 in
theorem rput_right (m s b N Z : Int) (a : Option Addr) (n N1 c : Nat) (x : ByteArray) (l : List ByteArray) (hnl : Hid (n = l.length)) (hn : n ≤ 1000) (w : World) (hr : Hid (SRow w a l)) (HR : Hid (∀ g cap W, Calls Try.prog 31 #[.agg #[.int .i64 m, .int .i64 s, .int .i64 b, .slice (some ⟨g, 0, none⟩) n cap]] W fun e w' => e = .returned (.bool true) ∧ Below W.heap.size W w')) (hf : ((n : Int) == s) = false) (hN1 : Hid (N1 = n + 1)) (q0 : wrap64 (b + (n : Int)) = Z) (q1 : Z.tmod m = N) (q2 : ¬ m = 0) :
    Calls Try.prog 16 #[.agg #[.int .i64 m, .int .i64 s, .int .i64 b, .slice a n c], .string x] w fun e w' => ∃ g cap, e = .returned (.tuple #[.agg #[.int .i64 m, .int .i64 s, .int .i64 b, .slice (some ⟨g, 0, none⟩) N1 cap], .int .i64 N, .int .i64 0]) ∧ SRow w' (some ⟨g, 0, none⟩) (l ++ [x]) ∧ N1 ≤ cap ∧ Below w.heap.size w w' := by
  have kB1 : Hid (Rg.Bk w.heap.size [.int .i64 m, .int .i64 s, .int .i64 b, .slice a n c] 24 ((w.alloc (.cells #[.int .i64 m, .int .i64 s, .int .i64 b, .slice a n c] 24)).alloc (.cells #[.int .i64 0, .int .i64 0, .int .i64 0, .slice none 0 0] 24))) := (Rg.Bk.new rfl).old _
  have kR1 : Hid (Rg.Bk (w.heap.size + 1) [.int .i64 0, .int .i64 0, .int .i64 0, .slice none 0 0] 24 ((w.alloc (.cells #[.int .i64 m, .int .i64 s, .int .i64 b, .slice a n c] 24)).alloc (.cells #[.int .i64 0, .int .i64 0, .int .i64 0, .slice none 0 0] 24))) := Rg.Bk.new (by simp)
  have hb1 := Rg.hid (Rg.al2 w (.cells #[.int .i64 m, .int .i64 s, .int .i64 b, .slice a n c] 24) (.cells #[.int .i64 0, .int .i64 0, .int .i64 0, .slice none 0 0] 24))
  go_enter Try.func16, Try.ntmps16
  go_upto_region 1 with fail
  generalize World.alloc _ _ = w1 at *
  obtain ⟨B, hB⟩ : ∃ B, B = w.heap.size := ⟨_, rfl⟩
  obtain ⟨R, hR⟩ : ∃ R, R = w.heap.size + 1 := ⟨_, rfl⟩
  rw [← hR] at kR1 ⊢
  rw [← hB] at kB1 ⊢
  have hBR : B ≠ R := by omega
  have hBw : w.heap.size ≤ B := by omega
  have hRw : w.heap.size ≤ R := by omega
  clear hB hR
  have z0 : w1.cell? ⟨B, 0, none⟩ = some (.int .i64 m) := kB1.out.cell 0
  have z1 : w1.cell? ⟨B, 1, none⟩ = some (.int .i64 s) := kB1.out.cell 1
  have z2 : w1.cell? ⟨B, 2, none⟩ = some (.int .i64 b) := kB1.out.cell 2
  have z3 : w1.cell? ⟨B, 3, none⟩ = some (.slice a n c) := kB1.out.cell 3
  have HO1 : Hid (Calls Try.prog 30 #[.agg #[.int .i64 m, .int .i64 s, .int .i64 b, .slice a n c]] w1 fun e w' => ∃ g cap rest, e = .returned (.agg #[.int .i64 m, .int .i64 s, .int .i64 b, .slice (some ⟨g, 0, none⟩) n cap]) ∧ (w'.cell? ⟨B, 0, none⟩ = some (.int .i64 m) ∧ w'.cell? ⟨B, 1, none⟩ = some (.int .i64 s) ∧ w'.cell? ⟨B, 2, none⟩ = some (.int .i64 b) ∧ w'.cell? ⟨B, 3, none⟩ = some (.slice a n c) ∧ ∀ i, w'.frozen? ⟨B, i, none⟩ = false) ∧ g ≠ B ∧ g ≠ R ∧ Hid (Rg.Bk B [.int .i64 m, .int .i64 s, .int .i64 b, .slice (some ⟨g, 0, none⟩) n cap] 24 ((((w'.setCell ⟨B, 0, none⟩ (.int .i64 m)).setCell ⟨B, 1, none⟩ (.int .i64 s)).setCell ⟨B, 2, none⟩ (.int .i64 b)).setCell ⟨B, 3, none⟩ (.slice (some ⟨g, 0, none⟩) n cap))) ∧ Hid (Rg.Bk R [.int .i64 0, .int .i64 0, .int .i64 0, .slice none 0 0] 24 ((((w'.setCell ⟨B, 0, none⟩ (.int .i64 m)).setCell ⟨B, 1, none⟩ (.int .i64 s)).setCell ⟨B, 2, none⟩ (.int .i64 b)).setCell ⟨B, 3, none⟩ (.slice (some ⟨g, 0, none⟩) n cap))) ∧ Hid (strE.Own w.heap.size ((((w'.setCell ⟨B, 0, none⟩ (.int .i64 m)).setCell ⟨B, 1, none⟩ (.int .i64 s)).setCell ⟨B, 2, none⟩ (.int .i64 b)).setCell ⟨B, 3, none⟩ (.slice (some ⟨g, 0, none⟩) n cap)) g cap l rest) ∧ Hid (Below w.heap.size w ((((w'.setCell ⟨B, 0, none⟩ (.int .i64 m)).setCell ⟨B, 1, none⟩ (.int .i64 s)).setCell ⟨B, 2, none⟩ (.int .i64 b)).setCell ⟨B, 3, none⟩ (.slice (some ⟨g, 0, none⟩) n cap)))) :=
    (rown_go m s b a n c l hnl (Nat.le_trans hn (by decide)) w1 (hr.out.below hb1.out)).mono fun e w' ⟨g, cap, rest, h1, h2, h3⟩ => by
      have k5 := kB1.out.below h3 kB1.out.lt
      have r5 := kR1.out.below h3 kR1.out.lt
      have hgB : g ≠ B := fun e => by have := h2.out.new; have := kB1.out.lt; omega
      have hgR : g ≠ R := fun e => by have := h2.out.new; have := kR1.out.lt; omega
      obtain ⟨kE, oE⟩ := Rg.ret4 k5 rfl (.int .i64 m) (.int .i64 s) (.int .i64 b) (.slice (some ⟨g, 0, none⟩) n cap)
      exact ⟨g, cap, rest, h1, ⟨k5.cell 0, k5.cell 1, k5.cell 2, k5.cell 3, k5.thaw⟩, hgB, hgR, kE, r5.same (oE.block R (fun e => hBR e.symm)), ⟨(h2.out.same (oE.block g hgB)).blk, Nat.le_trans hb1.out.size h2.out.new, h2.out.le, h2.out.max, h2.out.fit⟩, (Rg.chain hb1.out h3).trans (oE.bel hBw)⟩
  clear hr kB1 kR1 hb1
  go_upto_region 2 with (go_at_call 30; refine HO1.out.mono ?_; rintro e w2 ⟨g, cap, rest, rfl, ⟨y0, y1, y2, y3, yf⟩, hgB, hgR, kB2, kR2, ho2, hb2⟩)
  generalize World.setCell _ _ _ = w3 at *
  replace kB2 := kB2.out
  clear z0 z1 z2 z3 y0 y1 y2 y3 yf HO1
  have z0 : w3.cell? ⟨B, 0, none⟩ = some (.int .i64 m) := kB2.cell 0
  have z1 : w3.cell? ⟨B, 1, none⟩ = some (.int .i64 s) := kB2.cell 1
  have z2 : w3.cell? ⟨B, 2, none⟩ = some (.int .i64 b) := kB2.cell 2
  have z3 : w3.cell? ⟨B, 3, none⟩ = some (.slice (some ⟨g, 0, none⟩) n cap) := kB2.cell 3
  have HR3 := Rg.hid (HR.out g cap w3)
  go_upto_region 4 with (go_at_call 31; refine HR3.out.mono ?_; rintro e w4 ⟨rfl, b4⟩)
  have kB4 := kB2.below b4 kB2.lt
  have kR4 := kR2.out.below b4 kR2.out.lt
  have ho4 := Rg.hid (ho2.out.below b4)
  have hb4 := Rg.hid (Rg.chain hb2.out b4)
  clear z0 z1 z2 z3 kB2 kR2 ho2 hb2 b4 HR HR3
  have z0 : w4.cell? ⟨B, 0, none⟩ = some (.int .i64 m) := kB4.cell 0
  have z1 : w4.cell? ⟨B, 1, none⟩ = some (.int .i64 s) := kB4.cell 1
  have z2 : w4.cell? ⟨B, 2, none⟩ = some (.int .i64 b) := kB4.cell 2
  have z3 : w4.cell? ⟨B, 3, none⟩ = some (.slice (some ⟨g, 0, none⟩) n cap) := kB4.cell 3
  go_upto_region 7 with fail
  have bx := Rg.al1 w4 (.cells #[.string x] 9)
  have hx : SRow (w4.alloc (.cells #[.string x] 9)) (some ⟨w4.heap.size, 0, none⟩) [x] := .inr ⟨w4.heap.size, 0, rfl, by simp, fun t u ht => by rw [Nat.zero_add, (Rg.Bk.new (C := [.string x]) rfl).cell]; exact ht⟩
  have hap : ∃ v' W', (Builtin.append_ #[22, 22] 22 #[.slice (some ⟨g, 0, none⟩) n cap, .slice (some ⟨w4.heap.size, 0, none⟩) 1 1]).run Try.prog (w4.alloc (.cells #[.string x] 9)) = .ok v' W' ∧ ∃ g' cap', v' = .slice (some ⟨g', 0, none⟩) N1 cap' ∧ W'.cell? ⟨B, 3, none⟩ = some (.slice (some ⟨g, 0, none⟩) n cap) ∧ (∀ i, W'.frozen? ⟨B, i, none⟩ = false) ∧ Hid (SRow (W'.setCell ⟨B, 3, none⟩ (.slice (some ⟨g', 0, none⟩) N1 cap')) (some ⟨g', 0, none⟩) (l ++ [x])) ∧ Hid (N1 ≤ cap') ∧ Hid (Rg.Bk B [.int .i64 m, .int .i64 s, .int .i64 b, .slice (some ⟨g', 0, none⟩) N1 cap'] 24 (W'.setCell ⟨B, 3, none⟩ (.slice (some ⟨g', 0, none⟩) N1 cap'))) ∧ Hid (Rg.Bk R [.int .i64 0, .int .i64 0, .int .i64 0, .slice none 0 0] 24 (W'.setCell ⟨B, 3, none⟩ (.slice (some ⟨g', 0, none⟩) N1 cap'))) ∧ Hid (Below w.heap.size w (W'.setCell ⟨B, 3, none⟩ (.slice (some ⟨g', 0, none⟩) N1 cap'))) := by
    obtain ⟨g', cap', rest', W', h1, h2, h3, h4⟩ := app_texts (ho4.out.below bx) [x] (some ⟨w4.heap.size, 0, none⟩) 1 hx (Nat.le_trans hb4.out.size bx.size) (by rw [← hnl.out]; show n + 1 ≤ _; omega)
    have k5 := (kB4.old (.cells #[.string x] 9)).same (h4 B (kB4.old _).lt (fun e => hgB e.symm))
    have r5 := (kR4.old (.cells #[.string x] 9)).same (h4 R (kR4.old _).lt (fun e => hgR e.symm))
    have o5 := Rg.Only.setCell W' B 3 (.slice (some ⟨g', 0, none⟩) N1 cap')
    have hle := h2.le
    rw [List.length_append, ← hnl.out, show n + [x].length = N1 from hN1.out.symm] at hle
    rw [← hnl.out, show n + [x].length = N1 from hN1.out.symm] at h1
    exact ⟨_, W', h1, g', cap', rfl, k5.cell 3, k5.thaw, (SRow.of h2.toRow).only k5 (fun x h => by cases h) o5, hle, k5.set 3 _, r5.other (fun e => hBR e.symm) _, ((hb4.out.trans (bx.mono hb4.out.size)).trans h3).trans (o5.bel hBw)⟩
  obtain ⟨v', w5, hap, g', cap', rfl, y3, yf, hs5, hc5, kB5, kR5, hb5⟩ := hap
  replace hap := Rg.hid hap
  clear bx hx ho4 hb4 kB4 kR4
  go_upto_region 8 with (at_builtin; refine Rg.wpList_append_run rfl (.tmp 31) (.tmp 33) 22 rfl _ _ rfl rfl _ _ hap.out ?_)
  generalize World.setCell _ _ _ = w6 at *
  replace kB5 := kB5.out
  replace kR5 := kR5.out
  clear z0 z1 z2 z3 y3 yf hap
  obtain ⟨kE, oE⟩ := Rg.ret4 kR5 rfl (.int .i64 m) (.int .i64 s) (.int .i64 b) (.slice (some ⟨g', 0, none⟩) N1 cap')
  have hb7 := Rg.hid (hb5.out.trans (oE.bel hRw))
  have hs7 := Rg.hid (hs5.out.only kR5 (fun x h => by cases h) oE)
  have z0 : w6.cell? ⟨B, 0, none⟩ = some (.int .i64 m) := kB5.cell 0
  have z1 : w6.cell? ⟨B, 1, none⟩ = some (.int .i64 s) := kB5.cell 1
  have z2 : w6.cell? ⟨B, 2, none⟩ = some (.int .i64 b) := kB5.cell 2
  have z3 : w6.cell? ⟨B, 3, none⟩ = some (.slice (some ⟨g', 0, none⟩) N1 cap') := kB5.cell 3
  have r0 : w6.cell? ⟨R, 0, none⟩ = some (.int .i64 0) := kR5.cell 0
  have r1 : w6.cell? ⟨R, 1, none⟩ = some (.int .i64 0) := kR5.cell 1
  have r2 : w6.cell? ⟨R, 2, none⟩ = some (.int .i64 0) := kR5.cell 2
  have r3 : w6.cell? ⟨R, 3, none⟩ = some (.slice none 0 0) := kR5.cell 3
  have rf := kR5.thaw
  replace kE := Rg.hid kE
  clear oE kB5 kR5 hb5 hs5
  go_wp2
  replace kE := kE.out
  replace hb7 := hb7.out
  replace hs7 := hs7.out
  generalize World.setCell _ _ _ = WE at *
  exact bodyPost_ret (v := .tuple #[.agg #[.int .i64 m, .int .i64 s, .int .i64 b, .slice (some ⟨g', 0, none⟩) N1 cap'], .int .i64 N, .int .i64 0]) (by simp [results, Try.results16, go_sem, kE.cell]) rfl ⟨g', cap', rfl, hs7, hc5.out, hb7⟩
theorem rput_any (X : Wn.W) (hn : X.l.length ≤ 1000) (a : Option Addr) (c : Nat) (x : ByteArray) (w : World) (h : WAt w X a c) :
    Calls Try.prog 16 #[WV X a c, .string x] w fun e w' => PPost w (Wn.put X x) e w' := by
  have HR : ∀ g cap W, Calls Try.prog 31 #[.agg #[.int .i64 X.md, .int .i64 X.sz, .int .i64 X.bs, .slice (some ⟨g, 0, none⟩) X.l.length cap]] W fun e w' => e = .returned (.bool (Wn.rt X)) ∧ Below W.heap.size W w' := fun g cap W => rright_any X (some ⟨g, 0, none⟩) cap W
  have hn' := hn
  cases hr : Wn.rt X with
  | false =>
    rw [hr] at HR
    rw [Wn.put_arg hr]
    exact (rput_wrong _ _ _ a _ c x X.l rfl hn' w h.row HR).mono fun e w' ⟨g, cap, h1, h2, h3, h4⟩ => ⟨_, cap, h1, ⟨h2, h3⟩, h4⟩
  | true =>
    rw [hr] at HR
    have hp := Wn.rt_parts hr
    by_cases hl : (X.l.length : Int) = X.sz
    · rw [Wn.put_full hr hl]
      exact (rput_full _ _ _ a _ c x X.l rfl hn' w h.row HR (by simp [hl])).mono fun e w' ⟨g, cap, h1, h2, h3, h4⟩ => ⟨_, cap, h1, ⟨h2, h3⟩, h4⟩
    · rw [Wn.put_ok hr hl]
      have hz : 0 ≤ X.bs + (X.l.length : Int) ∧ X.bs + (X.l.length : Int) ≤ 1000 := by omega
      refine (rput_right X.md X.sz X.bs _ _ a X.l.length (X.l.length + 1) c x X.l rfl hn' w h.row HR (by simp [hl]) rfl (Wn.wrp (Int.le_trans (by decide) hz.1) (Int.le_trans hz.2 (by decide))).2 (Int.tmod_eq_emod_of_nonneg hz.1) (by omega)).mono fun e w' ⟨g, cap, h1, h2, h3, h4⟩ => ?_
      refine ⟨some ⟨g, 0, none⟩, cap, ?_, ⟨h2, ?_⟩, h4⟩
      · rw [h1]
        show _ = Ending.returned (.tuple #[WV ⟨_, _, _, _⟩ _ _, _, _])
        unfold WV
        simp only [List.length_append, List.length_singleton]
        rfl
      · simpa using h3
end Go.Proofs.Ytnglfefgcdbgmaa
