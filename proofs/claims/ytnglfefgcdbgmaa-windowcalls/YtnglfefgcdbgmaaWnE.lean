/-
  Walks of layer 14: the document's Ack, where nothing goes; its Find.
-/
import Derived.Test.YtnglfefgcdbgmaaWnD
namespace Go.Proofs.Ytnglfefgcdbgmaa
open Go.RowKit
set_option maxHeartbeats 4000000 in
set_option maxRecDepth 100000 in
theorem rack_wrong (m s b k : Int) (a : Option Addr) (n c : Nat) (l : List ByteArray) (hnl : Hid (n = l.length)) (hn : n ≤ 1000) (w : World) (hr : Hid (SRow w a l)) (HR : Hid (∀ g cap W, Calls Try.prog 31 #[.agg #[.int .i64 m, .int .i64 s, .int .i64 b, .slice (some ⟨g, 0, none⟩) n cap]] W fun e w' => e = .returned (.bool false) ∧ Below W.heap.size W w')) :
    Calls Try.prog 18 #[.agg #[.int .i64 m, .int .i64 s, .int .i64 b, .slice a n c], .int .i64 k] w fun e w' => ∃ g cap, e = .returned (.tuple #[.agg #[.int .i64 m, .int .i64 s, .int .i64 b, .slice (some ⟨g, 0, none⟩) n cap], .int .i64 0]) ∧ SRow w' (some ⟨g, 0, none⟩) l ∧ n ≤ cap ∧ Below w.heap.size w w'  := by
  have kB1 : Hid (Rg.Bk w.heap.size [.int .i64 m, .int .i64 s, .int .i64 b, .slice a n c] 24 ((w.alloc (.cells #[.int .i64 m, .int .i64 s, .int .i64 b, .slice a n c] 24)).alloc (.cells #[.int .i64 0, .int .i64 0, .int .i64 0, .slice none 0 0] 24))) := (Rg.Bk.new rfl).old _
  have kR1 : Hid (Rg.Bk (w.heap.size + 1) [.int .i64 0, .int .i64 0, .int .i64 0, .slice none 0 0] 24 ((w.alloc (.cells #[.int .i64 m, .int .i64 s, .int .i64 b, .slice a n c] 24)).alloc (.cells #[.int .i64 0, .int .i64 0, .int .i64 0, .slice none 0 0] 24))) := Rg.Bk.new (by simp)
  have hb1 := Rg.hid (Rg.al2 w (.cells #[.int .i64 m, .int .i64 s, .int .i64 b, .slice a n c] 24) (.cells #[.int .i64 0, .int .i64 0, .int .i64 0, .slice none 0 0] 24))
  go_enter Try.func18, Try.ntmps18
  go_upto_region 1 with fail
  generalize World.alloc _ _ = w1 at *
  obtain ⟨B, hB⟩ : ∃ B, B = w.heap.size := ⟨_, rfl⟩
  obtain ⟨R, hR⟩ : ∃ R, R = w.heap.size + 1 := ⟨_, rfl⟩
  rw [← hR] at kR1 ⊢
  rw [← hB] at kB1 ⊢
  have hBR : B ≠ R := by omega
  have hBw : w.heap.size ≤ B := by omega
  have hRw : w.heap.size ≤ R := by omega
  clear hB hR
  have z0 : w1.cell? ⟨B, 0, none⟩ = some (.int .i64 m) := kB1.out.cell 0
  have z1 : w1.cell? ⟨B, 1, none⟩ = some (.int .i64 s) := kB1.out.cell 1
  have z2 : w1.cell? ⟨B, 2, none⟩ = some (.int .i64 b) := kB1.out.cell 2
  have z3 : w1.cell? ⟨B, 3, none⟩ = some (.slice a n c) := kB1.out.cell 3
  have HO1 : Hid (Calls Try.prog 30 #[.agg #[.int .i64 m, .int .i64 s, .int .i64 b, .slice a n c]] w1 fun e w' => ∃ g cap rest, e = .returned (.agg #[.int .i64 m, .int .i64 s, .int .i64 b, .slice (some ⟨g, 0, none⟩) n cap]) ∧ (w'.cell? ⟨B, 0, none⟩ = some (.int .i64 m) ∧ w'.cell? ⟨B, 1, none⟩ = some (.int .i64 s) ∧ w'.cell? ⟨B, 2, none⟩ = some (.int .i64 b) ∧ w'.cell? ⟨B, 3, none⟩ = some (.slice a n c) ∧ ∀ i, w'.frozen? ⟨B, i, none⟩ = false) ∧ g ≠ B ∧ g ≠ R ∧ Hid (Rg.Bk B [.int .i64 m, .int .i64 s, .int .i64 b, .slice (some ⟨g, 0, none⟩) n cap] 24 ((((w'.setCell ⟨B, 0, none⟩ (.int .i64 m)).setCell ⟨B, 1, none⟩ (.int .i64 s)).setCell ⟨B, 2, none⟩ (.int .i64 b)).setCell ⟨B, 3, none⟩ (.slice (some ⟨g, 0, none⟩) n cap))) ∧ Hid (Rg.Bk R [.int .i64 0, .int .i64 0, .int .i64 0, .slice none 0 0] 24 ((((w'.setCell ⟨B, 0, none⟩ (.int .i64 m)).setCell ⟨B, 1, none⟩ (.int .i64 s)).setCell ⟨B, 2, none⟩ (.int .i64 b)).setCell ⟨B, 3, none⟩ (.slice (some ⟨g, 0, none⟩) n cap))) ∧ Hid (strE.Own w.heap.size ((((w'.setCell ⟨B, 0, none⟩ (.int .i64 m)).setCell ⟨B, 1, none⟩ (.int .i64 s)).setCell ⟨B, 2, none⟩ (.int .i64 b)).setCell ⟨B, 3, none⟩ (.slice (some ⟨g, 0, none⟩) n cap)) g cap l rest) ∧ Hid (Below w.heap.size w ((((w'.setCell ⟨B, 0, none⟩ (.int .i64 m)).setCell ⟨B, 1, none⟩ (.int .i64 s)).setCell ⟨B, 2, none⟩ (.int .i64 b)).setCell ⟨B, 3, none⟩ (.slice (some ⟨g, 0, none⟩) n cap)))) :=
    (rown_go m s b a n c l hnl (Nat.le_trans hn (by decide)) w1 (hr.out.below hb1.out)).mono fun e w' ⟨g, cap, rest, h1, h2, h3⟩ => by
      have k5 := kB1.out.below h3 kB1.out.lt
      have r5 := kR1.out.below h3 kR1.out.lt
      have hgB : g ≠ B := fun e => by have := h2.out.new; have := kB1.out.lt; omega
      have hgR : g ≠ R := fun e => by have := h2.out.new; have := kR1.out.lt; omega
      obtain ⟨kE, oE⟩ := Rg.ret4 k5 rfl (.int .i64 m) (.int .i64 s) (.int .i64 b) (.slice (some ⟨g, 0, none⟩) n cap)
      exact ⟨g, cap, rest, h1, ⟨k5.cell 0, k5.cell 1, k5.cell 2, k5.cell 3, k5.thaw⟩, hgB, hgR, kE, r5.same (oE.block R (fun e => hBR e.symm)), ⟨(h2.out.same (oE.block g hgB)).blk, Nat.le_trans hb1.out.size h2.out.new, h2.out.le, h2.out.max, h2.out.fit⟩, (Rg.chain hb1.out h3).trans (oE.bel hBw)⟩
  clear hr kB1 kR1 hb1
  go_upto_region 2 with (go_at_call 30; refine HO1.out.mono ?_; rintro e w2 ⟨g, cap, rest, rfl, ⟨y0, y1, y2, y3, yf⟩, hgB, hgR, kB2, kR2, ho2, hb2⟩)
  generalize World.setCell _ _ _ = w3 at *
  replace kB2 := kB2.out
  clear z0 z1 z2 z3 y0 y1 y2 y3 yf HO1
  have z0 : w3.cell? ⟨B, 0, none⟩ = some (.int .i64 m) := kB2.cell 0
  have z1 : w3.cell? ⟨B, 1, none⟩ = some (.int .i64 s) := kB2.cell 1
  have z2 : w3.cell? ⟨B, 2, none⟩ = some (.int .i64 b) := kB2.cell 2
  have z3 : w3.cell? ⟨B, 3, none⟩ = some (.slice (some ⟨g, 0, none⟩) n cap) := kB2.cell 3
  have HR3 := Rg.hid (HR.out g cap w3)
  go_upto_region 3 with (go_at_call 31; refine HR3.out.mono ?_; rintro e w4 ⟨rfl, b4⟩)
  have kB4 := kB2.below b4 kB2.lt
  have kR4 := kR2.out.below b4 kR2.out.lt
  have ho4 := Rg.hid (ho2.out.below b4)
  have hb4 := Rg.hid (Rg.chain hb2.out b4)
  clear z0 z1 z2 z3 kB2 kR2 ho2 hb2 b4 HR HR3
  obtain ⟨kE, oE⟩ := Rg.ret4 kR4 rfl (.int .i64 m) (.int .i64 s) (.int .i64 b) (.slice (some ⟨g, 0, none⟩) n cap)
  have hb5 := Rg.hid (hb4.out.trans (oE.bel hRw))
  have ho5 := Rg.hid (ho4.out.same (oE.block g hgR))
  have z0 : w4.cell? ⟨B, 0, none⟩ = some (.int .i64 m) := kB4.cell 0
  have z1 : w4.cell? ⟨B, 1, none⟩ = some (.int .i64 s) := kB4.cell 1
  have z2 : w4.cell? ⟨B, 2, none⟩ = some (.int .i64 b) := kB4.cell 2
  have z3 : w4.cell? ⟨B, 3, none⟩ = some (.slice (some ⟨g, 0, none⟩) n cap) := kB4.cell 3
  have r0 : w4.cell? ⟨R, 0, none⟩ = some (.int .i64 0) := kR4.cell 0
  have r1 : w4.cell? ⟨R, 1, none⟩ = some (.int .i64 0) := kR4.cell 1
  have r2 : w4.cell? ⟨R, 2, none⟩ = some (.int .i64 0) := kR4.cell 2
  have r3 : w4.cell? ⟨R, 3, none⟩ = some (.slice none 0 0) := kR4.cell 3
  have rf := kR4.thaw
  replace kE := Rg.hid kE
  clear oE kB4 kR4 hb4 ho4
  go_wp2
  replace kE := kE.out
  replace hb5 := hb5.out
  replace ho5 := ho5.out
  generalize World.setCell _ _ _ = WE at *
  exact bodyPost_ret (v := .tuple #[.agg #[.int .i64 m, .int .i64 s, .int .i64 b, .slice (some ⟨g, 0, none⟩) n cap], .int .i64 0]) (by simp [results, Try.results18, go_sem, kE.cell]) rfl ⟨g, cap, rfl, SRow.of ho5.toRow, by rw [hnl.out]; exact ho5.le, hb5⟩

set_option maxHeartbeats 4000000 in
set_option maxRecDepth 100000 in
theorem rack_low (m s b k A : Int) (a : Option Addr) (n c : Nat) (l : List ByteArray) (hnl : Hid (n = l.length)) (hn : n ≤ 1000) (w : World) (hr : Hid (SRow w a l)) (HR : Hid (∀ g cap W, Calls Try.prog 31 #[.agg #[.int .i64 m, .int .i64 s, .int .i64 b, .slice (some ⟨g, 0, none⟩) n cap]] W fun e w' => e = .returned (.bool true) ∧ Below W.heap.size W w')) (HA : Hid (∀ W, Calls Try.prog 11 #[.int .i64 b, .int .i64 k, .int .i64 m] W fun e w' => e = .returned (.int .i64 A) ∧ w' = W)) (dl : decide (A < 0) = true) :
    Calls Try.prog 18 #[.agg #[.int .i64 m, .int .i64 s, .int .i64 b, .slice a n c], .int .i64 k] w fun e w' => ∃ g cap, e = .returned (.tuple #[.agg #[.int .i64 m, .int .i64 s, .int .i64 b, .slice (some ⟨g, 0, none⟩) n cap], .int .i64 0]) ∧ SRow w' (some ⟨g, 0, none⟩) l ∧ n ≤ cap ∧ Below w.heap.size w w'  := by
  have kB1 : Hid (Rg.Bk w.heap.size [.int .i64 m, .int .i64 s, .int .i64 b, .slice a n c] 24 ((w.alloc (.cells #[.int .i64 m, .int .i64 s, .int .i64 b, .slice a n c] 24)).alloc (.cells #[.int .i64 0, .int .i64 0, .int .i64 0, .slice none 0 0] 24))) := (Rg.Bk.new rfl).old _
  have kR1 : Hid (Rg.Bk (w.heap.size + 1) [.int .i64 0, .int .i64 0, .int .i64 0, .slice none 0 0] 24 ((w.alloc (.cells #[.int .i64 m, .int .i64 s, .int .i64 b, .slice a n c] 24)).alloc (.cells #[.int .i64 0, .int .i64 0, .int .i64 0, .slice none 0 0] 24))) := Rg.Bk.new (by simp)
  have hb1 := Rg.hid (Rg.al2 w (.cells #[.int .i64 m, .int .i64 s, .int .i64 b, .slice a n c] 24) (.cells #[.int .i64 0, .int .i64 0, .int .i64 0, .slice none 0 0] 24))
  go_enter Try.func18, Try.ntmps18
  go_upto_region 1 with fail
  generalize World.alloc _ _ = w1 at *
  obtain ⟨B, hB⟩ : ∃ B, B = w.heap.size := ⟨_, rfl⟩
  obtain ⟨R, hR⟩ : ∃ R, R = w.heap.size + 1 := ⟨_, rfl⟩
  rw [← hR] at kR1 ⊢
  rw [← hB] at kB1 ⊢
  have hBR : B ≠ R := by omega
  have hBw : w.heap.size ≤ B := by omega
  have hRw : w.heap.size ≤ R := by omega
  clear hB hR
  have z0 : w1.cell? ⟨B, 0, none⟩ = some (.int .i64 m) := kB1.out.cell 0
  have z1 : w1.cell? ⟨B, 1, none⟩ = some (.int .i64 s) := kB1.out.cell 1
  have z2 : w1.cell? ⟨B, 2, none⟩ = some (.int .i64 b) := kB1.out.cell 2
  have z3 : w1.cell? ⟨B, 3, none⟩ = some (.slice a n c) := kB1.out.cell 3
  have HO1 : Hid (Calls Try.prog 30 #[.agg #[.int .i64 m, .int .i64 s, .int .i64 b, .slice a n c]] w1 fun e w' => ∃ g cap rest, e = .returned (.agg #[.int .i64 m, .int .i64 s, .int .i64 b, .slice (some ⟨g, 0, none⟩) n cap]) ∧ (w'.cell? ⟨B, 0, none⟩ = some (.int .i64 m) ∧ w'.cell? ⟨B, 1, none⟩ = some (.int .i64 s) ∧ w'.cell? ⟨B, 2, none⟩ = some (.int .i64 b) ∧ w'.cell? ⟨B, 3, none⟩ = some (.slice a n c) ∧ ∀ i, w'.frozen? ⟨B, i, none⟩ = false) ∧ g ≠ B ∧ g ≠ R ∧ Hid (Rg.Bk B [.int .i64 m, .int .i64 s, .int .i64 b, .slice (some ⟨g, 0, none⟩) n cap] 24 ((((w'.setCell ⟨B, 0, none⟩ (.int .i64 m)).setCell ⟨B, 1, none⟩ (.int .i64 s)).setCell ⟨B, 2, none⟩ (.int .i64 b)).setCell ⟨B, 3, none⟩ (.slice (some ⟨g, 0, none⟩) n cap))) ∧ Hid (Rg.Bk R [.int .i64 0, .int .i64 0, .int .i64 0, .slice none 0 0] 24 ((((w'.setCell ⟨B, 0, none⟩ (.int .i64 m)).setCell ⟨B, 1, none⟩ (.int .i64 s)).setCell ⟨B, 2, none⟩ (.int .i64 b)).setCell ⟨B, 3, none⟩ (.slice (some ⟨g, 0, none⟩) n cap))) ∧ Hid (strE.Own w.heap.size ((((w'.setCell ⟨B, 0, none⟩ (.int .i64 m)).setCell ⟨B, 1, none⟩ (.int .i64 s)).setCell ⟨B, 2, none⟩ (.int .i64 b)).setCell ⟨B, 3, none⟩ (.slice (some ⟨g, 0, none⟩) n cap)) g cap l rest) ∧ Hid (Below w.heap.size w ((((w'.setCell ⟨B, 0, none⟩ (.int .i64 m)).setCell ⟨B, 1, none⟩ (.int .i64 s)).setCell ⟨B, 2, none⟩ (.int .i64 b)).setCell ⟨B, 3, none⟩ (.slice (some ⟨g, 0, none⟩) n cap)))) :=
    (rown_go m s b a n c l hnl (Nat.le_trans hn (by decide)) w1 (hr.out.below hb1.out)).mono fun e w' ⟨g, cap, rest, h1, h2, h3⟩ => by
      have k5 := kB1.out.below h3 kB1.out.lt
      have r5 := kR1.out.below h3 kR1.out.lt
      have hgB : g ≠ B := fun e => by have := h2.out.new; have := kB1.out.lt; omega
      have hgR : g ≠ R := fun e => by have := h2.out.new; have := kR1.out.lt; omega
      obtain ⟨kE, oE⟩ := Rg.ret4 k5 rfl (.int .i64 m) (.int .i64 s) (.int .i64 b) (.slice (some ⟨g, 0, none⟩) n cap)
      exact ⟨g, cap, rest, h1, ⟨k5.cell 0, k5.cell 1, k5.cell 2, k5.cell 3, k5.thaw⟩, hgB, hgR, kE, r5.same (oE.block R (fun e => hBR e.symm)), ⟨(h2.out.same (oE.block g hgB)).blk, Nat.le_trans hb1.out.size h2.out.new, h2.out.le, h2.out.max, h2.out.fit⟩, (Rg.chain hb1.out h3).trans (oE.bel hBw)⟩
  clear hr kB1 kR1 hb1
  go_upto_region 2 with (go_at_call 30; refine HO1.out.mono ?_; rintro e w2 ⟨g, cap, rest, rfl, ⟨y0, y1, y2, y3, yf⟩, hgB, hgR, kB2, kR2, ho2, hb2⟩)
  generalize World.setCell _ _ _ = w3 at *
  replace kB2 := kB2.out
  clear z0 z1 z2 z3 y0 y1 y2 y3 yf HO1
  have z0 : w3.cell? ⟨B, 0, none⟩ = some (.int .i64 m) := kB2.cell 0
  have z1 : w3.cell? ⟨B, 1, none⟩ = some (.int .i64 s) := kB2.cell 1
  have z2 : w3.cell? ⟨B, 2, none⟩ = some (.int .i64 b) := kB2.cell 2
  have z3 : w3.cell? ⟨B, 3, none⟩ = some (.slice (some ⟨g, 0, none⟩) n cap) := kB2.cell 3
  have HR3 := Rg.hid (HR.out g cap w3)
  go_upto_region 4 with (go_at_call 31; refine HR3.out.mono ?_; rintro e w4 ⟨rfl, b4⟩)
  have kB4 := kB2.below b4 kB2.lt
  have kR4 := kR2.out.below b4 kR2.out.lt
  have ho4 := Rg.hid (ho2.out.below b4)
  have hb4 := Rg.hid (Rg.chain hb2.out b4)
  clear z0 z1 z2 z3 kB2 kR2 ho2 hb2 b4 HR HR3
  have z0 : w4.cell? ⟨B, 0, none⟩ = some (.int .i64 m) := kB4.cell 0
  have z1 : w4.cell? ⟨B, 1, none⟩ = some (.int .i64 s) := kB4.cell 1
  have z2 : w4.cell? ⟨B, 2, none⟩ = some (.int .i64 b) := kB4.cell 2
  have z3 : w4.cell? ⟨B, 3, none⟩ = some (.slice (some ⟨g, 0, none⟩) n cap) := kB4.cell 3
  go_upto_region 6 with (go_at_call 11; refine (HA.out _).mono ?_; rintro e wA ⟨rfl, hwA⟩; obtain rfl := hwA.symm)
  clear z0 z1 z2 z3
  obtain ⟨kE, oE⟩ := Rg.ret4 kR4 rfl (.int .i64 m) (.int .i64 s) (.int .i64 b) (.slice (some ⟨g, 0, none⟩) n cap)
  have hb5 := Rg.hid (hb4.out.trans (oE.bel hRw))
  have ho5 := Rg.hid (ho4.out.same (oE.block g hgR))
  have z0 : w4.cell? ⟨B, 0, none⟩ = some (.int .i64 m) := kB4.cell 0
  have z1 : w4.cell? ⟨B, 1, none⟩ = some (.int .i64 s) := kB4.cell 1
  have z2 : w4.cell? ⟨B, 2, none⟩ = some (.int .i64 b) := kB4.cell 2
  have z3 : w4.cell? ⟨B, 3, none⟩ = some (.slice (some ⟨g, 0, none⟩) n cap) := kB4.cell 3
  have r0 : w4.cell? ⟨R, 0, none⟩ = some (.int .i64 0) := kR4.cell 0
  have r1 : w4.cell? ⟨R, 1, none⟩ = some (.int .i64 0) := kR4.cell 1
  have r2 : w4.cell? ⟨R, 2, none⟩ = some (.int .i64 0) := kR4.cell 2
  have r3 : w4.cell? ⟨R, 3, none⟩ = some (.slice none 0 0) := kR4.cell 3
  have rf := kR4.thaw
  replace kE := Rg.hid kE
  clear oE kB4 kR4 hb4 ho4
  go_wp2
  replace kE := kE.out
  replace hb5 := hb5.out
  replace ho5 := ho5.out
  generalize World.setCell _ _ _ = WE at *
  exact bodyPost_ret (v := .tuple #[.agg #[.int .i64 m, .int .i64 s, .int .i64 b, .slice (some ⟨g, 0, none⟩) n cap], .int .i64 0]) (by simp [results, Try.results18, go_sem, kE.cell]) rfl ⟨g, cap, rfl, SRow.of ho5.toRow, by rw [hnl.out]; exact ho5.le, hb5⟩

set_option maxHeartbeats 4000000 in
set_option maxRecDepth 100000 in
theorem rack_high (m s b k A : Int) (a : Option Addr) (n c : Nat) (l : List ByteArray) (hnl : Hid (n = l.length)) (hn : n ≤ 1000) (w : World) (hr : Hid (SRow w a l)) (HR : Hid (∀ g cap W, Calls Try.prog 31 #[.agg #[.int .i64 m, .int .i64 s, .int .i64 b, .slice (some ⟨g, 0, none⟩) n cap]] W fun e w' => e = .returned (.bool true) ∧ Below W.heap.size W w')) (HA : Hid (∀ W, Calls Try.prog 11 #[.int .i64 b, .int .i64 k, .int .i64 m] W fun e w' => e = .returned (.int .i64 A) ∧ w' = W)) (dl : decide (A < 0) = false) (dh : decide ((n : Int) ≤ A) = true) :
    Calls Try.prog 18 #[.agg #[.int .i64 m, .int .i64 s, .int .i64 b, .slice a n c], .int .i64 k] w fun e w' => ∃ g cap, e = .returned (.tuple #[.agg #[.int .i64 m, .int .i64 s, .int .i64 b, .slice (some ⟨g, 0, none⟩) n cap], .int .i64 0]) ∧ SRow w' (some ⟨g, 0, none⟩) l ∧ n ≤ cap ∧ Below w.heap.size w w'  := by
  have kB1 : Hid (Rg.Bk w.heap.size [.int .i64 m, .int .i64 s, .int .i64 b, .slice a n c] 24 ((w.alloc (.cells #[.int .i64 m, .int .i64 s, .int .i64 b, .slice a n c] 24)).alloc (.cells #[.int .i64 0, .int .i64 0, .int .i64 0, .slice none 0 0] 24))) := (Rg.Bk.new rfl).old _
  have kR1 : Hid (Rg.Bk (w.heap.size + 1) [.int .i64 0, .int .i64 0, .int .i64 0, .slice none 0 0] 24 ((w.alloc (.cells #[.int .i64 m, .int .i64 s, .int .i64 b, .slice a n c] 24)).alloc (.cells #[.int .i64 0, .int .i64 0, .int .i64 0, .slice none 0 0] 24))) := Rg.Bk.new (by simp)
  have hb1 := Rg.hid (Rg.al2 w (.cells #[.int .i64 m, .int .i64 s, .int .i64 b, .slice a n c] 24) (.cells #[.int .i64 0, .int .i64 0, .int .i64 0, .slice none 0 0] 24))
  go_enter Try.func18, Try.ntmps18
  go_upto_region 1 with fail
  generalize World.alloc _ _ = w1 at *
  obtain ⟨B, hB⟩ : ∃ B, B = w.heap.size := ⟨_, rfl⟩
  obtain ⟨R, hR⟩ : ∃ R, R = w.heap.size + 1 := ⟨_, rfl⟩
  rw [← hR] at kR1 ⊢
  rw [← hB] at kB1 ⊢
  have hBR : B ≠ R := by omega
  have hBw : w.heap.size ≤ B := by omega
  have hRw : w.heap.size ≤ R := by omega
  clear hB hR
  have z0 : w1.cell? ⟨B, 0, none⟩ = some (.int .i64 m) := kB1.out.cell 0
  have z1 : w1.cell? ⟨B, 1, none⟩ = some (.int .i64 s) := kB1.out.cell 1
  have z2 : w1.cell? ⟨B, 2, none⟩ = some (.int .i64 b) := kB1.out.cell 2
  have z3 : w1.cell? ⟨B, 3, none⟩ = some (.slice a n c) := kB1.out.cell 3
  have HO1 : Hid (Calls Try.prog 30 #[.agg #[.int .i64 m, .int .i64 s, .int .i64 b, .slice a n c]] w1 fun e w' => ∃ g cap rest, e = .returned (.agg #[.int .i64 m, .int .i64 s, .int .i64 b, .slice (some ⟨g, 0, none⟩) n cap]) ∧ (w'.cell? ⟨B, 0, none⟩ = some (.int .i64 m) ∧ w'.cell? ⟨B, 1, none⟩ = some (.int .i64 s) ∧ w'.cell? ⟨B, 2, none⟩ = some (.int .i64 b) ∧ w'.cell? ⟨B, 3, none⟩ = some (.slice a n c) ∧ ∀ i, w'.frozen? ⟨B, i, none⟩ = false) ∧ g ≠ B ∧ g ≠ R ∧ Hid (Rg.Bk B [.int .i64 m, .int .i64 s, .int .i64 b, .slice (some ⟨g, 0, none⟩) n cap] 24 ((((w'.setCell ⟨B, 0, none⟩ (.int .i64 m)).setCell ⟨B, 1, none⟩ (.int .i64 s)).setCell ⟨B, 2, none⟩ (.int .i64 b)).setCell ⟨B, 3, none⟩ (.slice (some ⟨g, 0, none⟩) n cap))) ∧ Hid (Rg.Bk R [.int .i64 0, .int .i64 0, .int .i64 0, .slice none 0 0] 24 ((((w'.setCell ⟨B, 0, none⟩ (.int .i64 m)).setCell ⟨B, 1, none⟩ (.int .i64 s)).setCell ⟨B, 2, none⟩ (.int .i64 b)).setCell ⟨B, 3, none⟩ (.slice (some ⟨g, 0, none⟩) n cap))) ∧ Hid (strE.Own w.heap.size ((((w'.setCell ⟨B, 0, none⟩ (.int .i64 m)).setCell ⟨B, 1, none⟩ (.int .i64 s)).setCell ⟨B, 2, none⟩ (.int .i64 b)).setCell ⟨B, 3, none⟩ (.slice (some ⟨g, 0, none⟩) n cap)) g cap l rest) ∧ Hid (Below w.heap.size w ((((w'.setCell ⟨B, 0, none⟩ (.int .i64 m)).setCell ⟨B, 1, none⟩ (.int .i64 s)).setCell ⟨B, 2, none⟩ (.int .i64 b)).setCell ⟨B, 3, none⟩ (.slice (some ⟨g, 0, none⟩) n cap)))) :=
    (rown_go m s b a n c l hnl (Nat.le_trans hn (by decide)) w1 (hr.out.below hb1.out)).mono fun e w' ⟨g, cap, rest, h1, h2, h3⟩ => by
      have k5 := kB1.out.below h3 kB1.out.lt
      have r5 := kR1.out.below h3 kR1.out.lt
      have hgB : g ≠ B := fun e => by have := h2.out.new; have := kB1.out.lt; omega
      have hgR : g ≠ R := fun e => by have := h2.out.new; have := kR1.out.lt; omega
      obtain ⟨kE, oE⟩ := Rg.ret4 k5 rfl (.int .i64 m) (.int .i64 s) (.int .i64 b) (.slice (some ⟨g, 0, none⟩) n cap)
      exact ⟨g, cap, rest, h1, ⟨k5.cell 0, k5.cell 1, k5.cell 2, k5.cell 3, k5.thaw⟩, hgB, hgR, kE, r5.same (oE.block R (fun e => hBR e.symm)), ⟨(h2.out.same (oE.block g hgB)).blk, Nat.le_trans hb1.out.size h2.out.new, h2.out.le, h2.out.max, h2.out.fit⟩, (Rg.chain hb1.out h3).trans (oE.bel hBw)⟩
  clear hr kB1 kR1 hb1
  go_upto_region 2 with (go_at_call 30; refine HO1.out.mono ?_; rintro e w2 ⟨g, cap, rest, rfl, ⟨y0, y1, y2, y3, yf⟩, hgB, hgR, kB2, kR2, ho2, hb2⟩)
  generalize World.setCell _ _ _ = w3 at *
  replace kB2 := kB2.out
  clear z0 z1 z2 z3 y0 y1 y2 y3 yf HO1
  have z0 : w3.cell? ⟨B, 0, none⟩ = some (.int .i64 m) := kB2.cell 0
  have z1 : w3.cell? ⟨B, 1, none⟩ = some (.int .i64 s) := kB2.cell 1
  have z2 : w3.cell? ⟨B, 2, none⟩ = some (.int .i64 b) := kB2.cell 2
  have z3 : w3.cell? ⟨B, 3, none⟩ = some (.slice (some ⟨g, 0, none⟩) n cap) := kB2.cell 3
  have HR3 := Rg.hid (HR.out g cap w3)
  go_upto_region 4 with (go_at_call 31; refine HR3.out.mono ?_; rintro e w4 ⟨rfl, b4⟩)
  have kB4 := kB2.below b4 kB2.lt
  have kR4 := kR2.out.below b4 kR2.out.lt
  have ho4 := Rg.hid (ho2.out.below b4)
  have hb4 := Rg.hid (Rg.chain hb2.out b4)
  clear z0 z1 z2 z3 kB2 kR2 ho2 hb2 b4 HR HR3
  have z0 : w4.cell? ⟨B, 0, none⟩ = some (.int .i64 m) := kB4.cell 0
  have z1 : w4.cell? ⟨B, 1, none⟩ = some (.int .i64 s) := kB4.cell 1
  have z2 : w4.cell? ⟨B, 2, none⟩ = some (.int .i64 b) := kB4.cell 2
  have z3 : w4.cell? ⟨B, 3, none⟩ = some (.slice (some ⟨g, 0, none⟩) n cap) := kB4.cell 3
  go_upto_region 6 with (go_at_call 11; refine (HA.out _).mono ?_; rintro e wA ⟨rfl, hwA⟩; obtain rfl := hwA.symm)
  clear z0 z1 z2 z3
  obtain ⟨kE, oE⟩ := Rg.ret4 kR4 rfl (.int .i64 m) (.int .i64 s) (.int .i64 b) (.slice (some ⟨g, 0, none⟩) n cap)
  have hb5 := Rg.hid (hb4.out.trans (oE.bel hRw))
  have ho5 := Rg.hid (ho4.out.same (oE.block g hgR))
  have z0 : w4.cell? ⟨B, 0, none⟩ = some (.int .i64 m) := kB4.cell 0
  have z1 : w4.cell? ⟨B, 1, none⟩ = some (.int .i64 s) := kB4.cell 1
  have z2 : w4.cell? ⟨B, 2, none⟩ = some (.int .i64 b) := kB4.cell 2
  have z3 : w4.cell? ⟨B, 3, none⟩ = some (.slice (some ⟨g, 0, none⟩) n cap) := kB4.cell 3
  have r0 : w4.cell? ⟨R, 0, none⟩ = some (.int .i64 0) := kR4.cell 0
  have r1 : w4.cell? ⟨R, 1, none⟩ = some (.int .i64 0) := kR4.cell 1
  have r2 : w4.cell? ⟨R, 2, none⟩ = some (.int .i64 0) := kR4.cell 2
  have r3 : w4.cell? ⟨R, 3, none⟩ = some (.slice none 0 0) := kR4.cell 3
  have rf := kR4.thaw
  replace kE := Rg.hid kE
  clear oE kB4 kR4 hb4 ho4
  go_wp2
  replace kE := kE.out
  replace hb5 := hb5.out
  replace ho5 := ho5.out
  generalize World.setCell _ _ _ = WE at *
  exact bodyPost_ret (v := .tuple #[.agg #[.int .i64 m, .int .i64 s, .int .i64 b, .slice (some ⟨g, 0, none⟩) n cap], .int .i64 0]) (by simp [results, Try.results18, go_sem, kE.cell]) rfl ⟨g, cap, rfl, SRow.of ho5.toRow, by rw [hnl.out]; exact ho5.le, hb5⟩

set_option maxHeartbeats 4000000 in
set_option maxRecDepth 100000 in
theorem rfind_wrong (m s b k : Int) (a : Option Addr) (n c : Nat) (w : World) (HR : RightsAt 31 m s b a n c false) :
    Calls Try.prog 20 #[.agg #[.int .i64 m, .int .i64 s, .int .i64 b, .slice a n c], .int .i64 k] w fun e w' => e = .returned (.tuple #[.string ⟨#[]⟩, .bool false]) ∧ Below w.heap.size w w' := by
  have kB1 : Hid (Rg.Bk w.heap.size [.int .i64 m, .int .i64 s, .int .i64 b, .slice a n c] 24 (w.alloc (.cells #[.int .i64 m, .int .i64 s, .int .i64 b, .slice a n c] 24))) := Rg.Bk.new rfl
  have hb1 := Rg.hid (Rg.al1 w (.cells #[.int .i64 m, .int .i64 s, .int .i64 b, .slice a n c] 24))
  go_enter Try.func20, Try.ntmps20
  go_upto_region 1 with fail
  generalize World.alloc _ _ = w1 at *
  obtain ⟨B, hB⟩ : ∃ B, B = w.heap.size := ⟨_, rfl⟩
  rw [← hB] at kB1 ⊢
  clear hB
  have z0 : w1.cell? ⟨B, 0, none⟩ = some (.int .i64 m) := kB1.out.cell 0
  have z1 : w1.cell? ⟨B, 1, none⟩ = some (.int .i64 s) := kB1.out.cell 1
  have z2 : w1.cell? ⟨B, 2, none⟩ = some (.int .i64 b) := kB1.out.cell 2
  have z3 : w1.cell? ⟨B, 3, none⟩ = some (.slice a n c) := kB1.out.cell 3
  go_upto_region 2 with (go_at_call 31; refine (HR _).mono ?_; rintro e w2 ⟨rfl, b2⟩)
  have kB2 := kB1.out.below b2 kB1.out.lt
  have hb2 := Rg.hid (Rg.chain hb1.out b2)
  clear z0 z1 z2 z3 kB1 hb1 b2
  have z0 : w2.cell? ⟨B, 0, none⟩ = some (.int .i64 m) := kB2.cell 0
  have z1 : w2.cell? ⟨B, 1, none⟩ = some (.int .i64 s) := kB2.cell 1
  have z2 : w2.cell? ⟨B, 2, none⟩ = some (.int .i64 b) := kB2.cell 2
  have z3 : w2.cell? ⟨B, 3, none⟩ = some (.slice a n c) := kB2.cell 3
  clear kB2
  go_wp2
  go_ret2
  exact ⟨rfl, hb2.out⟩
set_option maxHeartbeats 4000000 in
set_option maxRecDepth 100000 in
theorem rfind_low (m s b k A : Int) (a : Option Addr) (n c : Nat) (w : World) (HR : RightsAt 31 m s b a n c true) (HA : Hid (∀ W, Calls Try.prog 11 #[.int .i64 b, .int .i64 k, .int .i64 m] W fun e w' => e = .returned (.int .i64 A) ∧ w' = W)) (dl : decide (A < 0) = true) :
    Calls Try.prog 20 #[.agg #[.int .i64 m, .int .i64 s, .int .i64 b, .slice a n c], .int .i64 k] w fun e w' => e = .returned (.tuple #[.string ⟨#[]⟩, .bool false]) ∧ Below w.heap.size w w' := by
  have kB1 : Hid (Rg.Bk w.heap.size [.int .i64 m, .int .i64 s, .int .i64 b, .slice a n c] 24 (w.alloc (.cells #[.int .i64 m, .int .i64 s, .int .i64 b, .slice a n c] 24))) := Rg.Bk.new rfl
  have hb1 := Rg.hid (Rg.al1 w (.cells #[.int .i64 m, .int .i64 s, .int .i64 b, .slice a n c] 24))
  go_enter Try.func20, Try.ntmps20
  go_upto_region 1 with fail
  generalize World.alloc _ _ = w1 at *
  obtain ⟨B, hB⟩ : ∃ B, B = w.heap.size := ⟨_, rfl⟩
  rw [← hB] at kB1 ⊢
  clear hB
  have z0 : w1.cell? ⟨B, 0, none⟩ = some (.int .i64 m) := kB1.out.cell 0
  have z1 : w1.cell? ⟨B, 1, none⟩ = some (.int .i64 s) := kB1.out.cell 1
  have z2 : w1.cell? ⟨B, 2, none⟩ = some (.int .i64 b) := kB1.out.cell 2
  have z3 : w1.cell? ⟨B, 3, none⟩ = some (.slice a n c) := kB1.out.cell 3
  go_upto_region 3 with (go_at_call 31; refine (HR _).mono ?_; rintro e w2 ⟨rfl, b2⟩)
  have kB2 := kB1.out.below b2 kB1.out.lt
  have hb2 := Rg.hid (Rg.chain hb1.out b2)
  clear z0 z1 z2 z3 kB1 hb1 b2
  have z0 : w2.cell? ⟨B, 0, none⟩ = some (.int .i64 m) := kB2.cell 0
  have z1 : w2.cell? ⟨B, 1, none⟩ = some (.int .i64 s) := kB2.cell 1
  have z2 : w2.cell? ⟨B, 2, none⟩ = some (.int .i64 b) := kB2.cell 2
  have z3 : w2.cell? ⟨B, 3, none⟩ = some (.slice a n c) := kB2.cell 3
  clear kB2
  go_wp2_with (go_at_call 11; refine (HA.out _).mono ?_; rintro e wA ⟨rfl, hwA⟩; obtain rfl := hwA.symm)
  go_ret2
  exact ⟨rfl, hb2.out⟩
set_option maxHeartbeats 4000000 in
set_option maxRecDepth 100000 in
theorem rfind_high (m s b k A : Int) (a : Option Addr) (n c : Nat) (w : World) (HR : RightsAt 31 m s b a n c true) (HA : Hid (∀ W, Calls Try.prog 11 #[.int .i64 b, .int .i64 k, .int .i64 m] W fun e w' => e = .returned (.int .i64 A) ∧ w' = W)) (dl : decide (A < 0) = false) (dh : decide ((n : Int) ≤ A) = true) :
    Calls Try.prog 20 #[.agg #[.int .i64 m, .int .i64 s, .int .i64 b, .slice a n c], .int .i64 k] w fun e w' => e = .returned (.tuple #[.string ⟨#[]⟩, .bool false]) ∧ Below w.heap.size w w' := by
  have kB1 : Hid (Rg.Bk w.heap.size [.int .i64 m, .int .i64 s, .int .i64 b, .slice a n c] 24 (w.alloc (.cells #[.int .i64 m, .int .i64 s, .int .i64 b, .slice a n c] 24))) := Rg.Bk.new rfl
  have hb1 := Rg.hid (Rg.al1 w (.cells #[.int .i64 m, .int .i64 s, .int .i64 b, .slice a n c] 24))
  go_enter Try.func20, Try.ntmps20
  go_upto_region 1 with fail
  generalize World.alloc _ _ = w1 at *
  obtain ⟨B, hB⟩ : ∃ B, B = w.heap.size := ⟨_, rfl⟩
  rw [← hB] at kB1 ⊢
  clear hB
  have z0 : w1.cell? ⟨B, 0, none⟩ = some (.int .i64 m) := kB1.out.cell 0
  have z1 : w1.cell? ⟨B, 1, none⟩ = some (.int .i64 s) := kB1.out.cell 1
  have z2 : w1.cell? ⟨B, 2, none⟩ = some (.int .i64 b) := kB1.out.cell 2
  have z3 : w1.cell? ⟨B, 3, none⟩ = some (.slice a n c) := kB1.out.cell 3
  go_upto_region 3 with (go_at_call 31; refine (HR _).mono ?_; rintro e w2 ⟨rfl, b2⟩)
  have kB2 := kB1.out.below b2 kB1.out.lt
  have hb2 := Rg.hid (Rg.chain hb1.out b2)
  clear z0 z1 z2 z3 kB1 hb1 b2
  have z0 : w2.cell? ⟨B, 0, none⟩ = some (.int .i64 m) := kB2.cell 0
  have z1 : w2.cell? ⟨B, 1, none⟩ = some (.int .i64 s) := kB2.cell 1
  have z2 : w2.cell? ⟨B, 2, none⟩ = some (.int .i64 b) := kB2.cell 2
  have z3 : w2.cell? ⟨B, 3, none⟩ = some (.slice a n c) := kB2.cell 3
  clear kB2
  go_wp2_with (go_at_call 11; refine (HA.out _).mono ?_; rintro e wA ⟨rfl, hwA⟩; obtain rfl := hwA.symm)
  go_ret2
  exact ⟨rfl, hb2.out⟩
set_option maxHeartbeats 4000000 in
set_option maxRecDepth 100000 in
theorem rfind_some (m s b k : Int) (ab ao n c K : Nat) (x : ByteArray) (w : World) (HR : ∀ W, Calls Try.prog 31 #[.agg #[.int .i64 m, .int .i64 s, .int .i64 b, .slice (some ⟨ab, ao, none⟩) n c]] W fun e w' => e = .returned (.bool true) ∧ Below W.heap.size W w') (HA : Hid (∀ W, Calls Try.prog 11 #[.int .i64 b, .int .i64 k, .int .i64 m] W fun e w' => e = .returned (.int .i64 (K : Int)) ∧ w' = W)) (dl : decide ((K : Int) < 0) = false) (q0 : (0 : Int) ≤ (K : Int)) (q1 : (K : Int) < (n : Int)) (hx : Hid (∀ W, Below w.heap.size w W → W.cell? ⟨ab, ao + K, none⟩ = some (.string x))) :
    Calls Try.prog 20 #[.agg #[.int .i64 m, .int .i64 s, .int .i64 b, .slice (some ⟨ab, ao, none⟩) n c], .int .i64 k] w fun e w' => e = .returned (.tuple #[.string x, .bool true]) ∧ Below w.heap.size w w' := by
  have kB1 : Hid (Rg.Bk w.heap.size [.int .i64 m, .int .i64 s, .int .i64 b, .slice (some ⟨ab, ao, none⟩) n c] 24 (w.alloc (.cells #[.int .i64 m, .int .i64 s, .int .i64 b, .slice (some ⟨ab, ao, none⟩) n c] 24))) := Rg.Bk.new rfl
  have hb1 := Rg.hid (Rg.al1 w (.cells #[.int .i64 m, .int .i64 s, .int .i64 b, .slice (some ⟨ab, ao, none⟩) n c] 24))
  go_enter Try.func20, Try.ntmps20
  go_upto_region 1 with fail
  generalize World.alloc _ _ = w1 at *
  obtain ⟨B, hB⟩ : ∃ B, B = w.heap.size := ⟨_, rfl⟩
  rw [← hB] at kB1 ⊢
  clear hB
  have z0 : w1.cell? ⟨B, 0, none⟩ = some (.int .i64 m) := kB1.out.cell 0
  have z1 : w1.cell? ⟨B, 1, none⟩ = some (.int .i64 s) := kB1.out.cell 1
  have z2 : w1.cell? ⟨B, 2, none⟩ = some (.int .i64 b) := kB1.out.cell 2
  have z3 : w1.cell? ⟨B, 3, none⟩ = some (.slice (some ⟨ab, ao, none⟩) n c) := kB1.out.cell 3
  go_upto_region 3 with (go_at_call 31; refine (HR _).mono ?_; rintro e w2 ⟨rfl, b2⟩)
  have kB2 := kB1.out.below b2 kB1.out.lt
  have hb2 := Rg.hid (Rg.chain hb1.out b2)
  clear z0 z1 z2 z3 kB1 hb1 b2
  have z0 : w2.cell? ⟨B, 0, none⟩ = some (.int .i64 m) := kB2.cell 0
  have z1 : w2.cell? ⟨B, 1, none⟩ = some (.int .i64 s) := kB2.cell 1
  have z2 : w2.cell? ⟨B, 2, none⟩ = some (.int .i64 b) := kB2.cell 2
  have z3 : w2.cell? ⟨B, 3, none⟩ = some (.slice (some ⟨ab, ao, none⟩) n c) := kB2.cell 3
  clear kB2
  have hc := hx.out _ hb2.out
  clear hx
  go_wp2_with (go_at_call 11; refine (HA.out _).mono ?_; rintro e wA ⟨rfl, hwA⟩; obtain rfl := hwA.symm)
  go_ret2
  exact ⟨rfl, hb2.out⟩
theorem rfind_any (X : Wn.W) (a : Option Addr) (c : Nat) (k : Int) (w : World) (h : WAt w X a c) :
    Calls Try.prog 20 #[WV X a c, .int .i64 k] w fun e w' => e = .returned (Wn.findV X k) ∧ Below w.heap.size w w' := by
  have HR : RightsAt 31 X.md X.sz X.bs a X.l.length c (Wn.rt X) := fun W => rright_any X a c W
  have HA := fun W => rahead_any X.bs k X.md W
  unfold Wn.findV Wn.find
  cases hr : Wn.rt X with
  | false =>
    rw [hr] at HR
    rw [show Wn.place X k = none by unfold Wn.place; rw [if_neg (by simp [hr])]]
    exact rfind_wrong _ _ _ k a _ c w HR
  | true =>
    rw [hr] at HR
    by_cases h0 : Wn.ahead X.bs k X.md < 0
    · rw [show Wn.place X k = none by unfold Wn.place; rw [if_neg (by omega)]]
      exact rfind_low _ _ _ k _ a _ c w HR HA (decide_eq_true h0)
    · by_cases h1 : (X.l.length : Int) ≤ Wn.ahead X.bs k X.md
      · rw [show Wn.place X k = none by unfold Wn.place; rw [if_neg (by omega)]]
        exact rfind_high _ _ _ k _ a _ c w HR HA (decide_eq_false h0) (decide_eq_true h1)
      · obtain ⟨K, hK⟩ : ∃ K : Nat, Wn.ahead X.bs k X.md = (K : Int) := ⟨(Wn.ahead X.bs k X.md).toNat, by omega⟩
        have hKl : K < X.l.length := by omega
        rw [show Wn.place X k = some K by unfold Wn.place; rw [if_pos ⟨hr, by omega, by omega⟩, hK, Int.toNat_natCast]]
        obtain ⟨ab, ao, rfl, hab, hat, _⟩ := h.row.cell hKl
        rw [hK] at HA
        rw [Option.bind_some, List.getElem?_eq_getElem hKl]
        exact rfind_some _ _ _ k ab ao _ c K X.l[K] w HR HA (decide_eq_false (by omega)) (by omega) (by omega) (fun W hW => str_at (hat.below hW hab) hKl)
end Go.Proofs.Ytnglfefgcdbgmaa
