/-
  Walks of layer 14: Ack. Walks of layer 14: what Ack answers; Find. Walks of layer 14: the document's right, own, Find. Walks of layer 14: Numbers, the program's and the document's.
-/
import Derived.Test.YtfiffbohhhehkaaGreatBuWinA
namespace Go.Proofs.YtfiffbohhhehkaaGreat
open Go.RowKit
set_option maxHeartbeats 2000000 in
set_option maxRecDepth 100000 in
theorem ack_none (m s b k : Int) (a : Option Addr) (n c : Nat) (w : World) (HP : Hid (∀ W, Calls Tryz.prog 135 #[.agg #[.int .i64 m, .int .i64 s, .int .i64 b, .slice a n c], .int .i64 k] W fun e w' => e = .returned (.tuple #[.int .i64 0, .bool false]) ∧ Below W.heap.size W w')) :
    Calls Tryz.prog 126 #[.agg #[.int .i64 m, .int .i64 s, .int .i64 b, .slice a n c], .int .i64 k] w fun e w' => e = .returned (.tuple #[.agg #[.int .i64 m, .int .i64 s, .int .i64 b, .slice a n c], .int .i64 0]) ∧ Below w.heap.size w w' := by
  have kB1 : Hid (Rg.Bk w.heap.size [.int .i64 m, .int .i64 s, .int .i64 b, .slice a n c] 24 ((w.alloc (.cells #[.int .i64 m, .int .i64 s, .int .i64 b, .slice a n c] 24)).alloc (.cells #[.int .i64 0, .int .i64 0, .int .i64 0, .slice none 0 0] 24))) := (Rg.Bk.new rfl).old _
  have kR1 : Hid (Rg.Bk (w.heap.size + 1) [.int .i64 0, .int .i64 0, .int .i64 0, .slice none 0 0] 24 ((w.alloc (.cells #[.int .i64 m, .int .i64 s, .int .i64 b, .slice a n c] 24)).alloc (.cells #[.int .i64 0, .int .i64 0, .int .i64 0, .slice none 0 0] 24))) := Rg.Bk.new (by simp)
  have hb1 := Rg.hid (Rg.al2 w (.cells #[.int .i64 m, .int .i64 s, .int .i64 b, .slice a n c] 24) (.cells #[.int .i64 0, .int .i64 0, .int .i64 0, .slice none 0 0] 24))
  go_enter Tryz.func126, Tryz.ntmps126
  go_upto_region 1 with fail
  generalize World.alloc _ _ = w1 at *
  obtain ⟨B, hB⟩ : ∃ B, B = w.heap.size := ⟨_, rfl⟩
  obtain ⟨R, hR⟩ : ∃ R, R = w.heap.size + 1 := ⟨_, rfl⟩
  rw [← hR] at kR1 ⊢
  rw [← hB] at kB1 ⊢
  have hBR : B ≠ R := by omega
  have hBw : w.heap.size ≤ B := by omega
  have hRw : w.heap.size ≤ R := by omega
  clear hB hR
  have z0 : w1.cell? ⟨B, 0, none⟩ = some (.int .i64 m) := kB1.out.cell 0
  have z1 : w1.cell? ⟨B, 1, none⟩ = some (.int .i64 s) := kB1.out.cell 1
  have z2 : w1.cell? ⟨B, 2, none⟩ = some (.int .i64 b) := kB1.out.cell 2
  have z3 : w1.cell? ⟨B, 3, none⟩ = some (.slice a n c) := kB1.out.cell 3
  go_upto_region 3 with (go_at_call 135; refine (HP.out _).mono ?_; rintro e w2 ⟨rfl, b2⟩)
  have kB2 := kB1.out.below b2 kB1.out.lt
  have kR2 := kR1.out.below b2 kR1.out.lt
  have hb2 := Rg.chain hb1.out b2
  clear z0 z1 z2 z3 kB1 kR1 hb1 HP
  obtain ⟨kE, oE⟩ := Rg.ret4 kR2 rfl (.int .i64 m) (.int .i64 s) (.int .i64 b) (.slice a n c)
  have hb4 := Rg.hid (hb2.trans (oE.bel hRw))
  have z0 : w2.cell? ⟨B, 0, none⟩ = some (.int .i64 m) := kB2.cell 0
  have z1 : w2.cell? ⟨B, 1, none⟩ = some (.int .i64 s) := kB2.cell 1
  have z2 : w2.cell? ⟨B, 2, none⟩ = some (.int .i64 b) := kB2.cell 2
  have z3 : w2.cell? ⟨B, 3, none⟩ = some (.slice a n c) := kB2.cell 3
  have r0 : w2.cell? ⟨R, 0, none⟩ = some (.int .i64 0) := kR2.cell 0
  have r1 : w2.cell? ⟨R, 1, none⟩ = some (.int .i64 0) := kR2.cell 1
  have r2 : w2.cell? ⟨R, 2, none⟩ = some (.int .i64 0) := kR2.cell 2
  have r3 : w2.cell? ⟨R, 3, none⟩ = some (.slice none 0 0) := kR2.cell 3
  have rf := kR2.thaw
  replace kE := Rg.hid kE
  clear oE kB2 kR2 b2 hb2
  go_wp2
  replace kE := kE.out
  replace hb4 := hb4.out
  generalize World.setCell _ _ _ = WE at *
  exact bodyPost_ret (v := .tuple #[.agg #[.int .i64 m, .int .i64 s, .int .i64 b, .slice a n c], .int .i64 0]) (by simp [results, Tryz.results126, go_sem, kE.cell]) rfl ⟨rfl, hb4⟩
set_option maxHeartbeats 4000000 in
set_option maxRecDepth 100000 in
theorem ack_some (m s b k N : Int) (ab ao n c K K1 : Nat) (l : List ByteArray) (w : World) (HP : Hid (∀ W, Calls Tryz.prog 135 #[.agg #[.int .i64 m, .int .i64 s, .int .i64 b, .slice (some ⟨ab, ao, none⟩) n c], .int .i64 k] W fun e w' => e = .returned (.tuple #[.int .i64 (K : Int), .bool true]) ∧ Below W.heap.size W w'))
    (q1 : wrap64 ((K : Int) + 1) = (K1 : Int)) (q2 : (0 : Int) ≤ (K1 : Int)) (q3 : (K1 : Int) ≤ (n : Int)) (q5 : ¬ c = K1) (N2 : Nat) (hN2 : n - K1 = N2)
    (HN : Hid (∀ W, Calls Tryz.prog 110 #[.agg #[.int .i64 m, .int .i64 s, .int .i64 b, .slice (some ⟨ab, ao, none⟩) n c], .int .i64 (K1 : Int)] W fun e w' => e = .returned (.int .i64 N) ∧ Below W.heap.size W w'))
    (HC : Hid (∀ W, Below w.heap.size w W → Calls Tryz.prog 136 #[.slice (some ⟨ab, ao + K1, none⟩) N2 (c - K1)] W fun e w' => ∃ a' c', e = .returned (.slice a' N2 c') ∧ SRow w' a' l ∧ N2 ≤ c' ∧ Below W.heap.size W w' ∧ New W a')) :
    Calls Tryz.prog 126 #[.agg #[.int .i64 m, .int .i64 s, .int .i64 b, .slice (some ⟨ab, ao, none⟩) n c], .int .i64 k] w fun e w' => ∃ a' c', e = .returned (.tuple #[.agg #[.int .i64 m, .int .i64 s, .int .i64 N, .slice a' N2 c'], .int .i64 (K1 : Int)]) ∧ SRow w' a' l ∧ N2 ≤ c' ∧ Below w.heap.size w w' ∧ New w a' := by
  have kB1 : Hid (Rg.Bk w.heap.size [.int .i64 m, .int .i64 s, .int .i64 b, .slice (some ⟨ab, ao, none⟩) n c] 24 ((w.alloc (.cells #[.int .i64 m, .int .i64 s, .int .i64 b, .slice (some ⟨ab, ao, none⟩) n c] 24)).alloc (.cells #[.int .i64 0, .int .i64 0, .int .i64 0, .slice none 0 0] 24))) := (Rg.Bk.new rfl).old _
  have kR1 : Hid (Rg.Bk (w.heap.size + 1) [.int .i64 0, .int .i64 0, .int .i64 0, .slice none 0 0] 24 ((w.alloc (.cells #[.int .i64 m, .int .i64 s, .int .i64 b, .slice (some ⟨ab, ao, none⟩) n c] 24)).alloc (.cells #[.int .i64 0, .int .i64 0, .int .i64 0, .slice none 0 0] 24))) := Rg.Bk.new (by simp)
  have hb1 := Rg.hid (Rg.al2 w (.cells #[.int .i64 m, .int .i64 s, .int .i64 b, .slice (some ⟨ab, ao, none⟩) n c] 24) (.cells #[.int .i64 0, .int .i64 0, .int .i64 0, .slice none 0 0] 24))
  go_enter Tryz.func126, Tryz.ntmps126
  go_upto_region 1 with fail
  generalize World.alloc _ _ = w1 at *
  obtain ⟨B, hB⟩ : ∃ B, B = w.heap.size := ⟨_, rfl⟩
  obtain ⟨R, hR⟩ : ∃ R, R = w.heap.size + 1 := ⟨_, rfl⟩
  rw [← hR] at kR1 ⊢
  rw [← hB] at kB1 ⊢
  have hBR : B ≠ R := by omega
  have hBw : w.heap.size ≤ B := by omega
  have hRw : w.heap.size ≤ R := by omega
  clear hB hR
  have z0 : w1.cell? ⟨B, 0, none⟩ = some (.int .i64 m) := kB1.out.cell 0
  have z1 : w1.cell? ⟨B, 1, none⟩ = some (.int .i64 s) := kB1.out.cell 1
  have z2 : w1.cell? ⟨B, 2, none⟩ = some (.int .i64 b) := kB1.out.cell 2
  have z3 : w1.cell? ⟨B, 3, none⟩ = some (.slice (some ⟨ab, ao, none⟩) n c) := kB1.out.cell 3
  go_upto_region 5 with (go_at_call 135; refine (HP.out _).mono ?_; rintro e w2 ⟨rfl, b2⟩)
  have kB2 := kB1.out.below b2 kB1.out.lt
  have kR2 := Rg.hid (kR1.out.below b2 kR1.out.lt)
  have hb2 := Rg.hid (Rg.chain hb1.out b2)
  clear z0 z1 z2 z3 kB1 kR1 hb1 HP b2
  have z0 : w2.cell? ⟨B, 0, none⟩ = some (.int .i64 m) := kB2.cell 0
  have z1 : w2.cell? ⟨B, 1, none⟩ = some (.int .i64 s) := kB2.cell 1
  have z2 : w2.cell? ⟨B, 2, none⟩ = some (.int .i64 b) := kB2.cell 2
  have z3 : w2.cell? ⟨B, 3, none⟩ = some (.slice (some ⟨ab, ao, none⟩) n c) := kB2.cell 3
  have HN2 : Hid (Calls Tryz.prog 110 #[.agg #[.int .i64 m, .int .i64 s, .int .i64 b, .slice (some ⟨ab, ao, none⟩) n c], .int .i64 (K1 : Int)] w2 fun e w' => e = .returned (.int .i64 N) ∧ w'.cell? ⟨B, 2, none⟩ = some (.int .i64 b) ∧ (∀ i, w'.frozen? ⟨B, i, none⟩ = false) ∧ Hid (Rg.Bk B [.int .i64 m, .int .i64 s, .int .i64 N, .slice (some ⟨ab, ao, none⟩) n c] 24 (w'.setCell ⟨B, 2, none⟩ (.int .i64 N))) ∧ Hid (Rg.Bk R [.int .i64 0, .int .i64 0, .int .i64 0, .slice none 0 0] 24 (w'.setCell ⟨B, 2, none⟩ (.int .i64 N))) ∧ Hid (Below w.heap.size w (w'.setCell ⟨B, 2, none⟩ (.int .i64 N)))) :=
    (HN.out _).mono fun e w' ⟨h1, h5⟩ => by
      have k5 := kB2.below h5 kB2.lt
      have r5 := kR2.out.below h5 kR2.out.lt
      have o5 := Rg.Only.setCell w' B 2 (.int .i64 N)
      exact ⟨h1, k5.cell 2, k5.thaw, k5.set 2 _, r5.other (fun e => hBR e.symm) _, (Rg.chain hb2.out h5).trans (o5.bel hBw)⟩
  clear kB2 kR2 hb2 HN
  go_upto_region 6 with (go_at_call 110; refine HN2.out.mono ?_; rintro e w3 ⟨rfl, y3, yf, kB3, kR3, b3⟩)
  generalize World.setCell _ _ _ = w4 at *
  replace kB3 := kB3.out
  clear z0 z1 z2 z3 y3 yf HN2
  have z0 : w4.cell? ⟨B, 0, none⟩ = some (.int .i64 m) := kB3.cell 0
  have z1 : w4.cell? ⟨B, 1, none⟩ = some (.int .i64 s) := kB3.cell 1
  have z2 : w4.cell? ⟨B, 2, none⟩ = some (.int .i64 N) := kB3.cell 2
  have z3 : w4.cell? ⟨B, 3, none⟩ = some (.slice (some ⟨ab, ao, none⟩) n c) := kB3.cell 3
  have HC4 : Hid (Calls Tryz.prog 136 #[.slice (some ⟨ab, ao + K1, none⟩) N2 (c - K1)] w4 fun e w' => ∃ a' c', e = .returned (.slice a' N2 c') ∧ Hid (New w a') ∧ Hid (N2 ≤ c') ∧ Hid (SRow (w'.setCell ⟨B, 3, none⟩ (.slice a' N2 c')) a' l) ∧ w'.cell? ⟨B, 3, none⟩ = some (.slice (some ⟨ab, ao, none⟩) n c) ∧ (∀ i, w'.frozen? ⟨B, i, none⟩ = false) ∧ Hid (Rg.Bk B [.int .i64 m, .int .i64 s, .int .i64 N, .slice a' N2 c'] 24 (w'.setCell ⟨B, 3, none⟩ (.slice a' N2 c'))) ∧ Hid (Rg.Bk R [.int .i64 0, .int .i64 0, .int .i64 0, .slice none 0 0] 24 (w'.setCell ⟨B, 3, none⟩ (.slice a' N2 c'))) ∧ Hid (Below w.heap.size w (w'.setCell ⟨B, 3, none⟩ (.slice a' N2 c')))) :=
    (HC.out _ b3.out).mono fun e w' ⟨a', c', h1, h2, h3, h5, h6⟩ => by
      have k5 := kB3.below h5 kB3.lt
      have r5 := kR3.out.below h5 kR3.out.lt
      have o5 := Rg.Only.setCell w' B 3 (.slice a' N2 c')
      exact ⟨a', c', h1, h6.mono b3.out.size, h3, h2.only k5 (fun x h => by cases h) o5, k5.cell 3, k5.thaw, k5.set 3 _, r5.other (fun e => hBR e.symm) _, (Rg.chain b3.out h5).trans (o5.bel hBw)⟩
  clear HC kR3 b3 kB3
  go_upto_region 7 with (go_at_call 136; refine HC4.out.mono ?_; rintro e w5 ⟨a', c', rfl, hnw, hc5, hs5, y3, yf, kB5, kR5, b5⟩)
  generalize World.setCell _ _ _ = w6 at *
  replace kB5 := kB5.out
  replace kR5 := kR5.out
  clear z0 z1 z2 z3 y3 yf HC4
  obtain ⟨kE, oE⟩ := Rg.ret4 kR5 rfl (.int .i64 m) (.int .i64 s) (.int .i64 N) (.slice a' N2 c')
  have hb7 := Rg.hid (b5.out.trans (oE.bel hRw))
  have hs7 := Rg.hid (hs5.out.only kR5 (fun x h => by cases h) oE)
  have z0 : w6.cell? ⟨B, 0, none⟩ = some (.int .i64 m) := kB5.cell 0
  have z1 : w6.cell? ⟨B, 1, none⟩ = some (.int .i64 s) := kB5.cell 1
  have z2 : w6.cell? ⟨B, 2, none⟩ = some (.int .i64 N) := kB5.cell 2
  have z3 : w6.cell? ⟨B, 3, none⟩ = some (.slice a' N2 c') := kB5.cell 3
  have r0 : w6.cell? ⟨R, 0, none⟩ = some (.int .i64 0) := kR5.cell 0
  have r1 : w6.cell? ⟨R, 1, none⟩ = some (.int .i64 0) := kR5.cell 1
  have r2 : w6.cell? ⟨R, 2, none⟩ = some (.int .i64 0) := kR5.cell 2
  have r3 : w6.cell? ⟨R, 3, none⟩ = some (.slice none 0 0) := kR5.cell 3
  have rf := kR5.thaw
  replace kE := Rg.hid kE
  clear oE kB5 kR5 b5 hs5
  go_wp2
  replace kE := kE.out
  replace hb7 := hb7.out
  replace hs7 := hs7.out
  generalize World.setCell _ _ _ = WE at *
  exact bodyPost_ret (v := .tuple #[.agg #[.int .i64 m, .int .i64 s, .int .i64 N, .slice a' N2 c'], .int .i64 (K1 : Int)]) (by simp [results, Tryz.results126, go_sem, kE.cell]) rfl ⟨a', c', rfl, hs7, hc5.out, hb7, hnw.out⟩
set_option maxHeartbeats 4000000 in
set_option maxRecDepth 100000 in
theorem ack_all (m s b k N : Int) (ab ao K K1 : Nat) (l : List ByteArray) (w : World) (HP : Hid (∀ W, Calls Tryz.prog 135 #[.agg #[.int .i64 m, .int .i64 s, .int .i64 b, .slice (some ⟨ab, ao, none⟩) K1 K1], .int .i64 k] W fun e w' => e = .returned (.tuple #[.int .i64 (K : Int), .bool true]) ∧ Below W.heap.size W w'))
    (q1 : wrap64 ((K : Int) + 1) = (K1 : Int)) (q2 : (0 : Int) ≤ (K1 : Int))
    (HN : Hid (∀ W, Calls Tryz.prog 110 #[.agg #[.int .i64 m, .int .i64 s, .int .i64 b, .slice (some ⟨ab, ao, none⟩) K1 K1], .int .i64 (K1 : Int)] W fun e w' => e = .returned (.int .i64 N) ∧ Below W.heap.size W w'))
    (HC : Hid (∀ W, Below w.heap.size w W → Calls Tryz.prog 136 #[.slice (some ⟨ab, ao, none⟩) 0 0] W fun e w' => ∃ a' c', e = .returned (.slice a' 0 c') ∧ SRow w' a' l ∧ 0 ≤ c' ∧ Below W.heap.size W w' ∧ New W a')) :
    Calls Tryz.prog 126 #[.agg #[.int .i64 m, .int .i64 s, .int .i64 b, .slice (some ⟨ab, ao, none⟩) K1 K1], .int .i64 k] w fun e w' => ∃ a' c', e = .returned (.tuple #[.agg #[.int .i64 m, .int .i64 s, .int .i64 N, .slice a' 0 c'], .int .i64 (K1 : Int)]) ∧ SRow w' a' l ∧ 0 ≤ c' ∧ Below w.heap.size w w' ∧ New w a' := by
  have kB1 : Hid (Rg.Bk w.heap.size [.int .i64 m, .int .i64 s, .int .i64 b, .slice (some ⟨ab, ao, none⟩) K1 K1] 24 ((w.alloc (.cells #[.int .i64 m, .int .i64 s, .int .i64 b, .slice (some ⟨ab, ao, none⟩) K1 K1] 24)).alloc (.cells #[.int .i64 0, .int .i64 0, .int .i64 0, .slice none 0 0] 24))) := (Rg.Bk.new rfl).old _
  have kR1 : Hid (Rg.Bk (w.heap.size + 1) [.int .i64 0, .int .i64 0, .int .i64 0, .slice none 0 0] 24 ((w.alloc (.cells #[.int .i64 m, .int .i64 s, .int .i64 b, .slice (some ⟨ab, ao, none⟩) K1 K1] 24)).alloc (.cells #[.int .i64 0, .int .i64 0, .int .i64 0, .slice none 0 0] 24))) := Rg.Bk.new (by simp)
  have hb1 := Rg.hid (Rg.al2 w (.cells #[.int .i64 m, .int .i64 s, .int .i64 b, .slice (some ⟨ab, ao, none⟩) K1 K1] 24) (.cells #[.int .i64 0, .int .i64 0, .int .i64 0, .slice none 0 0] 24))
  go_enter Tryz.func126, Tryz.ntmps126
  go_upto_region 1 with fail
  generalize World.alloc _ _ = w1 at *
  obtain ⟨B, hB⟩ : ∃ B, B = w.heap.size := ⟨_, rfl⟩
  obtain ⟨R, hR⟩ : ∃ R, R = w.heap.size + 1 := ⟨_, rfl⟩
  rw [← hR] at kR1 ⊢
  rw [← hB] at kB1 ⊢
  have hBR : B ≠ R := by omega
  have hBw : w.heap.size ≤ B := by omega
  have hRw : w.heap.size ≤ R := by omega
  clear hB hR
  have z0 : w1.cell? ⟨B, 0, none⟩ = some (.int .i64 m) := kB1.out.cell 0
  have z1 : w1.cell? ⟨B, 1, none⟩ = some (.int .i64 s) := kB1.out.cell 1
  have z2 : w1.cell? ⟨B, 2, none⟩ = some (.int .i64 b) := kB1.out.cell 2
  have z3 : w1.cell? ⟨B, 3, none⟩ = some (.slice (some ⟨ab, ao, none⟩) K1 K1) := kB1.out.cell 3
  go_upto_region 5 with (go_at_call 135; refine (HP.out _).mono ?_; rintro e w2 ⟨rfl, b2⟩)
  have kB2 := kB1.out.below b2 kB1.out.lt
  have kR2 := Rg.hid (kR1.out.below b2 kR1.out.lt)
  have hb2 := Rg.hid (Rg.chain hb1.out b2)
  clear z0 z1 z2 z3 kB1 kR1 hb1 HP b2
  have z0 : w2.cell? ⟨B, 0, none⟩ = some (.int .i64 m) := kB2.cell 0
  have z1 : w2.cell? ⟨B, 1, none⟩ = some (.int .i64 s) := kB2.cell 1
  have z2 : w2.cell? ⟨B, 2, none⟩ = some (.int .i64 b) := kB2.cell 2
  have z3 : w2.cell? ⟨B, 3, none⟩ = some (.slice (some ⟨ab, ao, none⟩) K1 K1) := kB2.cell 3
  have HN2 : Hid (Calls Tryz.prog 110 #[.agg #[.int .i64 m, .int .i64 s, .int .i64 b, .slice (some ⟨ab, ao, none⟩) K1 K1], .int .i64 (K1 : Int)] w2 fun e w' => e = .returned (.int .i64 N) ∧ w'.cell? ⟨B, 2, none⟩ = some (.int .i64 b) ∧ (∀ i, w'.frozen? ⟨B, i, none⟩ = false) ∧ Hid (Rg.Bk B [.int .i64 m, .int .i64 s, .int .i64 N, .slice (some ⟨ab, ao, none⟩) K1 K1] 24 (w'.setCell ⟨B, 2, none⟩ (.int .i64 N))) ∧ Hid (Rg.Bk R [.int .i64 0, .int .i64 0, .int .i64 0, .slice none 0 0] 24 (w'.setCell ⟨B, 2, none⟩ (.int .i64 N))) ∧ Hid (Below w.heap.size w (w'.setCell ⟨B, 2, none⟩ (.int .i64 N)))) :=
    (HN.out _).mono fun e w' ⟨h1, h5⟩ => by
      have k5 := kB2.below h5 kB2.lt
      have r5 := kR2.out.below h5 kR2.out.lt
      have o5 := Rg.Only.setCell w' B 2 (.int .i64 N)
      exact ⟨h1, k5.cell 2, k5.thaw, k5.set 2 _, r5.other (fun e => hBR e.symm) _, (Rg.chain hb2.out h5).trans (o5.bel hBw)⟩
  clear kB2 kR2 hb2 HN
  go_upto_region 6 with (go_at_call 110; refine HN2.out.mono ?_; rintro e w3 ⟨rfl, y3, yf, kB3, kR3, b3⟩)
  generalize World.setCell _ _ _ = w4 at *
  replace kB3 := kB3.out
  clear z0 z1 z2 z3 y3 yf HN2
  have z0 : w4.cell? ⟨B, 0, none⟩ = some (.int .i64 m) := kB3.cell 0
  have z1 : w4.cell? ⟨B, 1, none⟩ = some (.int .i64 s) := kB3.cell 1
  have z2 : w4.cell? ⟨B, 2, none⟩ = some (.int .i64 N) := kB3.cell 2
  have z3 : w4.cell? ⟨B, 3, none⟩ = some (.slice (some ⟨ab, ao, none⟩) K1 K1) := kB3.cell 3
  have HC4 : Hid (Calls Tryz.prog 136 #[.slice (some ⟨ab, ao, none⟩) 0 0] w4 fun e w' => ∃ a' c', e = .returned (.slice a' 0 c') ∧ Hid (New w a') ∧ Hid (0 ≤ c') ∧ Hid (SRow (w'.setCell ⟨B, 3, none⟩ (.slice a' 0 c')) a' l) ∧ w'.cell? ⟨B, 3, none⟩ = some (.slice (some ⟨ab, ao, none⟩) K1 K1) ∧ (∀ i, w'.frozen? ⟨B, i, none⟩ = false) ∧ Hid (Rg.Bk B [.int .i64 m, .int .i64 s, .int .i64 N, .slice a' 0 c'] 24 (w'.setCell ⟨B, 3, none⟩ (.slice a' 0 c'))) ∧ Hid (Rg.Bk R [.int .i64 0, .int .i64 0, .int .i64 0, .slice none 0 0] 24 (w'.setCell ⟨B, 3, none⟩ (.slice a' 0 c'))) ∧ Hid (Below w.heap.size w (w'.setCell ⟨B, 3, none⟩ (.slice a' 0 c')))) :=
    (HC.out _ b3.out).mono fun e w' ⟨a', c', h1, h2, h3, h5, h6⟩ => by
      have k5 := kB3.below h5 kB3.lt
      have r5 := kR3.out.below h5 kR3.out.lt
      have o5 := Rg.Only.setCell w' B 3 (.slice a' 0 c')
      exact ⟨a', c', h1, h6.mono b3.out.size, h3, h2.only k5 (fun x h => by cases h) o5, k5.cell 3, k5.thaw, k5.set 3 _, r5.other (fun e => hBR e.symm) _, (Rg.chain b3.out h5).trans (o5.bel hBw)⟩
  clear HC kR3 b3 kB3
  go_upto_region 7 with (go_at_call 136; refine HC4.out.mono ?_; rintro e w5 ⟨a', c', rfl, hnw, hc5, hs5, y3, yf, kB5, kR5, b5⟩)
  generalize World.setCell _ _ _ = w6 at *
  replace kB5 := kB5.out
  replace kR5 := kR5.out
  clear z0 z1 z2 z3 y3 yf HC4
  obtain ⟨kE, oE⟩ := Rg.ret4 kR5 rfl (.int .i64 m) (.int .i64 s) (.int .i64 N) (.slice a' 0 c')
  have hb7 := Rg.hid (b5.out.trans (oE.bel hRw))
  have hs7 := Rg.hid (hs5.out.only kR5 (fun x h => by cases h) oE)
  have z0 : w6.cell? ⟨B, 0, none⟩ = some (.int .i64 m) := kB5.cell 0
  have z1 : w6.cell? ⟨B, 1, none⟩ = some (.int .i64 s) := kB5.cell 1
  have z2 : w6.cell? ⟨B, 2, none⟩ = some (.int .i64 N) := kB5.cell 2
  have z3 : w6.cell? ⟨B, 3, none⟩ = some (.slice a' 0 c') := kB5.cell 3
  have r0 : w6.cell? ⟨R, 0, none⟩ = some (.int .i64 0) := kR5.cell 0
  have r1 : w6.cell? ⟨R, 1, none⟩ = some (.int .i64 0) := kR5.cell 1
  have r2 : w6.cell? ⟨R, 2, none⟩ = some (.int .i64 0) := kR5.cell 2
  have r3 : w6.cell? ⟨R, 3, none⟩ = some (.slice none 0 0) := kR5.cell 3
  have rf := kR5.thaw
  replace kE := Rg.hid kE
  clear oE kB5 kR5 b5 hs5
  go_wp2
  replace kE := kE.out
  replace hb7 := hb7.out
  replace hs7 := hs7.out
  generalize World.setCell _ _ _ = WE at *
  exact bodyPost_ret (v := .tuple #[.agg #[.int .i64 m, .int .i64 s, .int .i64 N, .slice a' 0 c'], .int .i64 (K1 : Int)]) (by simp [results, Tryz.results126, go_sem, kE.cell]) rfl ⟨a', c', rfl, hs7, hc5.out, hb7, hnw.out⟩
end Go.Proofs.YtfiffbohhhehkaaGreat

namespace Go.Proofs.YtfiffbohhhehkaaGreat
open Go.RowKit
/-- What Ack answers. -/
def APost (w : World) (r : Wn.W × Nat) (e : Ending) (w' : World) : Prop := ∃ a c, e = .returned (.tuple #[WV r.1 a c, .int .i64 (r.2 : Nat)]) ∧ WAt w' r.1 a c ∧ Below w.heap.size w w'
theorem Wn.num_next (X : Wn.W) (k : Nat) : (Wn.num X k + 1) % X.md = Wn.num X (k + 1) := by
  unfold Wn.num
  rw [Int.emod_add_emod]
  congr 1
  omega
theorem Wn.nextw (K : Nat) (h : K ≤ 1000) : wrap64 ((K : Int) + 1) = ((K + 1 : Nat) : Int) := by unfold wrap64; omega
theorem SRow.drop {W : World} {b o : Nat} {l : List ByteArray} (h : Rg.At W b o (strE.flat l)) (hb : b < W.heap.size) (k : Nat) (hk : k ≤ l.length) : SRow W (some ⟨b, o + k, none⟩) (l.drop k) := by
  have e : strE.flat l = strE.flat (l.take k) ++ strE.flat (l.drop k) := by rw [← strE.flat_append, List.take_append_drop]
  rw [e] at h
  have := h.right (strE.flat_take l k hk)
  rw [show k * strE.m = k by show k * 1 = k; omega] at this
  exact .inr ⟨b, o + k, rfl, hb, this⟩
/-- What Ack answers, and that its list is as it was, or new. -/
def APostN (w : World) (X : Wn.W) (a0 : Option Addr) (c0 : Nat) (r : Wn.W × Nat) (e : Ending) (w' : World) : Prop := ∃ a c, e = .returned (.tuple #[WV r.1 a c, .int .i64 (r.2 : Nat)]) ∧ WAt w' r.1 a c ∧ Below w.heap.size w w' ∧ ((r.1 = X ∧ a = a0 ∧ c = c0) ∨ New w a)
theorem ack_anyN (X : Wn.W) (a : Option Addr) (c : Nat) (k : Int) (w : World) (h : WAt w X a c) :
    Calls Tryz.prog 126 #[WV X a c, .int .i64 k] w fun e w' => APostN w X a c (Wn.ack X k) e w' := by
  have HP := fun W => placeOf_any X a c k W
  cases hp : Wn.place X k with
  | none =>
    unfold Wn.plN at HP
    rw [hp] at HP
    rw [show Wn.ack X k = (X, 0) by unfold Wn.ack; rw [hp]]
    exact (ack_none _ _ _ k a _ c w HP).mono fun e w' ⟨h1, h2⟩ => ⟨a, c, h1, h.below h2, h2, .inl ⟨rfl, rfl, rfl⟩⟩
  | some K =>
    unfold Wn.plN at HP
    rw [hp] at HP
    obtain ⟨hr, hK, hk⟩ := Wn.place_some hp
    have hpt := Wn.rt_parts hr
    rw [show Wn.ack X k = (⟨X.md, X.sz, (k + 1) % X.md, X.l.drop (K + 1)⟩, K + 1) by unfold Wn.ack; rw [hp]]
    have hN : (k + 1) % X.md = Wn.num X (K + 1) := by rw [hk]; exact Wn.num_next X K
    have HN := fun W => numberAt_any X a c (K + 1) hr (by omega) W
    rw [hN]
    obtain ⟨ab, ao, rfl, hab, hat, _⟩ := h.row.cell hK
    have hK1 : K ≤ 1000 := by omega
    have hcap := h.cap
    by_cases hc : c = K + 1
    · have hn : X.l.length = K + 1 := by omega
      have hd : X.l.drop (K + 1) = [] := List.drop_of_length_le (by omega)
      rw [hd]
      subst hc
      unfold WV at HN HP ⊢
      rw [hn] at HN HP ⊢
      refine (ack_all X.md X.sz X.bs k _ ab ao K (K + 1) [] w HP (Wn.nextw K hK1) (by omega) HN (fun W hW => clone_any _ 0 [] W (by simp) .nil)).mono fun e w' ⟨a', c', h1, h2, h3, h4, h5⟩ => ?_
      exact ⟨a', c', h1, ⟨h2, h3⟩, h4, .inr h5⟩
    · refine (ack_some X.md X.sz X.bs k _ ab ao X.l.length c K (K + 1) (X.l.drop (K + 1)) w HP (Wn.nextw K hK1) (by omega) (by omega) hc (X.l.drop (K + 1)).length (by simp) HN (fun W hW => clone_any _ _ _ W (by rw [List.length_drop]; omega) ((SRow.drop hat hab (K + 1) (by omega)).below hW))).mono fun e w' ⟨a', c', h1, h2, h3, h4, h5⟩ => ?_
      exact ⟨a', c', h1, ⟨h2, h3⟩, h4, .inr h5⟩
theorem ack_any (X : Wn.W) (a : Option Addr) (c : Nat) (k : Int) (w : World) (h : WAt w X a c) :
    Calls Tryz.prog 126 #[WV X a c, .int .i64 k] w fun e w' => APost w (Wn.ack X k) e w' := (ack_anyN X a c k w h).mono fun _ _ ⟨a', c', h1, h2, h3, _⟩ => ⟨a', c', h1, h2, h3⟩
/-- What Find answers. -/
def Wn.findV (X : Wn.W) (k : Int) : Value := match Wn.find X k with
  | some x => .tuple #[.string x, .bool true]
  | none => .tuple #[.string ⟨#[]⟩, .bool false]
end Go.Proofs.YtfiffbohhhehkaaGreat

namespace Go.Proofs.YtfiffbohhhehkaaGreat
open Go.RowKit
set_option maxHeartbeats 2000000 in
set_option maxRecDepth 100000 in
theorem rright_go (m s b m' s' b' : Int) (er : Nat) (a : Option Addr) (n c : Nat) (bf bl : Bool) (HB : Hid (∀ W, Calls Tryz.prog 88 #[.int .i64 m, .int .i64 s, .int .i64 b] W fun e w' => e = .returned (.tuple #[.agg #[.int .i64 m', .int .i64 s', .int .i64 b', .slice none 0 0], .int .i64 (er : Nat)]) ∧ Below W.heap.size W w')) (hf : (((er : Nat) : Int) == 0) = bf) (hf2 : (er == 0) = bf) (hl : decide ((n : Int) ≤ s) = bl) (w : World) :
    Calls Tryz.prog 91 #[.agg #[.int .i64 m, .int .i64 s, .int .i64 b, .slice a n c]] w fun e w' => e = .returned (.bool (bf && bl)) ∧ Below w.heap.size w w' := by
  have kB1 : Hid (Rg.Bk w.heap.size [.int .i64 m, .int .i64 s, .int .i64 b, .slice a n c] 24 (w.alloc (.cells #[.int .i64 m, .int .i64 s, .int .i64 b, .slice a n c] 24))) := Rg.Bk.new rfl
  have hb1 := Rg.hid (Rg.al1 w (.cells #[.int .i64 m, .int .i64 s, .int .i64 b, .slice a n c] 24))
  go_enter Tryz.func91, Tryz.ntmps91
  go_upto_region 1 with fail
  generalize World.alloc _ _ = w1 at *
  obtain ⟨B, hB⟩ : ∃ B, B = w.heap.size := ⟨_, rfl⟩
  rw [← hB] at kB1 ⊢
  clear hB
  have z0 : w1.cell? ⟨B, 0, none⟩ = some (.int .i64 m) := kB1.out.cell 0
  have z1 : w1.cell? ⟨B, 1, none⟩ = some (.int .i64 s) := kB1.out.cell 1
  have z2 : w1.cell? ⟨B, 2, none⟩ = some (.int .i64 b) := kB1.out.cell 2
  have z3 : w1.cell? ⟨B, 3, none⟩ = some (.slice a n c) := kB1.out.cell 3
  go_upto_region 2 with (go_at_call 88; refine (HB.out _).mono ?_; rintro e w2 ⟨rfl, b2⟩)
  have b3 := Rg.chain b2 (Rg.al1 w2 (.cells #[.int .i64 m', .int .i64 s', .int .i64 b', .slice none 0 0] 24))
  generalize World.alloc _ _ = w3 at *
  have kB3 := kB1.out.below b3 kB1.out.lt
  have b4 := Rg.hid (Rg.chain hb1.out b3)
  clear z0 z1 z2 z3 kB1 hb1 HB b2 b3
  have z0 : w3.cell? ⟨B, 0, none⟩ = some (.int .i64 m) := kB3.cell 0
  have z1 : w3.cell? ⟨B, 1, none⟩ = some (.int .i64 s) := kB3.cell 1
  have z2 : w3.cell? ⟨B, 2, none⟩ = some (.int .i64 b) := kB3.cell 2
  have z3 : w3.cell? ⟨B, 3, none⟩ = some (.slice a n c) := kB3.cell 3
  clear kB3
  cases bf with
  | false =>
    go_wp2
    go_ret
    exact ⟨rfl, b4.out⟩
  | true =>
    go_wp2
    go_ret
    exact ⟨rfl, b4.out⟩
theorem Wn.begin_er (m s b : Int) : ((Wn.begin_ m s b).2 == 0) = Wn.fitB m s b := by
  unfold Wn.begin_ Wn.fitB
  split
  · rename_i h; rw [decide_eq_true h]; rfl
  · rename_i h; rw [decide_eq_false h]; rfl
theorem rright_any (X : Wn.W) (a : Option Addr) (c : Nat) (w : World) :
    Calls Tryz.prog 91 #[WV X a c] w fun e w' => e = .returned (.bool (Wn.rt X)) ∧ Below w.heap.size w w' := by
  rw [← Wn.rt_bool, ← Wn.begin_er]
  have e : (((Wn.begin_ X.md X.sz X.bs).2 : Int) == 0) = ((Wn.begin_ X.md X.sz X.bs).2 == 0) := by
    cases (Wn.begin_ X.md X.sz X.bs).2 <;> rfl
  exact rright_go X.md X.sz X.bs _ _ _ _ a X.l.length c _ _ (fun W => rbegin_any _ _ _ W) e rfl rfl w
/-- append([]string(nothing), texts) -/
theorem own_app (a : Option Addr) (c n : Nat) (l : List ByteArray) (hn : n = l.length) (hn2 : n ≤ 1000000) (W : World) (hr : SRow W a l) :
    ∃ v' W', (Builtin.append_ #[22, 22] 22 #[.slice (some ⟨W.heap.size, 0, none⟩) 0 0, .slice a n c]).run Tryz.prog (W.alloc (.cells #[] 9)) = .ok v' W' ∧ ∃ g cap rest, v' = .slice (some ⟨g, 0, none⟩) n cap ∧ strE.Own W.heap.size W' g cap l rest ∧ Below W.heap.size W W' := by
  subst hn
  have b0 := Rg.al1 W (.cells #[] 9)
  obtain ⟨g, cap, rest, W', h1, h2, h3, _⟩ := app_texts (own_nil W) l a c (hr.below b0) b0.size (by simpa using hn2)
  rw [List.length_nil, Nat.zero_add] at h1
  rw [List.nil_append] at h2
  exact ⟨_, W', h1, g, cap, rest, rfl, h2, b0.trans h3⟩
set_option maxHeartbeats 2000000 in
set_option maxRecDepth 100000 in
theorem rown_go (m s b : Int) (a : Option Addr) (n c : Nat) (l : List ByteArray) (hnl : Hid (n = l.length)) (hn : n ≤ 1000000) (w : World) (hr : Hid (SRow w a l)) :
    Calls Tryz.prog 90 #[.agg #[.int .i64 m, .int .i64 s, .int .i64 b, .slice a n c]] w fun e w' => ∃ g cap rest, e = .returned (.agg #[.int .i64 m, .int .i64 s, .int .i64 b, .slice (some ⟨g, 0, none⟩) n cap]) ∧ Hid (strE.Own w.heap.size w' g cap l rest) ∧ Below w.heap.size w w' := by
  have kB1 : Hid (Rg.Bk w.heap.size [.int .i64 m, .int .i64 s, .int .i64 b, .slice a n c] 24 ((w.alloc (.cells #[.int .i64 m, .int .i64 s, .int .i64 b, .slice a n c] 24)).alloc (.cells #[.int .i64 0, .int .i64 0, .int .i64 0, .slice none 0 0] 24))) := (Rg.Bk.new rfl).old _
  have kR1 : Hid (Rg.Bk (w.heap.size + 1) [.int .i64 0, .int .i64 0, .int .i64 0, .slice none 0 0] 24 ((w.alloc (.cells #[.int .i64 m, .int .i64 s, .int .i64 b, .slice a n c] 24)).alloc (.cells #[.int .i64 0, .int .i64 0, .int .i64 0, .slice none 0 0] 24))) := Rg.Bk.new (by simp)
  have hb1 := Rg.hid (Rg.al2 w (.cells #[.int .i64 m, .int .i64 s, .int .i64 b, .slice a n c] 24) (.cells #[.int .i64 0, .int .i64 0, .int .i64 0, .slice none 0 0] 24))
  go_enter Tryz.func90, Tryz.ntmps90
  go_upto_region 1 with fail
  generalize World.alloc _ _ = w1 at *
  obtain ⟨B, hB⟩ : ∃ B, B = w.heap.size := ⟨_, rfl⟩
  obtain ⟨R, hR⟩ : ∃ R, R = w.heap.size + 1 := ⟨_, rfl⟩
  rw [← hR] at kR1 ⊢
  rw [← hB] at kB1 ⊢
  have hBR : B ≠ R := by omega
  have hBw : w.heap.size ≤ B := by omega
  have hRw : w.heap.size ≤ R := by omega
  clear hB hR
  have hr1 := hr.out.below hb1.out
  obtain ⟨v', w2, hap, g, cap, rest, rfl, ho, b2⟩ := own_app a c n l hnl.out hn w1 hr1
  have kB2 := kB1.out.below b2 kB1.out.lt
  have kR2 := kR1.out.below b2 kR1.out.lt
  have hb2 := Rg.chain hb1.out b2
  have z0 : w1.cell? ⟨B, 0, none⟩ = some (.int .i64 m) := kB1.out.cell 0
  have z1 : w1.cell? ⟨B, 1, none⟩ = some (.int .i64 s) := kB1.out.cell 1
  have z2 : w1.cell? ⟨B, 2, none⟩ = some (.int .i64 b) := kB1.out.cell 2
  have z3 : w1.cell? ⟨B, 3, none⟩ = some (.slice a n c) := kB1.out.cell 3
  have y3 : w2.cell? ⟨B, 3, none⟩ = some (.slice a n c) := kB2.cell 3
  have y4 : (w1.alloc (.cells #[] 9)).cell? ⟨B, 3, none⟩ = some (.slice a n c) := (kB1.out.old _).cell 3
  have yf := kB2.thaw
  have kB3 := kB2.set 3 (.slice (some ⟨g, 0, none⟩) n cap)
  have kR3 := kR2.other (i := 3) (fun e => hBR e.symm) (.slice (some ⟨g, 0, none⟩) n cap)
  have o3 := Rg.Only.setCell w2 B 3 (.slice (some ⟨g, 0, none⟩) n cap)
  have hgB : g ≠ B := fun e => by have := ho.new; have := kB1.out.lt; omega
  have hgR : g ≠ R := fun e => by have := ho.new; have := kR1.out.lt; omega
  have ho3 := Rg.hid (ho.same (o3.block g hgB))
  have hb3 := Rg.hid (hb2.trans (o3.bel hBw))
  replace hap := Rg.hid hap
  replace kB3 := Rg.hid kB3
  replace kR3 := Rg.hid kR3
  have hw1 := hb1.out.size
  clear kB1 kR1 hb1 hr1 hr ho b2 kB2 kR2 hb2 o3
  go_upto_region 2 with (at_builtin; refine Rg.wpList_append_run rfl (.tmp 3) (.tmp 5) 22 rfl _ _ rfl rfl _ _ hap.out ?_)
  generalize World.setCell _ _ _ = w3 at *
  replace kR3 := kR3.out
  replace kB3 := kB3.out
  clear z0 z1 z2 z3 y3 y4 yf hap
  obtain ⟨kE, oE⟩ := Rg.ret4 kR3 rfl (.int .i64 m) (.int .i64 s) (.int .i64 b) (.slice (some ⟨g, 0, none⟩) n cap)
  have hb4 := Rg.hid (hb3.out.trans (oE.bel hRw))
  have ho4 := Rg.hid (ho3.out.same (oE.block g hgR))
  have z0 : w3.cell? ⟨B, 0, none⟩ = some (.int .i64 m) := kB3.cell 0
  have z1 : w3.cell? ⟨B, 1, none⟩ = some (.int .i64 s) := kB3.cell 1
  have z2 : w3.cell? ⟨B, 2, none⟩ = some (.int .i64 b) := kB3.cell 2
  have z3 : w3.cell? ⟨B, 3, none⟩ = some (.slice (some ⟨g, 0, none⟩) n cap) := kB3.cell 3
  have r0 : w3.cell? ⟨R, 0, none⟩ = some (.int .i64 0) := kR3.cell 0
  have r1 : w3.cell? ⟨R, 1, none⟩ = some (.int .i64 0) := kR3.cell 1
  have r2 : w3.cell? ⟨R, 2, none⟩ = some (.int .i64 0) := kR3.cell 2
  have r3 : w3.cell? ⟨R, 3, none⟩ = some (.slice none 0 0) := kR3.cell 3
  have rf := kR3.thaw
  replace kE := Rg.hid kE
  clear oE kB3 kR3 hb3 ho3
  go_wp2
  replace kE := kE.out
  replace hb4 := hb4.out
  replace ho4 := ho4.out
  generalize World.setCell _ _ _ = WE at *
  exact bodyPost_ret (v := .agg #[.int .i64 m, .int .i64 s, .int .i64 b, .slice (some ⟨g, 0, none⟩) n cap]) (by simp [results, Tryz.results90, go_sem, kE.cell]) rfl ⟨g, cap, rest, rfl, ⟨ho4.blk, Nat.le_trans hw1 ho4.new, ho4.le, ho4.max, ho4.fit⟩, hb4⟩
end Go.Proofs.YtfiffbohhhehkaaGreat

namespace Go.Proofs.YtfiffbohhhehkaaGreat
open Go.RowKit
/-- a number's cell -/
def intE : Rg.El Int := { enc := fun x => [.int .i64 x], m := 1, hm := fun _ => rfl, pos := by decide, one := fun x u hu => by simp at hu; subst hu; rfl, ty := 3 }
theorem infoInt : (Tryz.prog.info? 3).map (fun i => (i.zero, i.size, i.bytes)) = some (some (.int .i64 0), 1, 8) := by kernel_rfl
theorem infoInt' : ∃ i0, Tryz.prog.info? 3 = some i0 ∧ i0.zero = some (.int .i64 0) ∧ i0.size = 1 ∧ i0.bytes = 8 := by
  have := infoInt
  cases h : Tryz.prog.info? 3 with
  | none => rw [h] at this; cases this
  | some i => rw [h] at this; simp only [Option.map_some, Option.some.injEq, Prod.mk.injEq] at this; exact ⟨i, rfl, this.1, this.2.1, this.2.2⟩
theorem made_int (n : Nat) : (madeCells (Value.int .i64 0).cells (n * 1)).toList = intE.flat (List.replicate n 0) := by
  have h1 : (Value.int .i64 0).cells = #[.int .i64 0] := rfl
  rw [h1]
  apply List.ext_getElem
  · rw [intE.flat_length]; simp [madeCells]; show n = n * 1; omega
  · intro i h2 h3
    have hi : i < n := by rw [intE.flat_length] at h3; simp at h3; simpa [intE] using h3
    have e := intE.flat_get (l := List.replicate n 0) (i := i) (t := 0) (by simpa using hi) (by decide) []
    rw [List.append_nil, show i * intE.m + 0 = i by show i * 1 + 0 = i; omega, List.getElem?_eq_getElem h3] at e
    simp only [List.getElem_replicate] at e
    have e2 : (intE.flat (List.replicate n 0))[i] = .int .i64 0 := by
      have : (intE.enc 0)[0]? = some (.int .i64 0) := rfl
      rw [this] at e; exact Option.some.inj e
    rw [e2]
    simp [madeCells, Nat.mod_one]
theorem int_put {base g cap : Nat} {W : World} {l : List Int} {rest : List Value} (h : intE.Own base W g cap l rest) {i : Nat} (hi : i < l.length) (s : Int) : intE.Own base (W.setCell ⟨g, i, none⟩ (.int .i64 s)) g cap (l.set i s) rest := by
  have s0 := h.set1 i (.int .i64 s)
  refine h.re (cs := (intE.flat l ++ rest).set i (.int .i64 s)) s0 ?_ (by simpa using h.le) (by simp)
  have e := intE.flat_set hi (t := 0) (by decide) rest (.int .i64 s)
  rw [show i * intE.m + 0 = i by show i * 1 + 0 = i; omega] at e
  rw [e, intE.flat_put hi]
  rfl
theorem int_at {W : World} {b o : Nat} {l : List Int} (h : Rg.At W b o (intE.flat l)) {i : Nat} (hi : i < l.length) : W.cell? ⟨b, o + i, none⟩ = some (.int .i64 l[i]) := by
  have e := (h.elem hi) 0 (.int .i64 l[i]) rfl
  rw [show intE.m = 1 from rfl, Nat.mul_one, Nat.add_zero] at e
  exact e
/-- nothing, or a row of numbers that is read -/
def NRow (W : World) (a : Option Addr) (l : List Int) : Prop := l = [] ∨ ∃ b o, a = some ⟨b, o, none⟩ ∧ b < W.heap.size ∧ Rg.At W b o (intE.flat l)
theorem NRow.below {W W' : World} {a : Option Addr} {l : List Int} (h : NRow W a l) (hb : Below W.heap.size W W') : NRow W' a l := by
  rcases h with h | ⟨b, o, h1, h2, h3⟩
  · exact .inl h
  · exact .inr ⟨b, o, h1, Nat.lt_of_lt_of_le h2 hb.size, h3.below hb h2⟩
theorem NRow.of {W : World} {a : Option Addr} {l : List Int} (h : intE.Row W a l) : NRow W a l := by
  rcases h with ⟨_, h⟩ | h
  · exact .inl h
  · exact .inr h
theorem NRow.cell {W : World} {a : Option Addr} {l : List Int} (h : NRow W a l) {i : Nat} (hi : i < l.length) : ∃ b o, a = some ⟨b, o, none⟩ ∧ b < W.heap.size ∧ W.cell? ⟨b, o + i, none⟩ = some (.int .i64 l[i]) := by
  rcases h with rfl | ⟨b, o, rfl, hb, hat⟩
  · simp at hi
  · exact ⟨b, o, rfl, hb, int_at hat hi⟩
/-- What Numbers answers. -/
def NPost (w : World) (l : List Int) (e : Ending) (w' : World) : Prop := ∃ a c, e = .returned (.slice a l.length c) ∧ Hid (NRow w' a l) ∧ Below w.heap.size w w'
theorem Wn.nums_step (L : List Int) (i n : Nat) (hn : L.length = n) (hi : i < n) : (L.take i ++ List.replicate (n - i) 0).set i (L[i]'(by omega)) = L.take (i + 1) ++ List.replicate (n - (i + 1)) 0 := by
  have e1 : (L.take i).length = i := by rw [List.length_take]; omega
  rw [List.set_append_right _ _ (by omega), e1, Nat.sub_self, show n - i = (n - (i + 1)) + 1 by omega, List.replicate_succ, List.set_cons_zero]
  rw [List.take_succ_eq_append_getElem (by omega : i < L.length), List.append_assoc]
  rfl
set_option maxHeartbeats 4000000 in
set_option maxRecDepth 100000 in
theorem nums_wrong (m s b : Int) (a : Option Addr) (n c : Nat) (w : World) (HR : RightsAt 109 m s b a n c false) :
    Calls Tryz.prog 115 #[.agg #[.int .i64 m, .int .i64 s, .int .i64 b, .slice a n c]] w fun e w' => NPost w [] e w' := by
  have kB1 : Hid (Rg.Bk w.heap.size [.int .i64 m, .int .i64 s, .int .i64 b, .slice a n c] 24 (w.alloc (.cells #[.int .i64 m, .int .i64 s, .int .i64 b, .slice a n c] 24))) := Rg.Bk.new rfl
  have hb1 := Rg.hid (Rg.al1 w (.cells #[.int .i64 m, .int .i64 s, .int .i64 b, .slice a n c] 24))
  go_enter Tryz.func115, Tryz.ntmps115
  go_upto_region 1 with fail
  generalize World.alloc _ _ = w1 at *
  obtain ⟨B, hB⟩ : ∃ B, B = w.heap.size := ⟨_, rfl⟩
  rw [← hB] at kB1 ⊢
  have hBw : w.heap.size ≤ B := by omega
  clear hB
  have z0 : w1.cell? ⟨B, 0, none⟩ = some (.int .i64 m) := kB1.out.cell 0
  have z1 : w1.cell? ⟨B, 1, none⟩ = some (.int .i64 s) := kB1.out.cell 1
  have z2 : w1.cell? ⟨B, 2, none⟩ = some (.int .i64 b) := kB1.out.cell 2
  have z3 : w1.cell? ⟨B, 3, none⟩ = some (.slice a n c) := kB1.out.cell 3
  go_upto_region 2 with (go_at_call 109; refine (HR _).mono ?_; rintro e w2 ⟨rfl, b2⟩)
  have kB2 := kB1.out.below b2 kB1.out.lt
  have hb2 := Rg.chain hb1.out b2
  clear z0 z1 z2 z3 kB1 hb1 b2
  go_wp2
  go_ret
  exact ⟨none, 0, rfl, .inl rfl, hb2⟩
set_option maxHeartbeats 4000000 in
set_option maxRecDepth 100000 in
theorem rnums_wrong (m s b : Int) (a : Option Addr) (n c : Nat) (w : World) (HR : RightsAt 91 m s b a n c false) :
    Calls Tryz.prog 73 #[.agg #[.int .i64 m, .int .i64 s, .int .i64 b, .slice a n c]] w fun e w' => NPost w [] e w' := by
  have kB1 : Hid (Rg.Bk w.heap.size [.int .i64 m, .int .i64 s, .int .i64 b, .slice a n c] 24 (w.alloc (.cells #[.int .i64 m, .int .i64 s, .int .i64 b, .slice a n c] 24))) := Rg.Bk.new rfl
  have hb1 := Rg.hid (Rg.al1 w (.cells #[.int .i64 m, .int .i64 s, .int .i64 b, .slice a n c] 24))
  go_enter Tryz.func73, Tryz.ntmps73
  go_upto_region 1 with fail
  generalize World.alloc _ _ = w1 at *
  obtain ⟨B, hB⟩ : ∃ B, B = w.heap.size := ⟨_, rfl⟩
  rw [← hB] at kB1 ⊢
  have hBw : w.heap.size ≤ B := by omega
  clear hB
  have z0 : w1.cell? ⟨B, 0, none⟩ = some (.int .i64 m) := kB1.out.cell 0
  have z1 : w1.cell? ⟨B, 1, none⟩ = some (.int .i64 s) := kB1.out.cell 1
  have z2 : w1.cell? ⟨B, 2, none⟩ = some (.int .i64 b) := kB1.out.cell 2
  have z3 : w1.cell? ⟨B, 3, none⟩ = some (.slice a n c) := kB1.out.cell 3
  go_upto_region 2 with (go_at_call 91; refine (HR _).mono ?_; rintro e w2 ⟨rfl, b2⟩)
  have kB2 := kB1.out.below b2 kB1.out.lt
  have hb2 := Rg.chain hb1.out b2
  clear z0 z1 z2 z3 kB1 hb1 b2
  go_wp2
  go_ret
  exact ⟨none, 0, rfl, .inl rfl, hb2⟩
set_option maxHeartbeats 4000000 in
set_option maxRecDepth 100000 in
theorem nums_rightT (m s b : Int) (a : Option Addr) (n c : Nat) (hn : n ≤ 1000) (L : List Int) (hL : Hid (L.length = n)) (w : World) (HR : RightsAt 109 m s b a n c true)
    (HN : Hid (∀ (i : Nat) (h : i < L.length) W, Calls Tryz.prog 110 #[.agg #[.int .i64 m, .int .i64 s, .int .i64 b, .slice a n c], .int .i64 (i : Int)] W fun e w' => e = .returned (.int .i64 L[i]) ∧ Below W.heap.size W w')) :
    Calls Tryz.prog 115 #[.agg #[.int .i64 m, .int .i64 s, .int .i64 b, .slice a n c]] w fun e w' => ∃ a c, e = .returned (.slice a n c) ∧ Hid (NRow w' a L) ∧ Below w.heap.size w w' ∧ Hid (∀ b o, a = some ⟨b, o, none⟩ → ∃ cs fz, w'.heap[b]? = some (.cells cs 3 fz)) := by
  obtain ⟨i0, hi, hz0, hz1, hz2⟩ := infoInt'
  have kB1 : Hid (Rg.Bk w.heap.size [.int .i64 m, .int .i64 s, .int .i64 b, .slice a n c] 24 (w.alloc (.cells #[.int .i64 m, .int .i64 s, .int .i64 b, .slice a n c] 24))) := Rg.Bk.new rfl
  have hb1 := Rg.hid (Rg.al1 w (.cells #[.int .i64 m, .int .i64 s, .int .i64 b, .slice a n c] 24))
  go_enter Tryz.func115, Tryz.ntmps115
  go_upto_region 1 with fail
  generalize World.alloc _ _ = w1 at *
  obtain ⟨B, hB⟩ : ∃ B, B = w.heap.size := ⟨_, rfl⟩
  rw [← hB] at kB1 ⊢
  have hBw : w.heap.size ≤ B := by omega
  clear hB
  have z0 : w1.cell? ⟨B, 0, none⟩ = some (.int .i64 m) := kB1.out.cell 0
  have z1 : w1.cell? ⟨B, 1, none⟩ = some (.int .i64 s) := kB1.out.cell 1
  have z2 : w1.cell? ⟨B, 2, none⟩ = some (.int .i64 b) := kB1.out.cell 2
  have z3 : w1.cell? ⟨B, 3, none⟩ = some (.slice a n c) := kB1.out.cell 3
  go_upto_region 3 with (go_at_call 109; refine (HR _).mono ?_; rintro e w2 ⟨rfl, b2⟩)
  have kB2 := kB1.out.below b2 kB1.out.lt
  have hb2 := Rg.chain hb1.out b2
  clear z0 z1 z2 z3 kB1 hb1 b2
  obtain ⟨w3, hrun, hown, hgr⟩ := run_make_full (P := Tryz.prog) w2 w2.heap.size 49 3 i0 _ 1 Tryz.underlying49 hi hz0 hz1 .i64 .i64 n (by rw [hz2]; omega) (by unfold maxLen; omega) (Nat.le_refl _)
  rw [made_int] at hown
  obtain ⟨g, cap', rest, hv, ho⟩ := Rg.El.Own.of (E := intE) hown (fun h => by cases h) (by simp)
  simp only [List.length_replicate, Value.slice.injEq, Option.some.injEq, Addr.mk.injEq] at hv
  obtain ⟨⟨hg, _, _⟩, _, hc'⟩ := hv
  subst hg
  subst hc'
  have hb23 : Below w2.heap.size w2 w3 := (Below.refl _ _).grown hgr (Nat.le_refl _) (fun k hk => by cases hk)
  have ho' := Rg.hid (show intE.Own w2.heap.size w3 w2.heap.size n (L.take 0 ++ List.replicate (n - 0) 0) rest from ho)
  have z3 : w2.cell? ⟨B, 3, none⟩ = some (.slice a n c) := kB2.cell 3
  have kB3 := Rg.hid kB2
  have hb2' := Rg.hid hb2
  have hBlt : B < w2.heap.size := kB2.lt
  clear hown hgr hi hz0 hz1 hz2 ho HR kB2 hb2
  go_wp2
  clear hrun z3
  obtain ⟨G, hG⟩ : ∃ G, G = w2.heap.size := ⟨_, rfl⟩
  rw [← hG] at ho' ⊢
  have hGB : B ≠ G := by omega
  have hGw : w.heap.size ≤ G := by have := hb2'.out.size; omega
  replace hG := Rg.hid hG
  go_loopw [14] (fun vi wr => ∃ i : Nat, i ≤ n ∧ vi = .int .i64 i ∧ Hid (intE.Own G wr G n (L.take i ++ List.replicate (n - i) 0) rest) ∧ Hid (Below w2.heap.size w2 wr)) (fun vi _ => n - (intOf vi).toNat)
  case atStart => exact ⟨0, Nat.zero_le _, rfl, ho', hb23⟩
  case round =>
    obtain ⟨i, hin, rfl, hown, hbw⟩ := hrel
    by_cases hlt : i < n
    · have hil : i < L.length := by rw [hL.out]; exact hlt
      have kBr := kB3.out.below hbw.out hBlt
      have z0 : wr.cell? ⟨B, 0, none⟩ = some (.int .i64 m) := kBr.cell 0
      have z1 : wr.cell? ⟨B, 1, none⟩ = some (.int .i64 s) := kBr.cell 1
      have z2 : wr.cell? ⟨B, 2, none⟩ = some (.int .i64 b) := kBr.cell 2
      have z3 : wr.cell? ⟨B, 3, none⟩ = some (.slice a n c) := kBr.cell 3
      obtain ⟨N, hN⟩ : ∃ N, N = L[i] := ⟨_, rfl⟩
      have HN2 : Hid (Calls Tryz.prog 110 #[.agg #[.int .i64 m, .int .i64 s, .int .i64 b, .slice a n c], .int .i64 (i : Int)] wr fun e w' => e = .returned (.int .i64 N) ∧ (∃ v, w'.cell? ⟨G, i, none⟩ = some (.int .i64 v)) ∧ (∀ j, w'.frozen? ⟨G, j, none⟩ = false) ∧ Hid (intE.Own G (w'.setCell ⟨G, i, none⟩ (.int .i64 N)) G n (L.take (i + 1) ++ List.replicate (n - (i + 1)) 0) rest) ∧ Hid (Below w2.heap.size w2 (w'.setCell ⟨G, i, none⟩ (.int .i64 N)))) := by
        refine (HN.out i hil wr).mono fun e w' ⟨h1, h2⟩ => ?_
        have o2 := hown.out.below h2
        have hLl : i < (L.take i ++ List.replicate (n - i) 0).length := by have := hL.out; simp; omega
        have q0 := int_at (o2.row) hLl
        rw [Nat.zero_add] at q0
        have q1 := int_put o2 hLl N
        rw [hN, Wn.nums_step L i n hL.out hlt] at q1
        refine ⟨by rw [h1, hN], ⟨_, q0⟩, o2.thaw, by rw [hN]; exact q1, ?_⟩
        exact (hbw.out.trans (h2.mono hbw.out.size)).trans ((Rg.Only.setCell w' G i _).bel (Nat.le_of_eq hG.out.symm))
      have hz0 : (0 : Int) ≤ (i : Int) := by omega
      have hz1 : (i : Int) < (n : Int) := by omega
      clear hN hil kBr hown HN hL
      go_upto_region 8 with (go_at_call 110; refine HN2.out.mono ?_; rintro e w4 ⟨rfl, ⟨v, y0⟩, yf, ho4, hb4⟩)
      generalize World.setCell _ _ _ = w5 at *
      go_wp2
      go_roundw
      case rel => exact ⟨i + 1, by omega, by go_num, ho4, hb4⟩
      case measure => simp [intOf]; omega
    · obtain rfl : i = n := by omega
      have hE := hown.out
      rw [Nat.sub_self, List.replicate_zero, List.append_nil, List.take_of_length_le (by rw [hL.out]; exact Nat.le_refl _)] at hE
      have hT := Rg.hid hE.blk
      replace hE := Rg.hid hE.toRow
      go_wp2
      go_ret
      exact ⟨some ⟨G, 0, none⟩, i, rfl, NRow.of hE.out, Rg.chain hb2'.out hbw.out, fun b o e => by cases e; exact ⟨_, _, hT.out⟩⟩
theorem nums_right (m s b : Int) (a : Option Addr) (n c : Nat) (hn : n ≤ 1000) (L : List Int) (hL : Hid (L.length = n)) (w : World) (HR : RightsAt 109 m s b a n c true)
    (HN : Hid (∀ (i : Nat) (h : i < L.length) W, Calls Tryz.prog 110 #[.agg #[.int .i64 m, .int .i64 s, .int .i64 b, .slice a n c], .int .i64 (i : Int)] W fun e w' => e = .returned (.int .i64 L[i]) ∧ Below W.heap.size W w')) :
    Calls Tryz.prog 115 #[.agg #[.int .i64 m, .int .i64 s, .int .i64 b, .slice a n c]] w fun e w' => ∃ a c, e = .returned (.slice a n c) ∧ Hid (NRow w' a L) ∧ Below w.heap.size w w' :=
  (nums_rightT m s b a n c hn L hL w HR HN).mono fun _ _ ⟨a, c, h1, h2, h3, _⟩ => ⟨a, c, h1, h2, h3⟩
end Go.Proofs.YtfiffbohhhehkaaGreat
