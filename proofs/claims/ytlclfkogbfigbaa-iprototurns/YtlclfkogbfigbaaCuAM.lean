/-
  Walks of layer 14: Ack. Walks of layer 14: what Ack answers; Find.
-/
import Derived.Test.YtlclfkogbfigbaaCuAL
namespace Go.Proofs.Ytlclfkogbfigbaa
open Go.RowKit
set_option maxHeartbeats 2000000 in
set_option maxRecDepth 100000 in
theorem ack_none (m s b k : Int) (a : Option Addr) (n c : Nat) (w : World) (HP : Hid (∀ W, Calls Try.prog 87 #[.agg #[.int .i64 m, .int .i64 s, .int .i64 b, .slice a n c], .int .i64 k] W fun e w' => e = .returned (.tuple #[.int .i64 0, .bool false]) ∧ Below W.heap.size W w')) :
    Calls Try.prog 76 #[.agg #[.int .i64 m, .int .i64 s, .int .i64 b, .slice a n c], .int .i64 k] w fun e w' => e = .returned (.tuple #[.agg #[.int .i64 m, .int .i64 s, .int .i64 b, .slice a n c], .int .i64 0]) ∧ Below w.heap.size w w' := by
  have kB1 : Hid (Rg.Bk w.heap.size [.int .i64 m, .int .i64 s, .int .i64 b, .slice a n c] 27 ((w.alloc (.cells #[.int .i64 m, .int .i64 s, .int .i64 b, .slice a n c] 27)).alloc (.cells #[.int .i64 0, .int .i64 0, .int .i64 0, .slice none 0 0] 27))) := (Rg.Bk.new rfl).old _
  have kR1 : Hid (Rg.Bk (w.heap.size + 1) [.int .i64 0, .int .i64 0, .int .i64 0, .slice none 0 0] 27 ((w.alloc (.cells #[.int .i64 m, .int .i64 s, .int .i64 b, .slice a n c] 27)).alloc (.cells #[.int .i64 0, .int .i64 0, .int .i64 0, .slice none 0 0] 27))) := Rg.Bk.new (by simp)
  have hb1 := Rg.hid (Rg.al2 w (.cells #[.int .i64 m, .int .i64 s, .int .i64 b, .slice a n c] 27) (.cells #[.int .i64 0, .int .i64 0, .int .i64 0, .slice none 0 0] 27))
  go_enter Try.func76, Try.ntmps76
  go_upto_region 1 with fail
  generalize World.alloc _ _ = w1 at *
  obtain ⟨B, hB⟩ : ∃ B, B = w.heap.size := ⟨_, rfl⟩
  obtain ⟨R, hR⟩ : ∃ R, R = w.heap.size + 1 := ⟨_, rfl⟩
  rw [← hR] at kR1 ⊢
  rw [← hB] at kB1 ⊢
  have hBR : B ≠ R := by omega
  have hBw : w.heap.size ≤ B := by omega
  have hRw : w.heap.size ≤ R := by omega
  clear hB hR
  have z0 : w1.cell? ⟨B, 0, none⟩ = some (.int .i64 m) := kB1.out.cell 0
  have z1 : w1.cell? ⟨B, 1, none⟩ = some (.int .i64 s) := kB1.out.cell 1
  have z2 : w1.cell? ⟨B, 2, none⟩ = some (.int .i64 b) := kB1.out.cell 2
  have z3 : w1.cell? ⟨B, 3, none⟩ = some (.slice a n c) := kB1.out.cell 3
  go_upto_region 3 with (go_at_call 87; refine (HP.out _).mono ?_; rintro e w2 ⟨rfl, b2⟩)
  have kB2 := kB1.out.below b2 kB1.out.lt
  have kR2 := kR1.out.below b2 kR1.out.lt
  have hb2 := Rg.chain hb1.out b2
  clear z0 z1 z2 z3 kB1 kR1 hb1 HP
  obtain ⟨kE, oE⟩ := Rg.ret4 kR2 rfl (.int .i64 m) (.int .i64 s) (.int .i64 b) (.slice a n c)
  have hb4 := Rg.hid (hb2.trans (oE.bel hRw))
  have z0 : w2.cell? ⟨B, 0, none⟩ = some (.int .i64 m) := kB2.cell 0
  have z1 : w2.cell? ⟨B, 1, none⟩ = some (.int .i64 s) := kB2.cell 1
  have z2 : w2.cell? ⟨B, 2, none⟩ = some (.int .i64 b) := kB2.cell 2
  have z3 : w2.cell? ⟨B, 3, none⟩ = some (.slice a n c) := kB2.cell 3
  have r0 : w2.cell? ⟨R, 0, none⟩ = some (.int .i64 0) := kR2.cell 0
  have r1 : w2.cell? ⟨R, 1, none⟩ = some (.int .i64 0) := kR2.cell 1
  have r2 : w2.cell? ⟨R, 2, none⟩ = some (.int .i64 0) := kR2.cell 2
  have r3 : w2.cell? ⟨R, 3, none⟩ = some (.slice none 0 0) := kR2.cell 3
  have rf := kR2.thaw
  replace kE := Rg.hid kE
  clear oE kB2 kR2 b2 hb2
  go_wp2
  replace kE := kE.out
  replace hb4 := hb4.out
  generalize World.setCell _ _ _ = WE at *
  exact bodyPost_ret (v := .tuple #[.agg #[.int .i64 m, .int .i64 s, .int .i64 b, .slice a n c], .int .i64 0]) (by simp [results, Try.results76, go_sem, kE.cell]) rfl ⟨rfl, hb4⟩
set_option maxHeartbeats 4000000 in
set_option maxRecDepth 100000 in
theorem ack_some (m s b k N : Int) (ab ao n c K K1 : Nat) (l : List ByteArray) (w : World) (HP : Hid (∀ W, Calls Try.prog 87 #[.agg #[.int .i64 m, .int .i64 s, .int .i64 b, .slice (some ⟨ab, ao, none⟩) n c], .int .i64 k] W fun e w' => e = .returned (.tuple #[.int .i64 (K : Int), .bool true]) ∧ Below W.heap.size W w'))
    (q1 : wrap64 ((K : Int) + 1) = (K1 : Int)) (q2 : (0 : Int) ≤ (K1 : Int)) (q3 : (K1 : Int) ≤ (n : Int)) (q5 : ¬ c = K1) (N2 : Nat) (hN2 : n - K1 = N2)
    (HN : Hid (∀ W, Calls Try.prog 67 #[.agg #[.int .i64 m, .int .i64 s, .int .i64 b, .slice (some ⟨ab, ao, none⟩) n c], .int .i64 (K1 : Int)] W fun e w' => e = .returned (.int .i64 N) ∧ Below W.heap.size W w'))
    (HC : Hid (∀ W, Below w.heap.size w W → Calls Try.prog 88 #[.slice (some ⟨ab, ao + K1, none⟩) N2 (c - K1)] W fun e w' => ∃ a' c', e = .returned (.slice a' N2 c') ∧ SRow w' a' l ∧ N2 ≤ c' ∧ Below W.heap.size W w' ∧ New W a')) :
    Calls Try.prog 76 #[.agg #[.int .i64 m, .int .i64 s, .int .i64 b, .slice (some ⟨ab, ao, none⟩) n c], .int .i64 k] w fun e w' => ∃ a' c', e = .returned (.tuple #[.agg #[.int .i64 m, .int .i64 s, .int .i64 N, .slice a' N2 c'], .int .i64 (K1 : Int)]) ∧ SRow w' a' l ∧ N2 ≤ c' ∧ Below w.heap.size w w' ∧ New w a' := by
  have kB1 : Hid (Rg.Bk w.heap.size [.int .i64 m, .int .i64 s, .int .i64 b, .slice (some ⟨ab, ao, none⟩) n c] 27 ((w.alloc (.cells #[.int .i64 m, .int .i64 s, .int .i64 b, .slice (some ⟨ab, ao, none⟩) n c] 27)).alloc (.cells #[.int .i64 0, .int .i64 0, .int .i64 0, .slice none 0 0] 27))) := (Rg.Bk.new rfl).old _
  have kR1 : Hid (Rg.Bk (w.heap.size + 1) [.int .i64 0, .int .i64 0, .int .i64 0, .slice none 0 0] 27 ((w.alloc (.cells #[.int .i64 m, .int .i64 s, .int .i64 b, .slice (some ⟨ab, ao, none⟩) n c] 27)).alloc (.cells #[.int .i64 0, .int .i64 0, .int .i64 0, .slice none 0 0] 27))) := Rg.Bk.new (by simp)
  have hb1 := Rg.hid (Rg.al2 w (.cells #[.int .i64 m, .int .i64 s, .int .i64 b, .slice (some ⟨ab, ao, none⟩) n c] 27) (.cells #[.int .i64 0, .int .i64 0, .int .i64 0, .slice none 0 0] 27))
  go_enter Try.func76, Try.ntmps76
  go_upto_region 1 with fail
  generalize World.alloc _ _ = w1 at *
  obtain ⟨B, hB⟩ : ∃ B, B = w.heap.size := ⟨_, rfl⟩
  obtain ⟨R, hR⟩ : ∃ R, R = w.heap.size + 1 := ⟨_, rfl⟩
  rw [← hR] at kR1 ⊢
  rw [← hB] at kB1 ⊢
  have hBR : B ≠ R := by omega
  have hBw : w.heap.size ≤ B := by omega
  have hRw : w.heap.size ≤ R := by omega
  clear hB hR
  have z0 : w1.cell? ⟨B, 0, none⟩ = some (.int .i64 m) := kB1.out.cell 0
  have z1 : w1.cell? ⟨B, 1, none⟩ = some (.int .i64 s) := kB1.out.cell 1
  have z2 : w1.cell? ⟨B, 2, none⟩ = some (.int .i64 b) := kB1.out.cell 2
  have z3 : w1.cell? ⟨B, 3, none⟩ = some (.slice (some ⟨ab, ao, none⟩) n c) := kB1.out.cell 3
  go_upto_region 5 with (go_at_call 87; refine (HP.out _).mono ?_; rintro e w2 ⟨rfl, b2⟩)
  have kB2 := kB1.out.below b2 kB1.out.lt
  have kR2 := Rg.hid (kR1.out.below b2 kR1.out.lt)
  have hb2 := Rg.hid (Rg.chain hb1.out b2)
  clear z0 z1 z2 z3 kB1 kR1 hb1 HP b2
  have z0 : w2.cell? ⟨B, 0, none⟩ = some (.int .i64 m) := kB2.cell 0
  have z1 : w2.cell? ⟨B, 1, none⟩ = some (.int .i64 s) := kB2.cell 1
  have z2 : w2.cell? ⟨B, 2, none⟩ = some (.int .i64 b) := kB2.cell 2
  have z3 : w2.cell? ⟨B, 3, none⟩ = some (.slice (some ⟨ab, ao, none⟩) n c) := kB2.cell 3
  have HN2 : Hid (Calls Try.prog 67 #[.agg #[.int .i64 m, .int .i64 s, .int .i64 b, .slice (some ⟨ab, ao, none⟩) n c], .int .i64 (K1 : Int)] w2 fun e w' => e = .returned (.int .i64 N) ∧ w'.cell? ⟨B, 2, none⟩ = some (.int .i64 b) ∧ (∀ i, w'.frozen? ⟨B, i, none⟩ = false) ∧ Hid (Rg.Bk B [.int .i64 m, .int .i64 s, .int .i64 N, .slice (some ⟨ab, ao, none⟩) n c] 27 (w'.setCell ⟨B, 2, none⟩ (.int .i64 N))) ∧ Hid (Rg.Bk R [.int .i64 0, .int .i64 0, .int .i64 0, .slice none 0 0] 27 (w'.setCell ⟨B, 2, none⟩ (.int .i64 N))) ∧ Hid (Below w.heap.size w (w'.setCell ⟨B, 2, none⟩ (.int .i64 N)))) :=
    (HN.out _).mono fun e w' ⟨h1, h5⟩ => by
      have k5 := kB2.below h5 kB2.lt
      have r5 := kR2.out.below h5 kR2.out.lt
      have o5 := Rg.Only.setCell w' B 2 (.int .i64 N)
      exact ⟨h1, k5.cell 2, k5.thaw, k5.set 2 _, r5.other (fun e => hBR e.symm) _, (Rg.chain hb2.out h5).trans (o5.bel hBw)⟩
  clear kB2 kR2 hb2 HN
  go_upto_region 6 with (go_at_call 67; refine HN2.out.mono ?_; rintro e w3 ⟨rfl, y3, yf, kB3, kR3, b3⟩)
  generalize World.setCell _ _ _ = w4 at *
  replace kB3 := kB3.out
  clear z0 z1 z2 z3 y3 yf HN2
  have z0 : w4.cell? ⟨B, 0, none⟩ = some (.int .i64 m) := kB3.cell 0
  have z1 : w4.cell? ⟨B, 1, none⟩ = some (.int .i64 s) := kB3.cell 1
  have z2 : w4.cell? ⟨B, 2, none⟩ = some (.int .i64 N) := kB3.cell 2
  have z3 : w4.cell? ⟨B, 3, none⟩ = some (.slice (some ⟨ab, ao, none⟩) n c) := kB3.cell 3
  have HC4 : Hid (Calls Try.prog 88 #[.slice (some ⟨ab, ao + K1, none⟩) N2 (c - K1)] w4 fun e w' => ∃ a' c', e = .returned (.slice a' N2 c') ∧ Hid (New w a') ∧ Hid (N2 ≤ c') ∧ Hid (SRow (w'.setCell ⟨B, 3, none⟩ (.slice a' N2 c')) a' l) ∧ w'.cell? ⟨B, 3, none⟩ = some (.slice (some ⟨ab, ao, none⟩) n c) ∧ (∀ i, w'.frozen? ⟨B, i, none⟩ = false) ∧ Hid (Rg.Bk B [.int .i64 m, .int .i64 s, .int .i64 N, .slice a' N2 c'] 27 (w'.setCell ⟨B, 3, none⟩ (.slice a' N2 c'))) ∧ Hid (Rg.Bk R [.int .i64 0, .int .i64 0, .int .i64 0, .slice none 0 0] 27 (w'.setCell ⟨B, 3, none⟩ (.slice a' N2 c'))) ∧ Hid (Below w.heap.size w (w'.setCell ⟨B, 3, none⟩ (.slice a' N2 c')))) :=
    (HC.out _ b3.out).mono fun e w' ⟨a', c', h1, h2, h3, h5, h6⟩ => by
      have k5 := kB3.below h5 kB3.lt
      have r5 := kR3.out.below h5 kR3.out.lt
      have o5 := Rg.Only.setCell w' B 3 (.slice a' N2 c')
      exact ⟨a', c', h1, h6.mono b3.out.size, h3, h2.only k5 (fun x h => by cases h) o5, k5.cell 3, k5.thaw, k5.set 3 _, r5.other (fun e => hBR e.symm) _, (Rg.chain b3.out h5).trans (o5.bel hBw)⟩
  clear HC kR3 b3 kB3
  go_upto_region 7 with (go_at_call 88; refine HC4.out.mono ?_; rintro e w5 ⟨a', c', rfl, hnw, hc5, hs5, y3, yf, kB5, kR5, b5⟩)
  generalize World.setCell _ _ _ = w6 at *
  replace kB5 := kB5.out
  replace kR5 := kR5.out
  clear z0 z1 z2 z3 y3 yf HC4
  obtain ⟨kE, oE⟩ := Rg.ret4 kR5 rfl (.int .i64 m) (.int .i64 s) (.int .i64 N) (.slice a' N2 c')
  have hb7 := Rg.hid (b5.out.trans (oE.bel hRw))
  have hs7 := Rg.hid (hs5.out.only kR5 (fun x h => by cases h) oE)
  have z0 : w6.cell? ⟨B, 0, none⟩ = some (.int .i64 m) := kB5.cell 0
  have z1 : w6.cell? ⟨B, 1, none⟩ = some (.int .i64 s) := kB5.cell 1
  have z2 : w6.cell? ⟨B, 2, none⟩ = some (.int .i64 N) := kB5.cell 2
  have z3 : w6.cell? ⟨B, 3, none⟩ = some (.slice a' N2 c') := kB5.cell 3
  have r0 : w6.cell? ⟨R, 0, none⟩ = some (.int .i64 0) := kR5.cell 0
  have r1 : w6.cell? ⟨R, 1, none⟩ = some (.int .i64 0) := kR5.cell 1
  have r2 : w6.cell? ⟨R, 2, none⟩ = some (.int .i64 0) := kR5.cell 2
  have r3 : w6.cell? ⟨R, 3, none⟩ = some (.slice none 0 0) := kR5.cell 3
  have rf := kR5.thaw
  replace kE := Rg.hid kE
  clear oE kB5 kR5 b5 hs5
  go_wp2
  replace kE := kE.out
  replace hb7 := hb7.out
  replace hs7 := hs7.out
  generalize World.setCell _ _ _ = WE at *
  exact bodyPost_ret (v := .tuple #[.agg #[.int .i64 m, .int .i64 s, .int .i64 N, .slice a' N2 c'], .int .i64 (K1 : Int)]) (by simp [results, Try.results76, go_sem, kE.cell]) rfl ⟨a', c', rfl, hs7, hc5.out, hb7, hnw.out⟩
set_option maxHeartbeats 4000000 in
set_option maxRecDepth 100000 in
theorem ack_all (m s b k N : Int) (ab ao K K1 : Nat) (l : List ByteArray) (w : World) (HP : Hid (∀ W, Calls Try.prog 87 #[.agg #[.int .i64 m, .int .i64 s, .int .i64 b, .slice (some ⟨ab, ao, none⟩) K1 K1], .int .i64 k] W fun e w' => e = .returned (.tuple #[.int .i64 (K : Int), .bool true]) ∧ Below W.heap.size W w'))
    (q1 : wrap64 ((K : Int) + 1) = (K1 : Int)) (q2 : (0 : Int) ≤ (K1 : Int))
    (HN : Hid (∀ W, Calls Try.prog 67 #[.agg #[.int .i64 m, .int .i64 s, .int .i64 b, .slice (some ⟨ab, ao, none⟩) K1 K1], .int .i64 (K1 : Int)] W fun e w' => e = .returned (.int .i64 N) ∧ Below W.heap.size W w'))
    (HC : Hid (∀ W, Below w.heap.size w W → Calls Try.prog 88 #[.slice (some ⟨ab, ao, none⟩) 0 0] W fun e w' => ∃ a' c', e = .returned (.slice a' 0 c') ∧ SRow w' a' l ∧ 0 ≤ c' ∧ Below W.heap.size W w' ∧ New W a')) :
    Calls Try.prog 76 #[.agg #[.int .i64 m, .int .i64 s, .int .i64 b, .slice (some ⟨ab, ao, none⟩) K1 K1], .int .i64 k] w fun e w' => ∃ a' c', e = .returned (.tuple #[.agg #[.int .i64 m, .int .i64 s, .int .i64 N, .slice a' 0 c'], .int .i64 (K1 : Int)]) ∧ SRow w' a' l ∧ 0 ≤ c' ∧ Below w.heap.size w w' ∧ New w a' := by
  have kB1 : Hid (Rg.Bk w.heap.size [.int .i64 m, .int .i64 s, .int .i64 b, .slice (some ⟨ab, ao, none⟩) K1 K1] 27 ((w.alloc (.cells #[.int .i64 m, .int .i64 s, .int .i64 b, .slice (some ⟨ab, ao, none⟩) K1 K1] 27)).alloc (.cells #[.int .i64 0, .int .i64 0, .int .i64 0, .slice none 0 0] 27))) := (Rg.Bk.new rfl).old _
  have kR1 : Hid (Rg.Bk (w.heap.size + 1) [.int .i64 0, .int .i64 0, .int .i64 0, .slice none 0 0] 27 ((w.alloc (.cells #[.int .i64 m, .int .i64 s, .int .i64 b, .slice (some ⟨ab, ao, none⟩) K1 K1] 27)).alloc (.cells #[.int .i64 0, .int .i64 0, .int .i64 0, .slice none 0 0] 27))) := Rg.Bk.new (by simp)
  have hb1 := Rg.hid (Rg.al2 w (.cells #[.int .i64 m, .int .i64 s, .int .i64 b, .slice (some ⟨ab, ao, none⟩) K1 K1] 27) (.cells #[.int .i64 0, .int .i64 0, .int .i64 0, .slice none 0 0] 27))
  go_enter Try.func76, Try.ntmps76
  go_upto_region 1 with fail
  generalize World.alloc _ _ = w1 at *
  obtain ⟨B, hB⟩ : ∃ B, B = w.heap.size := ⟨_, rfl⟩
  obtain ⟨R, hR⟩ : ∃ R, R = w.heap.size + 1 := ⟨_, rfl⟩
  rw [← hR] at kR1 ⊢
  rw [← hB] at kB1 ⊢
  have hBR : B ≠ R := by omega
  have hBw : w.heap.size ≤ B := by omega
  have hRw : w.heap.size ≤ R := by omega
  clear hB hR
  have z0 : w1.cell? ⟨B, 0, none⟩ = some (.int .i64 m) := kB1.out.cell 0
  have z1 : w1.cell? ⟨B, 1, none⟩ = some (.int .i64 s) := kB1.out.cell 1
  have z2 : w1.cell? ⟨B, 2, none⟩ = some (.int .i64 b) := kB1.out.cell 2
  have z3 : w1.cell? ⟨B, 3, none⟩ = some (.slice (some ⟨ab, ao, none⟩) K1 K1) := kB1.out.cell 3
  go_upto_region 5 with (go_at_call 87; refine (HP.out _).mono ?_; rintro e w2 ⟨rfl, b2⟩)
  have kB2 := kB1.out.below b2 kB1.out.lt
  have kR2 := Rg.hid (kR1.out.below b2 kR1.out.lt)
  have hb2 := Rg.hid (Rg.chain hb1.out b2)
  clear z0 z1 z2 z3 kB1 kR1 hb1 HP b2
  have z0 : w2.cell? ⟨B, 0, none⟩ = some (.int .i64 m) := kB2.cell 0
  have z1 : w2.cell? ⟨B, 1, none⟩ = some (.int .i64 s) := kB2.cell 1
  have z2 : w2.cell? ⟨B, 2, none⟩ = some (.int .i64 b) := kB2.cell 2
  have z3 : w2.cell? ⟨B, 3, none⟩ = some (.slice (some ⟨ab, ao, none⟩) K1 K1) := kB2.cell 3
  have HN2 : Hid (Calls Try.prog 67 #[.agg #[.int .i64 m, .int .i64 s, .int .i64 b, .slice (some ⟨ab, ao, none⟩) K1 K1], .int .i64 (K1 : Int)] w2 fun e w' => e = .returned (.int .i64 N) ∧ w'.cell? ⟨B, 2, none⟩ = some (.int .i64 b) ∧ (∀ i, w'.frozen? ⟨B, i, none⟩ = false) ∧ Hid (Rg.Bk B [.int .i64 m, .int .i64 s, .int .i64 N, .slice (some ⟨ab, ao, none⟩) K1 K1] 27 (w'.setCell ⟨B, 2, none⟩ (.int .i64 N))) ∧ Hid (Rg.Bk R [.int .i64 0, .int .i64 0, .int .i64 0, .slice none 0 0] 27 (w'.setCell ⟨B, 2, none⟩ (.int .i64 N))) ∧ Hid (Below w.heap.size w (w'.setCell ⟨B, 2, none⟩ (.int .i64 N)))) :=
    (HN.out _).mono fun e w' ⟨h1, h5⟩ => by
      have k5 := kB2.below h5 kB2.lt
      have r5 := kR2.out.below h5 kR2.out.lt
      have o5 := Rg.Only.setCell w' B 2 (.int .i64 N)
      exact ⟨h1, k5.cell 2, k5.thaw, k5.set 2 _, r5.other (fun e => hBR e.symm) _, (Rg.chain hb2.out h5).trans (o5.bel hBw)⟩
  clear kB2 kR2 hb2 HN
  go_upto_region 6 with (go_at_call 67; refine HN2.out.mono ?_; rintro e w3 ⟨rfl, y3, yf, kB3, kR3, b3⟩)
  generalize World.setCell _ _ _ = w4 at *
  replace kB3 := kB3.out
  clear z0 z1 z2 z3 y3 yf HN2
  have z0 : w4.cell? ⟨B, 0, none⟩ = some (.int .i64 m) := kB3.cell 0
  have z1 : w4.cell? ⟨B, 1, none⟩ = some (.int .i64 s) := kB3.cell 1
  have z2 : w4.cell? ⟨B, 2, none⟩ = some (.int .i64 N) := kB3.cell 2
  have z3 : w4.cell? ⟨B, 3, none⟩ = some (.slice (some ⟨ab, ao, none⟩) K1 K1) := kB3.cell 3
  have HC4 : Hid (Calls Try.prog 88 #[.slice (some ⟨ab, ao, none⟩) 0 0] w4 fun e w' => ∃ a' c', e = .returned (.slice a' 0 c') ∧ Hid (New w a') ∧ Hid (0 ≤ c') ∧ Hid (SRow (w'.setCell ⟨B, 3, none⟩ (.slice a' 0 c')) a' l) ∧ w'.cell? ⟨B, 3, none⟩ = some (.slice (some ⟨ab, ao, none⟩) K1 K1) ∧ (∀ i, w'.frozen? ⟨B, i, none⟩ = false) ∧ Hid (Rg.Bk B [.int .i64 m, .int .i64 s, .int .i64 N, .slice a' 0 c'] 27 (w'.setCell ⟨B, 3, none⟩ (.slice a' 0 c'))) ∧ Hid (Rg.Bk R [.int .i64 0, .int .i64 0, .int .i64 0, .slice none 0 0] 27 (w'.setCell ⟨B, 3, none⟩ (.slice a' 0 c'))) ∧ Hid (Below w.heap.size w (w'.setCell ⟨B, 3, none⟩ (.slice a' 0 c')))) :=
    (HC.out _ b3.out).mono fun e w' ⟨a', c', h1, h2, h3, h5, h6⟩ => by
      have k5 := kB3.below h5 kB3.lt
      have r5 := kR3.out.below h5 kR3.out.lt
      have o5 := Rg.Only.setCell w' B 3 (.slice a' 0 c')
      exact ⟨a', c', h1, h6.mono b3.out.size, h3, h2.only k5 (fun x h => by cases h) o5, k5.cell 3, k5.thaw, k5.set 3 _, r5.other (fun e => hBR e.symm) _, (Rg.chain b3.out h5).trans (o5.bel hBw)⟩
  clear HC kR3 b3 kB3
  go_upto_region 7 with (go_at_call 88; refine HC4.out.mono ?_; rintro e w5 ⟨a', c', rfl, hnw, hc5, hs5, y3, yf, kB5, kR5, b5⟩)
  generalize World.setCell _ _ _ = w6 at *
  replace kB5 := kB5.out
  replace kR5 := kR5.out
  clear z0 z1 z2 z3 y3 yf HC4
  obtain ⟨kE, oE⟩ := Rg.ret4 kR5 rfl (.int .i64 m) (.int .i64 s) (.int .i64 N) (.slice a' 0 c')
  have hb7 := Rg.hid (b5.out.trans (oE.bel hRw))
  have hs7 := Rg.hid (hs5.out.only kR5 (fun x h => by cases h) oE)
  have z0 : w6.cell? ⟨B, 0, none⟩ = some (.int .i64 m) := kB5.cell 0
  have z1 : w6.cell? ⟨B, 1, none⟩ = some (.int .i64 s) := kB5.cell 1
  have z2 : w6.cell? ⟨B, 2, none⟩ = some (.int .i64 N) := kB5.cell 2
  have z3 : w6.cell? ⟨B, 3, none⟩ = some (.slice a' 0 c') := kB5.cell 3
  have r0 : w6.cell? ⟨R, 0, none⟩ = some (.int .i64 0) := kR5.cell 0
  have r1 : w6.cell? ⟨R, 1, none⟩ = some (.int .i64 0) := kR5.cell 1
  have r2 : w6.cell? ⟨R, 2, none⟩ = some (.int .i64 0) := kR5.cell 2
  have r3 : w6.cell? ⟨R, 3, none⟩ = some (.slice none 0 0) := kR5.cell 3
  have rf := kR5.thaw
  replace kE := Rg.hid kE
  clear oE kB5 kR5 b5 hs5
  go_wp2
  replace kE := kE.out
  replace hb7 := hb7.out
  replace hs7 := hs7.out
  generalize World.setCell _ _ _ = WE at *
  exact bodyPost_ret (v := .tuple #[.agg #[.int .i64 m, .int .i64 s, .int .i64 N, .slice a' 0 c'], .int .i64 (K1 : Int)]) (by simp [results, Try.results76, go_sem, kE.cell]) rfl ⟨a', c', rfl, hs7, hc5.out, hb7, hnw.out⟩
end Go.Proofs.Ytlclfkogbfigbaa

namespace Go.Proofs.Ytlclfkogbfigbaa
open Go.RowKit
/-- What Ack answers. -/
def APost (w : World) (r : Wn.W × Nat) (e : Ending) (w' : World) : Prop := ∃ a c, e = .returned (.tuple #[WV r.1 a c, .int .i64 (r.2 : Nat)]) ∧ WAt w' r.1 a c ∧ Below w.heap.size w w'
theorem Wn.num_next (X : Wn.W) (k : Nat) : (Wn.num X k + 1) % X.md = Wn.num X (k + 1) := by
  unfold Wn.num
  rw [Int.emod_add_emod]
  congr 1
  omega
theorem Wn.nextw (K : Nat) (h : K ≤ 1000) : wrap64 ((K : Int) + 1) = ((K + 1 : Nat) : Int) := by unfold wrap64; omega
theorem SRow.drop {W : World} {b o : Nat} {l : List ByteArray} (h : Rg.At W b o (strE.flat l)) (hb : b < W.heap.size) (k : Nat) (hk : k ≤ l.length) : SRow W (some ⟨b, o + k, none⟩) (l.drop k) := by
  have e : strE.flat l = strE.flat (l.take k) ++ strE.flat (l.drop k) := by rw [← strE.flat_append, List.take_append_drop]
  rw [e] at h
  have := h.right (strE.flat_take l k hk)
  rw [show k * strE.m = k by show k * 1 = k; omega] at this
  exact .inr ⟨b, o + k, rfl, hb, this⟩
/-- What Ack answers, and that its list is as it was, or new. -/
def APostN (w : World) (X : Wn.W) (a0 : Option Addr) (c0 : Nat) (r : Wn.W × Nat) (e : Ending) (w' : World) : Prop := ∃ a c, e = .returned (.tuple #[WV r.1 a c, .int .i64 (r.2 : Nat)]) ∧ WAt w' r.1 a c ∧ Below w.heap.size w w' ∧ ((r.1 = X ∧ a = a0 ∧ c = c0) ∨ New w a)
theorem ack_anyN (X : Wn.W) (a : Option Addr) (c : Nat) (k : Int) (w : World) (h : WAt w X a c) :
    Calls Try.prog 76 #[WV X a c, .int .i64 k] w fun e w' => APostN w X a c (Wn.ack X k) e w' := by
  have HP := fun W => placeOf_any X a c k W
  cases hp : Wn.place X k with
  | none =>
    unfold Wn.plN at HP
    rw [hp] at HP
    rw [show Wn.ack X k = (X, 0) by unfold Wn.ack; rw [hp]]
    exact (ack_none _ _ _ k a _ c w HP).mono fun e w' ⟨h1, h2⟩ => ⟨a, c, h1, h.below h2, h2, .inl ⟨rfl, rfl, rfl⟩⟩
  | some K =>
    unfold Wn.plN at HP
    rw [hp] at HP
    obtain ⟨hr, hK, hk⟩ := Wn.place_some hp
    have hpt := Wn.rt_parts hr
    rw [show Wn.ack X k = (⟨X.md, X.sz, (k + 1) % X.md, X.l.drop (K + 1)⟩, K + 1) by unfold Wn.ack; rw [hp]]
    have hN : (k + 1) % X.md = Wn.num X (K + 1) := by rw [hk]; exact Wn.num_next X K
    have HN := fun W => numberAt_any X a c (K + 1) hr (by omega) W
    rw [hN]
    obtain ⟨ab, ao, rfl, hab, hat, _⟩ := h.row.cell hK
    have hK1 : K ≤ 1000 := by omega
    have hcap := h.cap
    by_cases hc : c = K + 1
    · have hn : X.l.length = K + 1 := by omega
      have hd : X.l.drop (K + 1) = [] := List.drop_of_length_le (by omega)
      rw [hd]
      subst hc
      unfold WV at HN HP ⊢
      rw [hn] at HN HP ⊢
      refine (ack_all X.md X.sz X.bs k _ ab ao K (K + 1) [] w HP (Wn.nextw K hK1) (by omega) HN (fun W hW => clone_any _ 0 [] W (by simp) .nil)).mono fun e w' ⟨a', c', h1, h2, h3, h4, h5⟩ => ?_
      exact ⟨a', c', h1, ⟨h2, h3⟩, h4, .inr h5⟩
    · refine (ack_some X.md X.sz X.bs k _ ab ao X.l.length c K (K + 1) (X.l.drop (K + 1)) w HP (Wn.nextw K hK1) (by omega) (by omega) hc (X.l.drop (K + 1)).length (by simp) HN (fun W hW => clone_any _ _ _ W (by rw [List.length_drop]; omega) ((SRow.drop hat hab (K + 1) (by omega)).below hW))).mono fun e w' ⟨a', c', h1, h2, h3, h4, h5⟩ => ?_
      exact ⟨a', c', h1, ⟨h2, h3⟩, h4, .inr h5⟩
theorem ack_any (X : Wn.W) (a : Option Addr) (c : Nat) (k : Int) (w : World) (h : WAt w X a c) :
    Calls Try.prog 76 #[WV X a c, .int .i64 k] w fun e w' => APost w (Wn.ack X k) e w' := (ack_anyN X a c k w h).mono fun _ _ ⟨a', c', h1, h2, h3, _⟩ => ⟨a', c', h1, h2, h3⟩
set_option maxHeartbeats 2000000 in
set_option maxRecDepth 100000 in
theorem find_none (m s b k : Int) (a : Option Addr) (n c : Nat) (w : World) (HP : Hid (∀ W, Calls Try.prog 87 #[.agg #[.int .i64 m, .int .i64 s, .int .i64 b, .slice a n c], .int .i64 k] W fun e w' => e = .returned (.tuple #[.int .i64 0, .bool false]) ∧ Below W.heap.size W w')) :
    Calls Try.prog 77 #[.agg #[.int .i64 m, .int .i64 s, .int .i64 b, .slice a n c], .int .i64 k] w fun e w' => e = .returned (.tuple #[.string ⟨#[]⟩, .bool false]) ∧ Below w.heap.size w w' := by
  go_enter Try.func77, Try.ntmps77
  go_wp2_with (go_at_call 87; refine (HP.out _).mono ?_; rintro e w2 ⟨rfl, b2⟩)
  go_ret2
  exact ⟨rfl, Rg.chain (Rg.al1 _ _) b2⟩
set_option maxHeartbeats 2000000 in
set_option maxRecDepth 100000 in
theorem find_some (m s b k : Int) (ab ao n c K : Nat) (x : ByteArray) (w : World) (HP : Hid (∀ W, Calls Try.prog 87 #[.agg #[.int .i64 m, .int .i64 s, .int .i64 b, .slice (some ⟨ab, ao, none⟩) n c], .int .i64 k] W fun e w' => e = .returned (.tuple #[.int .i64 (K : Int), .bool true]) ∧ Below W.heap.size W w'))
    (q0 : (0 : Int) ≤ (K : Int)) (q1 : (K : Int) < (n : Int)) (hx : Hid (∀ W, Below w.heap.size w W → W.cell? ⟨ab, ao + K, none⟩ = some (.string x))) :
    Calls Try.prog 77 #[.agg #[.int .i64 m, .int .i64 s, .int .i64 b, .slice (some ⟨ab, ao, none⟩) n c], .int .i64 k] w fun e w' => e = .returned (.tuple #[.string x, .bool true]) ∧ Below w.heap.size w w' := by
  go_enter Try.func77, Try.ntmps77
  go_upto_region 4 with (go_at_call 87; refine (HP.out _).mono ?_; rintro e w2 ⟨rfl, b2⟩)
  have k2 := Rg.Bk.below (Rg.Bk.new (C := [.int .i64 m, .int .i64 s, .int .i64 b, .slice (some ⟨ab, ao, none⟩) n c]) rfl) b2 (by simp)
  have c3 := k2.cell 3
  have b3 := Rg.hid (Rg.chain (Rg.al1 _ _) b2)
  have hc := hx.out _ b3.out
  clear k2 b2 hx
  go_wp2
  go_ret2
  exact ⟨rfl, b3.out⟩
/-- What Find answers. -/
def Wn.findV (X : Wn.W) (k : Int) : Value := match Wn.find X k with
  | some x => .tuple #[.string x, .bool true]
  | none => .tuple #[.string ⟨#[]⟩, .bool false]
theorem find_any (X : Wn.W) (a : Option Addr) (c : Nat) (k : Int) (w : World) (h : WAt w X a c) :
    Calls Try.prog 77 #[WV X a c, .int .i64 k] w fun e w' => e = .returned (Wn.findV X k) ∧ Below w.heap.size w w' := by
  have HP := fun W => placeOf_any X a c k W
  unfold Wn.findV Wn.find
  cases hp : Wn.place X k with
  | none =>
    unfold Wn.plN at HP
    rw [hp] at HP
    exact find_none _ _ _ k a _ c w HP
  | some K =>
    unfold Wn.plN at HP
    rw [hp] at HP
    obtain ⟨hr, hK, hk⟩ := Wn.place_some hp
    obtain ⟨ab, ao, rfl, hab, hat, _⟩ := h.row.cell hK
    rw [Option.bind_some, List.getElem?_eq_getElem hK]
    exact find_some _ _ _ k ab ao _ c K X.l[K] w HP (by omega) (by omega) (fun W hW => str_at (hat.below hW hab) hK)
end Go.Proofs.Ytlclfkogbfigbaa
