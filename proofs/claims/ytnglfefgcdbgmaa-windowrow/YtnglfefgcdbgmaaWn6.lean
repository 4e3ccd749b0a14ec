/-
  Walks of layer 14: Put.
-/
import Derived.Test.YtnglfefgcdbgmaaWn4
import Derived.Test.YtnglfefgcdbgmaaWn5
namespace Go.Proofs.Ytnglfefgcdbgmaa
open Go.RowKit
theorem Rg.ret4 {b : Nat} {C : List Value} {ty : TypeId} {W : World} (h : Bk b C ty W) (hC : C.length = 4) (v0 v1 v2 v3 : Value) :
    Bk b [v0, v1, v2, v3] ty ((((W.setCell ⟨b, 0, none⟩ v0).setCell ⟨b, 1, none⟩ v1).setCell ⟨b, 2, none⟩ v2).setCell ⟨b, 3, none⟩ v3) ∧ Only b W ((((W.setCell ⟨b, 0, none⟩ v0).setCell ⟨b, 1, none⟩ v1).setCell ⟨b, 2, none⟩ v2).setCell ⟨b, 3, none⟩ v3) := by
  have k := (((h.set 0 v0).set 1 v1).set 2 v2).set 3 v3
  match C, hC with
  | [_, _, _, _], _ => exact ⟨k, (((Only.setCell W b 0 v0).trans (Only.setCell _ b 1 v1)).trans (Only.setCell _ b 2 v2)).trans (Only.setCell _ b 3 v3)⟩
/-- a call that says whether a window is right -/
def RightsAt (F : Nat) (m s b : Int) (a : Option Addr) (n c : Nat) (r : Bool) : Prop := ∀ W, Calls Try.prog F #[.agg #[.int .i64 m, .int .i64 s, .int .i64 b, .slice a n c]] W fun e w' => e = .returned (.bool r) ∧ Below W.heap.size W w'
set_option maxHeartbeats 2000000 in
set_option maxRecDepth 100000 in
theorem put_wrong (m s b : Int) (a : Option Addr) (n c : Nat) (x : ByteArray) (w : World) (HR : RightsAt 27 m s b a n c false) :
    Calls Try.prog 15 #[.agg #[.int .i64 m, .int .i64 s, .int .i64 b, .slice a n c], .string x] w fun e w' => e = .returned (.tuple #[.agg #[.int .i64 m, .int .i64 s, .int .i64 b, .slice a n c], .int .i64 0, .int .i64 1]) ∧ Below w.heap.size w w' := by
  have kB1 : Hid (Rg.Bk w.heap.size [.int .i64 m, .int .i64 s, .int .i64 b, .slice a n c] 24 ((w.alloc (.cells #[.int .i64 m, .int .i64 s, .int .i64 b, .slice a n c] 24)).alloc (.cells #[.int .i64 0, .int .i64 0, .int .i64 0, .slice none 0 0] 24))) := (Rg.Bk.new rfl).old _
  have kR1 : Hid (Rg.Bk (w.heap.size + 1) [.int .i64 0, .int .i64 0, .int .i64 0, .slice none 0 0] 24 ((w.alloc (.cells #[.int .i64 m, .int .i64 s, .int .i64 b, .slice a n c] 24)).alloc (.cells #[.int .i64 0, .int .i64 0, .int .i64 0, .slice none 0 0] 24))) := Rg.Bk.new (by simp)
  have hb1 := Rg.hid (Rg.al2 w (.cells #[.int .i64 m, .int .i64 s, .int .i64 b, .slice a n c] 24) (.cells #[.int .i64 0, .int .i64 0, .int .i64 0, .slice none 0 0] 24))
  go_enter Try.func15, Try.ntmps15
  go_upto_region 1 with fail
  generalize World.alloc _ _ = w1 at *
  obtain ⟨B, hB⟩ : ∃ B, B = w.heap.size := ⟨_, rfl⟩
  obtain ⟨R, hR⟩ : ∃ R, R = w.heap.size + 1 := ⟨_, rfl⟩
  rw [← hR] at kR1 ⊢
  rw [← hB] at kB1 ⊢
  have hBR : B ≠ R := by omega
  have hBw : w.heap.size ≤ B := by omega
  have hRw : w.heap.size ≤ R := by omega
  clear hB hR
  have z0 : w1.cell? ⟨B, 0, none⟩ = some (.int .i64 m) := kB1.out.cell 0
  have z1 : w1.cell? ⟨B, 1, none⟩ = some (.int .i64 s) := kB1.out.cell 1
  have z2 : w1.cell? ⟨B, 2, none⟩ = some (.int .i64 b) := kB1.out.cell 2
  have z3 : w1.cell? ⟨B, 3, none⟩ = some (.slice a n c) := kB1.out.cell 3
  go_upto_region 2 with (go_at_call 27; refine (HR _).mono ?_; rintro e w2 ⟨rfl, b2⟩)
  have kB2 := kB1.out.below b2 kB1.out.lt
  have kR2 := kR1.out.below b2 kR1.out.lt
  have hb2 := Rg.chain hb1.out b2
  clear z0 z1 z2 z3 kB1 kR1 hb1 HR
  obtain ⟨kE, oE⟩ := Rg.ret4 kR2 rfl (.int .i64 m) (.int .i64 s) (.int .i64 b) (.slice a n c)
  have hb4 := Rg.hid (hb2.trans (oE.bel hRw))
  have z0 : w2.cell? ⟨B, 0, none⟩ = some (.int .i64 m) := kB2.cell 0
  have z1 : w2.cell? ⟨B, 1, none⟩ = some (.int .i64 s) := kB2.cell 1
  have z2 : w2.cell? ⟨B, 2, none⟩ = some (.int .i64 b) := kB2.cell 2
  have z3 : w2.cell? ⟨B, 3, none⟩ = some (.slice a n c) := kB2.cell 3
  have r0 : w2.cell? ⟨R, 0, none⟩ = some (.int .i64 0) := kR2.cell 0
  have r1 : w2.cell? ⟨R, 1, none⟩ = some (.int .i64 0) := kR2.cell 1
  have r2 : w2.cell? ⟨R, 2, none⟩ = some (.int .i64 0) := kR2.cell 2
  have r3 : w2.cell? ⟨R, 3, none⟩ = some (.slice none 0 0) := kR2.cell 3
  have rf := kR2.thaw
  replace kE := Rg.hid kE
  clear oE kB2 kR2 b2 hb2
  go_wp2
  replace kE := kE.out
  replace hb4 := hb4.out
  generalize World.setCell _ _ _ = WE at *
  exact bodyPost_ret (v := .tuple #[.agg #[.int .i64 m, .int .i64 s, .int .i64 b, .slice a n c], .int .i64 0, .int .i64 1]) (by simp [results, Try.results15, go_sem, kE.cell]) rfl ⟨rfl, hb4⟩
set_option maxHeartbeats 2000000 in
set_option maxRecDepth 100000 in
theorem put_full (m s b : Int) (a : Option Addr) (n c : Nat) (x : ByteArray) (w : World) (HR : RightsAt 27 m s b a n c true) (hf : ((n : Int) == s) = true) :
    Calls Try.prog 15 #[.agg #[.int .i64 m, .int .i64 s, .int .i64 b, .slice a n c], .string x] w fun e w' => e = .returned (.tuple #[.agg #[.int .i64 m, .int .i64 s, .int .i64 b, .slice a n c], .int .i64 0, .int .i64 8]) ∧ Below w.heap.size w w' := by
  have kB1 : Hid (Rg.Bk w.heap.size [.int .i64 m, .int .i64 s, .int .i64 b, .slice a n c] 24 ((w.alloc (.cells #[.int .i64 m, .int .i64 s, .int .i64 b, .slice a n c] 24)).alloc (.cells #[.int .i64 0, .int .i64 0, .int .i64 0, .slice none 0 0] 24))) := (Rg.Bk.new rfl).old _
  have kR1 : Hid (Rg.Bk (w.heap.size + 1) [.int .i64 0, .int .i64 0, .int .i64 0, .slice none 0 0] 24 ((w.alloc (.cells #[.int .i64 m, .int .i64 s, .int .i64 b, .slice a n c] 24)).alloc (.cells #[.int .i64 0, .int .i64 0, .int .i64 0, .slice none 0 0] 24))) := Rg.Bk.new (by simp)
  have hb1 := Rg.hid (Rg.al2 w (.cells #[.int .i64 m, .int .i64 s, .int .i64 b, .slice a n c] 24) (.cells #[.int .i64 0, .int .i64 0, .int .i64 0, .slice none 0 0] 24))
  go_enter Try.func15, Try.ntmps15
  go_upto_region 1 with fail
  generalize World.alloc _ _ = w1 at *
  obtain ⟨B, hB⟩ : ∃ B, B = w.heap.size := ⟨_, rfl⟩
  obtain ⟨R, hR⟩ : ∃ R, R = w.heap.size + 1 := ⟨_, rfl⟩
  rw [← hR] at kR1 ⊢
  rw [← hB] at kB1 ⊢
  have hBR : B ≠ R := by omega
  have hBw : w.heap.size ≤ B := by omega
  have hRw : w.heap.size ≤ R := by omega
  clear hB hR
  have z0 : w1.cell? ⟨B, 0, none⟩ = some (.int .i64 m) := kB1.out.cell 0
  have z1 : w1.cell? ⟨B, 1, none⟩ = some (.int .i64 s) := kB1.out.cell 1
  have z2 : w1.cell? ⟨B, 2, none⟩ = some (.int .i64 b) := kB1.out.cell 2
  have z3 : w1.cell? ⟨B, 3, none⟩ = some (.slice a n c) := kB1.out.cell 3
  go_upto_region 3 with (go_at_call 27; refine (HR _).mono ?_; rintro e w2 ⟨rfl, b2⟩)
  have kB2 := kB1.out.below b2 kB1.out.lt
  have kR2 := kR1.out.below b2 kR1.out.lt
  have hb2 := Rg.chain hb1.out b2
  clear z0 z1 z2 z3 kB1 kR1 hb1 HR
  obtain ⟨kE, oE⟩ := Rg.ret4 kR2 rfl (.int .i64 m) (.int .i64 s) (.int .i64 b) (.slice a n c)
  have hb4 := Rg.hid (hb2.trans (oE.bel hRw))
  have z0 : w2.cell? ⟨B, 0, none⟩ = some (.int .i64 m) := kB2.cell 0
  have z1 : w2.cell? ⟨B, 1, none⟩ = some (.int .i64 s) := kB2.cell 1
  have z2 : w2.cell? ⟨B, 2, none⟩ = some (.int .i64 b) := kB2.cell 2
  have z3 : w2.cell? ⟨B, 3, none⟩ = some (.slice a n c) := kB2.cell 3
  have r0 : w2.cell? ⟨R, 0, none⟩ = some (.int .i64 0) := kR2.cell 0
  have r1 : w2.cell? ⟨R, 1, none⟩ = some (.int .i64 0) := kR2.cell 1
  have r2 : w2.cell? ⟨R, 2, none⟩ = some (.int .i64 0) := kR2.cell 2
  have r3 : w2.cell? ⟨R, 3, none⟩ = some (.slice none 0 0) := kR2.cell 3
  have rf := kR2.thaw
  replace kE := Rg.hid kE
  clear oE kB2 kR2 b2 hb2
  go_wp2
  replace kE := kE.out
  replace hb4 := hb4.out
  generalize World.setCell _ _ _ = WE at *
  exact bodyPost_ret (v := .tuple #[.agg #[.int .i64 m, .int .i64 s, .int .i64 b, .slice a n c], .int .i64 0, .int .i64 8]) (by simp [results, Try.results15, go_sem, kE.cell]) rfl ⟨rfl, hb4⟩
set_option maxHeartbeats 4000000 in
set_option maxRecDepth 100000 in
theorem put_right (m s b N : Int) (a : Option Addr) (n N1 c : Nat) (x : ByteArray) (l : List ByteArray) (w : World) (HR : RightsAt 27 m s b a n c true) (hf : ((n : Int) == s) = false)
    (HN : Hid (∀ W, Calls Try.prog 28 #[.agg #[.int .i64 m, .int .i64 s, .int .i64 b, .slice a n c], .int .i64 (n : Int)] W fun e w' => e = .returned (.int .i64 N) ∧ Below W.heap.size W w'))
    (HC : Hid (∀ W B g, SRow W a l → Rg.Bk B [.slice a n c, .slice (some ⟨g, 0, none⟩) 1 1] 22 W → Rg.Bk g [.string x] 9 W → Calls Try.prog 29 #[.slice (some ⟨B, 0, none⟩) 2 2] W fun e w' => ∃ g' cap, e = .returned (.slice (some ⟨g', 0, none⟩) N1 cap) ∧ Hid (SRow w' (some ⟨g', 0, none⟩) (l ++ [x])) ∧ Hid (N1 ≤ cap) ∧ Below W.heap.size W w' ∧ Hid (W.heap.size ≤ g')))
    (hrow : Hid (SRow w a l)) :
    Calls Try.prog 15 #[.agg #[.int .i64 m, .int .i64 s, .int .i64 b, .slice a n c], .string x] w fun e w' => ∃ g cap, e = .returned (.tuple #[.agg #[.int .i64 m, .int .i64 s, .int .i64 b, .slice (some ⟨g, 0, none⟩) N1 cap], .int .i64 N, .int .i64 0]) ∧ Hid (SRow w' (some ⟨g, 0, none⟩) (l ++ [x])) ∧ Hid (N1 ≤ cap) ∧ Below w.heap.size w w' ∧ Hid (w.heap.size ≤ g) := by
  have kB1 : Hid (Rg.Bk w.heap.size [.int .i64 m, .int .i64 s, .int .i64 b, .slice a n c] 24 ((w.alloc (.cells #[.int .i64 m, .int .i64 s, .int .i64 b, .slice a n c] 24)).alloc (.cells #[.int .i64 0, .int .i64 0, .int .i64 0, .slice none 0 0] 24))) := (Rg.Bk.new rfl).old _
  have kR1 : Hid (Rg.Bk (w.heap.size + 1) [.int .i64 0, .int .i64 0, .int .i64 0, .slice none 0 0] 24 ((w.alloc (.cells #[.int .i64 m, .int .i64 s, .int .i64 b, .slice a n c] 24)).alloc (.cells #[.int .i64 0, .int .i64 0, .int .i64 0, .slice none 0 0] 24))) := Rg.Bk.new (by simp)
  have hb1 := Rg.hid (Rg.al2 w (.cells #[.int .i64 m, .int .i64 s, .int .i64 b, .slice a n c] 24) (.cells #[.int .i64 0, .int .i64 0, .int .i64 0, .slice none 0 0] 24))
  go_enter Try.func15, Try.ntmps15
  go_upto_region 1 with fail
  generalize World.alloc _ _ = w1 at *
  obtain ⟨B, hB⟩ : ∃ B, B = w.heap.size := ⟨_, rfl⟩
  obtain ⟨R, hR⟩ : ∃ R, R = w.heap.size + 1 := ⟨_, rfl⟩
  rw [← hR] at kR1 ⊢
  rw [← hB] at kB1 ⊢
  have hBR : B ≠ R := by omega
  have hBw : w.heap.size ≤ B := by omega
  have hRw : w.heap.size ≤ R := by omega
  clear hB hR
  have z0 : w1.cell? ⟨B, 0, none⟩ = some (.int .i64 m) := kB1.out.cell 0
  have z1 : w1.cell? ⟨B, 1, none⟩ = some (.int .i64 s) := kB1.out.cell 1
  have z2 : w1.cell? ⟨B, 2, none⟩ = some (.int .i64 b) := kB1.out.cell 2
  have z3 : w1.cell? ⟨B, 3, none⟩ = some (.slice a n c) := kB1.out.cell 3
  go_upto_region 3 with (go_at_call 27; refine (HR _).mono ?_; rintro e w2 ⟨rfl, b2⟩)
  have kB2 := kB1.out.below b2 kB1.out.lt
  have kR2 := Rg.hid (kR1.out.below b2 kR1.out.lt)
  have hb2 := Rg.hid (Rg.chain hb1.out b2)
  clear z0 z1 z2 z3 kB1 kR1 hb1 HR b2
  have z0 : w2.cell? ⟨B, 0, none⟩ = some (.int .i64 m) := kB2.cell 0
  have z1 : w2.cell? ⟨B, 1, none⟩ = some (.int .i64 s) := kB2.cell 1
  have z2 : w2.cell? ⟨B, 2, none⟩ = some (.int .i64 b) := kB2.cell 2
  have z3 : w2.cell? ⟨B, 3, none⟩ = some (.slice a n c) := kB2.cell 3
  replace kB2 := Rg.hid kB2
  go_upto_region 6 with (go_at_call 28; refine (HN.out _).mono ?_; rintro e w3 ⟨rfl, b3⟩)
  have kB3 := kB2.out.below b3 kB2.out.lt
  have kR3 := Rg.hid (kR2.out.below b3 kR2.out.lt)
  have hb3 := Rg.hid (Rg.chain hb2.out b3)
  clear z0 z1 z2 z3 kB2 kR2 hb2 HN b3
  have z0 : w3.cell? ⟨B, 0, none⟩ = some (.int .i64 m) := kB3.cell 0
  have z1 : w3.cell? ⟨B, 1, none⟩ = some (.int .i64 s) := kB3.cell 1
  have z2 : w3.cell? ⟨B, 2, none⟩ = some (.int .i64 b) := kB3.cell 2
  have z3 : w3.cell? ⟨B, 3, none⟩ = some (.slice a n c) := kB3.cell 3
  have hr3 := Rg.hid (hrow.out.below hb3.out)
  have rfB := kB3.thaw
  have kL := Rg.hid (Rg.al2 w3 (.cells #[.string x] 9) (.cells #[.slice a n c, .slice (some ⟨w3.heap.size, 0, none⟩) 1 1] 22))
  have HC3 : Hid (Calls Try.prog 29 #[.slice (some ⟨w3.heap.size + 1, 0, none⟩) 2 2] ((w3.alloc (.cells #[.string x] 9)).alloc (.cells #[.slice a n c, .slice (some ⟨w3.heap.size, 0, none⟩) 1 1] 22)) fun e w' => ∃ g' cap, e = .returned (.slice (some ⟨g', 0, none⟩) N1 cap) ∧ Hid (w.heap.size ≤ g') ∧ Hid (N1 ≤ cap) ∧ Hid (SRow (w'.setCell ⟨B, 3, none⟩ (.slice (some ⟨g', 0, none⟩) N1 cap)) (some ⟨g', 0, none⟩) (l ++ [x])) ∧ w'.cell? ⟨B, 3, none⟩ = some (.slice a n c) ∧ (∀ i, w'.frozen? ⟨B, i, none⟩ = false) ∧ Hid (Rg.Bk B [.int .i64 m, .int .i64 s, .int .i64 b, .slice (some ⟨g', 0, none⟩) N1 cap] 24 (w'.setCell ⟨B, 3, none⟩ (.slice (some ⟨g', 0, none⟩) N1 cap))) ∧ Hid (Rg.Bk R [.int .i64 0, .int .i64 0, .int .i64 0, .slice none 0 0] 24 (w'.setCell ⟨B, 3, none⟩ (.slice (some ⟨g', 0, none⟩) N1 cap))) ∧ Hid (Below w.heap.size w (w'.setCell ⟨B, 3, none⟩ (.slice (some ⟨g', 0, none⟩) N1 cap)))) :=
    (HC.out _ (w3.heap.size + 1) w3.heap.size (hr3.out.below kL.out) (Rg.Bk.new (by simp)) ((Rg.Bk.new rfl).old _)).mono fun e w' ⟨g', cap, h1, h2, h3, h4, h6⟩ => by
      have h5 := Rg.chain kL.out h4
      have k5 := kB3.below h5 kB3.lt
      have r5 := kR3.out.below h5 kR3.out.lt
      have o5 := Rg.Only.setCell w' B 3 (.slice (some ⟨g', 0, none⟩) N1 cap)
      exact ⟨g', cap, h1, Nat.le_trans (Rg.chain hb3.out kL.out).size h6.out, h3, h2.out.only k5 (fun x h => by cases h) o5, k5.cell 3, k5.thaw, k5.set 3 _, r5.other (fun e => hBR e.symm) _, (Rg.chain hb3.out h5).trans (o5.bel hBw)⟩
  clear HC hr3 kL kR3 hb3 kB3
  go_upto_region 7 with (go_at_call 29; refine HC3.out.mono ?_; rintro e w4 ⟨g, cap, rfl, hnw, hc4, hs4, y3, yf, kB4, kR4, b4⟩)
  generalize World.setCell _ _ _ = w5 at *
  replace kB4 := kB4.out
  replace kR4 := kR4.out
  clear z0 z1 z2 z3 rfB y3 yf HC3
  obtain ⟨kE, oE⟩ := Rg.ret4 kR4 rfl (.int .i64 m) (.int .i64 s) (.int .i64 b) (.slice (some ⟨g, 0, none⟩) N1 cap)
  have hb4 := Rg.hid (b4.out.trans (oE.bel hRw))
  have hs5 := Rg.hid (hs4.out.only kR4 (fun x h => by cases h) oE)
  have z0 : w5.cell? ⟨B, 0, none⟩ = some (.int .i64 m) := kB4.cell 0
  have z1 : w5.cell? ⟨B, 1, none⟩ = some (.int .i64 s) := kB4.cell 1
  have z2 : w5.cell? ⟨B, 2, none⟩ = some (.int .i64 b) := kB4.cell 2
  have z3 : w5.cell? ⟨B, 3, none⟩ = some (.slice (some ⟨g, 0, none⟩) N1 cap) := kB4.cell 3
  have r0 : w5.cell? ⟨R, 0, none⟩ = some (.int .i64 0) := kR4.cell 0
  have r1 : w5.cell? ⟨R, 1, none⟩ = some (.int .i64 0) := kR4.cell 1
  have r2 : w5.cell? ⟨R, 2, none⟩ = some (.int .i64 0) := kR4.cell 2
  have r3 : w5.cell? ⟨R, 3, none⟩ = some (.slice none 0 0) := kR4.cell 3
  have rf := kR4.thaw
  replace kE := Rg.hid kE
  clear oE kB4 kR4 b4 hs4
  go_wp2
  replace kE := kE.out
  replace hb4 := hb4.out
  replace hs5 := hs5.out
  generalize World.setCell _ _ _ = WE at *
  exact bodyPost_ret (v := .tuple #[.agg #[.int .i64 m, .int .i64 s, .int .i64 b, .slice (some ⟨g, 0, none⟩) N1 cap], .int .i64 N, .int .i64 0]) (by simp [results, Try.results15, go_sem, kE.cell]) rfl ⟨g, cap, rfl, hs5, hc4, hb4, hnw⟩
/-- What Put answers. -/
def PPost (w : World) (r : Wn.W × Int × Nat) (e : Ending) (w' : World) : Prop := ∃ a c, e = .returned (.tuple #[WV r.1 a c, .int .i64 r.2.1, .int .i64 (r.2.2 : Nat)]) ∧ WAt w' r.1 a c ∧ Below w.heap.size w w'
/-- What Put answers, and that its list is as it was, or new. -/
def PPostN (w : World) (X : Wn.W) (a0 : Option Addr) (c0 : Nat) (r : Wn.W × Int × Nat) (e : Ending) (w' : World) : Prop := ∃ a c, e = .returned (.tuple #[WV r.1 a c, .int .i64 r.2.1, .int .i64 (r.2.2 : Nat)]) ∧ WAt w' r.1 a c ∧ Below w.heap.size w w' ∧ ((r.1 = X ∧ a = a0 ∧ c = c0) ∨ New w a)
theorem put_anyN (X : Wn.W) (a : Option Addr) (c : Nat) (x : ByteArray) (w : World) (h : WAt w X a c) :
    Calls Try.prog 15 #[WV X a c, .string x] w fun e w' => PPostN w X a c (Wn.put X x) e w' := by
  have HR : RightsAt 27 X.md X.sz X.bs a X.l.length c (Wn.rt X) := fun W => isRight_any X a c W
  cases hr : Wn.rt X with
  | false =>
    rw [hr] at HR
    rw [Wn.put_arg hr]
    exact (put_wrong _ _ _ a _ c x w HR).mono fun e w' ⟨h1, h2⟩ => ⟨a, c, h1, h.below h2, h2, .inl ⟨rfl, rfl, rfl⟩⟩
  | true =>
    rw [hr] at HR
    have hp := Wn.rt_parts hr
    by_cases hl : (X.l.length : Int) = X.sz
    · rw [Wn.put_full hr hl]
      exact (put_full _ _ _ a _ c x w HR (by simp [hl])).mono fun e w' ⟨h1, h2⟩ => ⟨a, c, h1, h.below h2, h2, .inl ⟨rfl, rfl, rfl⟩⟩
    · rw [Wn.put_ok hr hl]
      refine (put_right X.md X.sz X.bs _ a X.l.length (X.l.length + 1) c x X.l w HR (by simp [hl]) (fun W => numberAt_any X a c X.l.length hr (by omega) W) (fun W B g h1 h2 h3 => concat_any X.l _ _ rfl rfl (by omega) x a c B g W h1 h2 h3) h.row).mono fun e w' ⟨g, cap, h1, h2, h3, h4, h5⟩ => ?_
      refine ⟨some ⟨g, 0, none⟩, cap, ?_, ⟨h2.out, ?_⟩, h4, .inr (.blk h5.out)⟩
      · rw [h1]
        show _ = Ending.returned (.tuple #[WV ⟨_, _, _, _⟩ _ _, _, _])
        unfold WV
        simp only [List.length_append, List.length_singleton]
        rfl
      · simpa using h3.out
theorem put_any (X : Wn.W) (a : Option Addr) (c : Nat) (x : ByteArray) (w : World) (h : WAt w X a c) :
    Calls Try.prog 15 #[WV X a c, .string x] w fun e w' => PPost w (Wn.put X x) e w' := (put_anyN X a c x w h).mono fun _ _ ⟨a', c', h1, h2, h3, _⟩ => ⟨a', c', h1, h2, h3⟩
end Go.Proofs.Ytnglfefgcdbgmaa
