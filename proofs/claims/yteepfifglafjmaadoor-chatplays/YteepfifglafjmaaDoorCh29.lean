/-
  Layer 8: Tick, arm by arm.
-/
import Derived.Test.YteepfifglafjmaaDoorCh28
namespace Go.Proofs.YteepfifglafjmaaDoor
open Go.RowKit

set_option maxHeartbeats 2000000 in
set_option maxRecDepth 100000 in
theorem tick_done (sa : Option Addr) (sn sc : Nat) (cstep cwant : Int) (cseen : ByteArray) (cwait cpat : Int) (cover cfailed : Bool) (c0 : Ch.Co) (w : World) (hA : Hid (CAt w (.agg #[.slice sa sn sc, .int .i64 cstep, .int .i64 cwant, .string cseen, .int .i64 cwait, .int .i64 cpat, .bool cover, .bool cfailed]) c0)) (hdn : (cover || cfailed) = true) :
    Calls Tryd.prog 14 #[.agg #[.slice sa sn sc, .int .i64 cstep, .int .i64 cwant, .string cseen, .int .i64 cwait, .int .i64 cpat, .bool cover, .bool cfailed]] w fun e w' => GPost w (c0, []) e w' := by
  have kB1 : Hid (Rg.Bk w.heap.size [.slice sa sn sc, .int .i64 cstep, .int .i64 cwant, .string cseen, .int .i64 cwait, .int .i64 cpat, .bool cover, .bool cfailed] 31 ((w.alloc (.cells #[.slice sa sn sc, .int .i64 cstep, .int .i64 cwant, .string cseen, .int .i64 cwait, .int .i64 cpat, .bool cover, .bool cfailed] 31)).alloc (.cells #[.slice none 0 0, .int .i64 0, .int .i64 0, .string ⟨#[]⟩, .int .i64 0, .int .i64 0, .bool false, .bool false] 31))) := (Rg.Bk.new rfl).old _
  have kR1 : Hid (Rg.Bk (w.heap.size + 1) [.slice none 0 0, .int .i64 0, .int .i64 0, .string ⟨#[]⟩, .int .i64 0, .int .i64 0, .bool false, .bool false] 31 ((w.alloc (.cells #[.slice sa sn sc, .int .i64 cstep, .int .i64 cwant, .string cseen, .int .i64 cwait, .int .i64 cpat, .bool cover, .bool cfailed] 31)).alloc (.cells #[.slice none 0 0, .int .i64 0, .int .i64 0, .string ⟨#[]⟩, .int .i64 0, .int .i64 0, .bool false, .bool false] 31))) := Rg.Bk.new (by simp)
  have hb1 := Rg.hid (Rg.al2 w (.cells #[.slice sa sn sc, .int .i64 cstep, .int .i64 cwant, .string cseen, .int .i64 cwait, .int .i64 cpat, .bool cover, .bool cfailed] 31) (.cells #[.slice none 0 0, .int .i64 0, .int .i64 0, .string ⟨#[]⟩, .int .i64 0, .int .i64 0, .bool false, .bool false] 31))
  have HD : Hid (∀ W, Calls Tryd.prog 27 #[.agg #[.slice sa sn sc, .int .i64 cstep, .int .i64 cwant, .string cseen, .int .i64 cwait, .int .i64 cpat, .bool cover, .bool cfailed]] W fun e w' => e = .returned (.bool true) ∧ Below W.heap.size W w') := fun W => by rw [← hdn]; exact done_any sa sn sc cstep cwant cseen cwait cpat cover cfailed W
  clear hdn
  go_enter Tryd.func14, Tryd.ntmps14
  go_upto_region 1 with fail
  generalize World.alloc _ _ = w1 at *
  obtain ⟨B, hB⟩ : ∃ B, B = w.heap.size := ⟨_, rfl⟩
  obtain ⟨R, hR⟩ : ∃ R, R = w.heap.size + 1 := ⟨_, rfl⟩
  rw [← hR] at kR1 ⊢
  rw [← hB] at kB1 ⊢
  have hBR : B ≠ R := by omega
  have hBw : w.heap.size ≤ B := by omega
  have hRw : w.heap.size ≤ R := by omega
  clear hB hR
  have z0 : w1.cell? ⟨B, 0, none⟩ = some (.slice sa sn sc) := kB1.out.cell 0
  have z1 : w1.cell? ⟨B, 1, none⟩ = some (.int .i64 cstep) := kB1.out.cell 1
  have z2 : w1.cell? ⟨B, 2, none⟩ = some (.int .i64 cwant) := kB1.out.cell 2
  have z3 : w1.cell? ⟨B, 3, none⟩ = some (.string cseen) := kB1.out.cell 3
  have z4 : w1.cell? ⟨B, 4, none⟩ = some (.int .i64 cwait) := kB1.out.cell 4
  have z5 : w1.cell? ⟨B, 5, none⟩ = some (.int .i64 cpat) := kB1.out.cell 5
  have z6 : w1.cell? ⟨B, 6, none⟩ = some (.bool cover) := kB1.out.cell 6
  have z7 : w1.cell? ⟨B, 7, none⟩ = some (.bool cfailed) := kB1.out.cell 7
  go_upto_region 2 with (go_at_call 27; refine (HD.out _).mono ?_; rintro e w2 ⟨rfl, b2⟩)
  have kB2 := kB1.out.below b2 kB1.out.lt
  have kR2 := kR1.out.below b2 kR1.out.lt
  have hb2 := Rg.chain hb1.out b2
  clear z0 z1 z2 z3 z4 z5 z6 z7 kB1 kR1 hb1 HD
  obtain ⟨kE, oE⟩ := ret8 kR2 rfl (.slice sa sn sc) (.int .i64 cstep) (.int .i64 cwant) (.string cseen) (.int .i64 cwait) (.int .i64 cpat) (.bool cover) (.bool cfailed)
  have hA4 := Rg.hid (((hA.out.below hb2).only kR2 oE))
  have hb4 := Rg.hid (hb2.trans (oE.bel hRw))
  have z0 : w2.cell? ⟨B, 0, none⟩ = some (.slice sa sn sc) := kB2.cell 0
  have r0 : w2.cell? ⟨R, 0, none⟩ = some (.slice none 0 0) := kR2.cell 0
  have z1 : w2.cell? ⟨B, 1, none⟩ = some (.int .i64 cstep) := kB2.cell 1
  have r1 : w2.cell? ⟨R, 1, none⟩ = some (.int .i64 0) := kR2.cell 1
  have z2 : w2.cell? ⟨B, 2, none⟩ = some (.int .i64 cwant) := kB2.cell 2
  have r2 : w2.cell? ⟨R, 2, none⟩ = some (.int .i64 0) := kR2.cell 2
  have z3 : w2.cell? ⟨B, 3, none⟩ = some (.string cseen) := kB2.cell 3
  have r3 : w2.cell? ⟨R, 3, none⟩ = some (.string ⟨#[]⟩) := kR2.cell 3
  have z4 : w2.cell? ⟨B, 4, none⟩ = some (.int .i64 cwait) := kB2.cell 4
  have r4 : w2.cell? ⟨R, 4, none⟩ = some (.int .i64 0) := kR2.cell 4
  have z5 : w2.cell? ⟨B, 5, none⟩ = some (.int .i64 cpat) := kB2.cell 5
  have r5 : w2.cell? ⟨R, 5, none⟩ = some (.int .i64 0) := kR2.cell 5
  have z6 : w2.cell? ⟨B, 6, none⟩ = some (.bool cover) := kB2.cell 6
  have r6 : w2.cell? ⟨R, 6, none⟩ = some (.bool false) := kR2.cell 6
  have z7 : w2.cell? ⟨B, 7, none⟩ = some (.bool cfailed) := kB2.cell 7
  have r7 : w2.cell? ⟨R, 7, none⟩ = some (.bool false) := kR2.cell 7
  have rf := kR2.thaw
  replace kE := Rg.hid kE
  clear oE kB2 kR2 b2 hb2
  go_wp2
  replace kE := kE.out
  replace hA4 := hA4.out
  replace hb4 := hb4.out
  generalize World.setCell _ _ _ = WE at *
  exact bodyPost_ret (v := .tuple #[.agg #[.slice sa sn sc, .int .i64 cstep, .int .i64 cwant, .string cseen, .int .i64 cwait, .int .i64 cpat, .bool cover, .bool cfailed], .string ⟨#[]⟩]) (by simp [results, Tryd.results14, go_sem, kE.cell]) rfl ⟨_, rfl, hA4, hb4⟩

set_option maxHeartbeats 2000000 in
set_option maxRecDepth 100000 in
theorem tick_wait (sa : Option Addr) (sn sc : Nat) (cstep cwant : Int) (cseen : ByteArray) (cwait cpat : Int) (cover cfailed : Bool) (w1c : Int) (c1 : Ch.Co) (w : World) (hdn : (cover || cfailed) = false) (hw1 : IntKind.i64.wrap (cwait + 1) = w1c) (hle : w1c ≤ cpat) (hA : Hid (CAt w (.agg #[.slice sa sn sc, .int .i64 cstep, .int .i64 cwant, .string cseen, .int .i64 w1c, .int .i64 cpat, .bool cover, .bool cfailed]) c1)) :
    Calls Tryd.prog 14 #[.agg #[.slice sa sn sc, .int .i64 cstep, .int .i64 cwant, .string cseen, .int .i64 cwait, .int .i64 cpat, .bool cover, .bool cfailed]] w fun e w' => GPost w (c1, []) e w' := by
  have dle : decide (w1c ≤ cpat) = true := by simp only [decide_eq_true_eq]; exact hle
  clear hle
  have kB1 : Hid (Rg.Bk w.heap.size [.slice sa sn sc, .int .i64 cstep, .int .i64 cwant, .string cseen, .int .i64 cwait, .int .i64 cpat, .bool cover, .bool cfailed] 31 ((w.alloc (.cells #[.slice sa sn sc, .int .i64 cstep, .int .i64 cwant, .string cseen, .int .i64 cwait, .int .i64 cpat, .bool cover, .bool cfailed] 31)).alloc (.cells #[.slice none 0 0, .int .i64 0, .int .i64 0, .string ⟨#[]⟩, .int .i64 0, .int .i64 0, .bool false, .bool false] 31))) := (Rg.Bk.new rfl).old _
  have kR1 : Hid (Rg.Bk (w.heap.size + 1) [.slice none 0 0, .int .i64 0, .int .i64 0, .string ⟨#[]⟩, .int .i64 0, .int .i64 0, .bool false, .bool false] 31 ((w.alloc (.cells #[.slice sa sn sc, .int .i64 cstep, .int .i64 cwant, .string cseen, .int .i64 cwait, .int .i64 cpat, .bool cover, .bool cfailed] 31)).alloc (.cells #[.slice none 0 0, .int .i64 0, .int .i64 0, .string ⟨#[]⟩, .int .i64 0, .int .i64 0, .bool false, .bool false] 31))) := Rg.Bk.new (by simp)
  have hb1 := Rg.hid (Rg.al2 w (.cells #[.slice sa sn sc, .int .i64 cstep, .int .i64 cwant, .string cseen, .int .i64 cwait, .int .i64 cpat, .bool cover, .bool cfailed] 31) (.cells #[.slice none 0 0, .int .i64 0, .int .i64 0, .string ⟨#[]⟩, .int .i64 0, .int .i64 0, .bool false, .bool false] 31))
  have HD : Hid (∀ W, Calls Tryd.prog 27 #[.agg #[.slice sa sn sc, .int .i64 cstep, .int .i64 cwant, .string cseen, .int .i64 cwait, .int .i64 cpat, .bool cover, .bool cfailed]] W fun e w' => e = .returned (.bool false) ∧ Below W.heap.size W w') := fun W => by rw [← hdn]; exact done_any sa sn sc cstep cwant cseen cwait cpat cover cfailed W
  clear hdn
  go_enter Tryd.func14, Tryd.ntmps14
  go_upto_region 1 with fail
  generalize World.alloc _ _ = w1 at *
  obtain ⟨B, hB⟩ : ∃ B, B = w.heap.size := ⟨_, rfl⟩
  obtain ⟨R, hR⟩ : ∃ R, R = w.heap.size + 1 := ⟨_, rfl⟩
  rw [← hR] at kR1 ⊢
  rw [← hB] at kB1 ⊢
  have hBR : B ≠ R := by omega
  have hBw : w.heap.size ≤ B := by omega
  have hRw : w.heap.size ≤ R := by omega
  clear hB hR
  have z0 : w1.cell? ⟨B, 0, none⟩ = some (.slice sa sn sc) := kB1.out.cell 0
  have z1 : w1.cell? ⟨B, 1, none⟩ = some (.int .i64 cstep) := kB1.out.cell 1
  have z2 : w1.cell? ⟨B, 2, none⟩ = some (.int .i64 cwant) := kB1.out.cell 2
  have z3 : w1.cell? ⟨B, 3, none⟩ = some (.string cseen) := kB1.out.cell 3
  have z4 : w1.cell? ⟨B, 4, none⟩ = some (.int .i64 cwait) := kB1.out.cell 4
  have z5 : w1.cell? ⟨B, 5, none⟩ = some (.int .i64 cpat) := kB1.out.cell 5
  have z6 : w1.cell? ⟨B, 6, none⟩ = some (.bool cover) := kB1.out.cell 6
  have z7 : w1.cell? ⟨B, 7, none⟩ = some (.bool cfailed) := kB1.out.cell 7
  go_upto_region 3 with (go_at_call 27; refine (HD.out _).mono ?_; rintro e w2 ⟨rfl, b2⟩)
  have kB2 := kB1.out.below b2 kB1.out.lt
  have kR2 := Rg.hid (kR1.out.below b2 kR1.out.lt)
  have hb2 := Rg.hid (Rg.chain hb1.out b2)
  clear z0 z1 z2 z3 z4 z5 z6 z7 kB1 kR1 hb1 HD b2
  have z4 : w2.cell? ⟨B, 4, none⟩ = some (.int .i64 cwait) := kB2.cell 4
  have zf := kB2.thaw
  have kB3 : Hid (Rg.Bk B [.slice sa sn sc, .int .i64 cstep, .int .i64 cwant, .string cseen, .int .i64 w1c, .int .i64 cpat, .bool cover, .bool cfailed] 31 (w2.setCell ⟨B, 4, none⟩ (.int .i64 w1c))) := kB2.set 4 (.int .i64 w1c)
  have o3 := Rg.Only.setCell w2 B 4 (.int .i64 w1c)
  have kR3 := Rg.hid (kR2.out.same (o3.block R (Ne.symm hBR)))
  have hb3 := Rg.hid (hb2.out.trans (o3.bel hBw))
  clear kB2 kR2 hb2 o3
  go_upto_region 4 with fail
  clear z4 zf
  generalize World.setCell _ _ _ = w3 at *
  obtain ⟨kE, oE⟩ := ret8 kR3.out rfl (.slice sa sn sc) (.int .i64 cstep) (.int .i64 cwant) (.string cseen) (.int .i64 w1c) (.int .i64 cpat) (.bool cover) (.bool cfailed)
  have hA4 := Rg.hid (((hA.out.below hb3.out).only kR3.out oE))
  have hb4 := Rg.hid (hb3.out.trans (oE.bel hRw))
  have z0 : w3.cell? ⟨B, 0, none⟩ = some (.slice sa sn sc) := kB3.out.cell 0
  have z1 : w3.cell? ⟨B, 1, none⟩ = some (.int .i64 cstep) := kB3.out.cell 1
  have z2 : w3.cell? ⟨B, 2, none⟩ = some (.int .i64 cwant) := kB3.out.cell 2
  have z3 : w3.cell? ⟨B, 3, none⟩ = some (.string cseen) := kB3.out.cell 3
  have z4 : w3.cell? ⟨B, 4, none⟩ = some (.int .i64 w1c) := kB3.out.cell 4
  have z5 : w3.cell? ⟨B, 5, none⟩ = some (.int .i64 cpat) := kB3.out.cell 5
  have z6 : w3.cell? ⟨B, 6, none⟩ = some (.bool cover) := kB3.out.cell 6
  have z7 : w3.cell? ⟨B, 7, none⟩ = some (.bool cfailed) := kB3.out.cell 7
  have r0 : w3.cell? ⟨R, 0, none⟩ = some (.slice none 0 0) := kR3.out.cell 0
  have r1 : w3.cell? ⟨R, 1, none⟩ = some (.int .i64 0) := kR3.out.cell 1
  have r2 : w3.cell? ⟨R, 2, none⟩ = some (.int .i64 0) := kR3.out.cell 2
  have r3 : w3.cell? ⟨R, 3, none⟩ = some (.string ⟨#[]⟩) := kR3.out.cell 3
  have r4 : w3.cell? ⟨R, 4, none⟩ = some (.int .i64 0) := kR3.out.cell 4
  have r5 : w3.cell? ⟨R, 5, none⟩ = some (.int .i64 0) := kR3.out.cell 5
  have r6 : w3.cell? ⟨R, 6, none⟩ = some (.bool false) := kR3.out.cell 6
  have r7 : w3.cell? ⟨R, 7, none⟩ = some (.bool false) := kR3.out.cell 7
  have rf := kR3.out.thaw
  replace kE := Rg.hid kE
  clear oE kB3 kR3 hb3
  go_wp2
  replace kE := kE.out
  replace hA4 := hA4.out
  replace hb4 := hb4.out
  generalize World.setCell _ _ _ = WE at *
  exact bodyPost_ret (v := .tuple #[.agg #[.slice sa sn sc, .int .i64 cstep, .int .i64 cwant, .string cseen, .int .i64 w1c, .int .i64 cpat, .bool cover, .bool cfailed], .string ⟨#[]⟩]) (by simp [results, Tryd.results14, go_sem, kE.cell]) rfl ⟨_, rfl, hA4, hb4⟩

set_option maxHeartbeats 2000000 in
set_option maxRecDepth 100000 in
theorem tick_fail (sa : Option Addr) (sn sc : Nat) (cstep cwant : Int) (cseen : ByteArray) (cwait cpat : Int) (cover cfailed : Bool) (w1c : Int) (c1 : Ch.Co) (w : World) (hdn : (cover || cfailed) = false) (hw1 : IntKind.i64.wrap (cwait + 1) = w1c) (hle : ¬ w1c ≤ cpat) (HN : Hid (∀ W, Below w.heap.size w W → Calls Tryd.prog 28 #[.agg #[.slice sa sn sc, .int .i64 cstep, .int .i64 cwant, .string cseen, .int .i64 w1c, .int .i64 cpat, .bool cover, .bool cfailed]] W fun e w' => e = .returned (.tuple #[.string ⟨#[]⟩, .bool false]) ∧ Hid (Below W.heap.size W w'))) (hA : Hid (CAt w (.agg #[.slice sa sn sc, .int .i64 cstep, .int .i64 cwant, .string cseen, .int .i64 w1c, .int .i64 cpat, .bool cover, .bool true]) c1)) :
    Calls Tryd.prog 14 #[.agg #[.slice sa sn sc, .int .i64 cstep, .int .i64 cwant, .string cseen, .int .i64 cwait, .int .i64 cpat, .bool cover, .bool cfailed]] w fun e w' => GPost w (c1, []) e w' := by
  have dle : decide (w1c ≤ cpat) = false := by simp only [decide_eq_false_iff_not]; exact hle
  clear hle
  have kB1 : Hid (Rg.Bk w.heap.size [.slice sa sn sc, .int .i64 cstep, .int .i64 cwant, .string cseen, .int .i64 cwait, .int .i64 cpat, .bool cover, .bool cfailed] 31 ((w.alloc (.cells #[.slice sa sn sc, .int .i64 cstep, .int .i64 cwant, .string cseen, .int .i64 cwait, .int .i64 cpat, .bool cover, .bool cfailed] 31)).alloc (.cells #[.slice none 0 0, .int .i64 0, .int .i64 0, .string ⟨#[]⟩, .int .i64 0, .int .i64 0, .bool false, .bool false] 31))) := (Rg.Bk.new rfl).old _
  have kR1 : Hid (Rg.Bk (w.heap.size + 1) [.slice none 0 0, .int .i64 0, .int .i64 0, .string ⟨#[]⟩, .int .i64 0, .int .i64 0, .bool false, .bool false] 31 ((w.alloc (.cells #[.slice sa sn sc, .int .i64 cstep, .int .i64 cwant, .string cseen, .int .i64 cwait, .int .i64 cpat, .bool cover, .bool cfailed] 31)).alloc (.cells #[.slice none 0 0, .int .i64 0, .int .i64 0, .string ⟨#[]⟩, .int .i64 0, .int .i64 0, .bool false, .bool false] 31))) := Rg.Bk.new (by simp)
  have hb1 := Rg.hid (Rg.al2 w (.cells #[.slice sa sn sc, .int .i64 cstep, .int .i64 cwant, .string cseen, .int .i64 cwait, .int .i64 cpat, .bool cover, .bool cfailed] 31) (.cells #[.slice none 0 0, .int .i64 0, .int .i64 0, .string ⟨#[]⟩, .int .i64 0, .int .i64 0, .bool false, .bool false] 31))
  have HD : Hid (∀ W, Calls Tryd.prog 27 #[.agg #[.slice sa sn sc, .int .i64 cstep, .int .i64 cwant, .string cseen, .int .i64 cwait, .int .i64 cpat, .bool cover, .bool cfailed]] W fun e w' => e = .returned (.bool false) ∧ Below W.heap.size W w') := fun W => by rw [← hdn]; exact done_any sa sn sc cstep cwant cseen cwait cpat cover cfailed W
  clear hdn
  go_enter Tryd.func14, Tryd.ntmps14
  go_upto_region 1 with fail
  generalize World.alloc _ _ = w1 at *
  obtain ⟨B, hB⟩ : ∃ B, B = w.heap.size := ⟨_, rfl⟩
  obtain ⟨R, hR⟩ : ∃ R, R = w.heap.size + 1 := ⟨_, rfl⟩
  rw [← hR] at kR1 ⊢
  rw [← hB] at kB1 ⊢
  have hBR : B ≠ R := by omega
  have hBw : w.heap.size ≤ B := by omega
  have hRw : w.heap.size ≤ R := by omega
  clear hB hR
  have z0 : w1.cell? ⟨B, 0, none⟩ = some (.slice sa sn sc) := kB1.out.cell 0
  have z1 : w1.cell? ⟨B, 1, none⟩ = some (.int .i64 cstep) := kB1.out.cell 1
  have z2 : w1.cell? ⟨B, 2, none⟩ = some (.int .i64 cwant) := kB1.out.cell 2
  have z3 : w1.cell? ⟨B, 3, none⟩ = some (.string cseen) := kB1.out.cell 3
  have z4 : w1.cell? ⟨B, 4, none⟩ = some (.int .i64 cwait) := kB1.out.cell 4
  have z5 : w1.cell? ⟨B, 5, none⟩ = some (.int .i64 cpat) := kB1.out.cell 5
  have z6 : w1.cell? ⟨B, 6, none⟩ = some (.bool cover) := kB1.out.cell 6
  have z7 : w1.cell? ⟨B, 7, none⟩ = some (.bool cfailed) := kB1.out.cell 7
  go_upto_region 3 with (go_at_call 27; refine (HD.out _).mono ?_; rintro e w2 ⟨rfl, b2⟩)
  have kB2 := kB1.out.below b2 kB1.out.lt
  have kR2 := Rg.hid (kR1.out.below b2 kR1.out.lt)
  have hb2 := Rg.hid (Rg.chain hb1.out b2)
  clear z0 z1 z2 z3 z4 z5 z6 z7 kB1 kR1 hb1 HD b2
  have z4 : w2.cell? ⟨B, 4, none⟩ = some (.int .i64 cwait) := kB2.cell 4
  have zf := kB2.thaw
  have kB3 : Hid (Rg.Bk B [.slice sa sn sc, .int .i64 cstep, .int .i64 cwant, .string cseen, .int .i64 w1c, .int .i64 cpat, .bool cover, .bool cfailed] 31 (w2.setCell ⟨B, 4, none⟩ (.int .i64 w1c))) := kB2.set 4 (.int .i64 w1c)
  have o3 := Rg.Only.setCell w2 B 4 (.int .i64 w1c)
  have kR3 := Rg.hid (kR2.out.same (o3.block R (Ne.symm hBR)))
  have hb3 := Rg.hid (hb2.out.trans (o3.bel hBw))
  clear kB2 kR2 hb2 o3
  go_upto_region 4 with fail
  clear z4 zf
  generalize World.setCell _ _ _ = w3 at *
  have z0 : w3.cell? ⟨B, 0, none⟩ = some (.slice sa sn sc) := kB3.out.cell 0
  have z1 : w3.cell? ⟨B, 1, none⟩ = some (.int .i64 cstep) := kB3.out.cell 1
  have z2 : w3.cell? ⟨B, 2, none⟩ = some (.int .i64 cwant) := kB3.out.cell 2
  have z3 : w3.cell? ⟨B, 3, none⟩ = some (.string cseen) := kB3.out.cell 3
  have z4 : w3.cell? ⟨B, 4, none⟩ = some (.int .i64 w1c) := kB3.out.cell 4
  have z5 : w3.cell? ⟨B, 5, none⟩ = some (.int .i64 cpat) := kB3.out.cell 5
  have z6 : w3.cell? ⟨B, 6, none⟩ = some (.bool cover) := kB3.out.cell 6
  have z7 : w3.cell? ⟨B, 7, none⟩ = some (.bool cfailed) := kB3.out.cell 7
  go_upto_region 8 with (go_at_call 28; refine (HN.out _ hb3.out).mono ?_; rintro e w4 ⟨rfl, b4⟩)
  clear z0 z1 z2 z3 z4 z5 z6 z7 HN
  have kB4 := kB3.out.below b4.out kB3.out.lt
  have kR4 := kR3.out.below b4.out kR3.out.lt
  have hb4 := Rg.chain hb3.out b4.out
  have z7 : w4.cell? ⟨B, 7, none⟩ = some (.bool cfailed) := kB4.cell 7
  have zf := kB4.thaw
  have kB5 : Hid (Rg.Bk B [.slice sa sn sc, .int .i64 cstep, .int .i64 cwant, .string cseen, .int .i64 w1c, .int .i64 cpat, .bool cover, .bool true] 31 (w4.setCell ⟨B, 7, none⟩ (.bool true))) := kB4.set 7 (.bool true)
  have o5 := Rg.Only.setCell w4 B 7 (.bool true)
  have kR5 := Rg.hid (kR4.same (o5.block R (Ne.symm hBR)))
  have hb5 := Rg.hid (hb4.trans (o5.bel hBw))
  clear kB4 kR4 hb4 o5 kB3 kR3 hb3 b4
  go_upto_region 9 with fail
  clear z7 zf
  generalize World.setCell _ _ _ = w5 at *
  obtain ⟨kE, oE⟩ := ret8 kR5.out rfl (.slice sa sn sc) (.int .i64 cstep) (.int .i64 cwant) (.string cseen) (.int .i64 w1c) (.int .i64 cpat) (.bool cover) (.bool true)
  have hA6 := Rg.hid (((hA.out.below hb5.out).only kR5.out oE))
  have hb6 := Rg.hid (hb5.out.trans (oE.bel hRw))
  have z0 : w5.cell? ⟨B, 0, none⟩ = some (.slice sa sn sc) := kB5.out.cell 0
  have z1 : w5.cell? ⟨B, 1, none⟩ = some (.int .i64 cstep) := kB5.out.cell 1
  have z2 : w5.cell? ⟨B, 2, none⟩ = some (.int .i64 cwant) := kB5.out.cell 2
  have z3 : w5.cell? ⟨B, 3, none⟩ = some (.string cseen) := kB5.out.cell 3
  have z4 : w5.cell? ⟨B, 4, none⟩ = some (.int .i64 w1c) := kB5.out.cell 4
  have z5 : w5.cell? ⟨B, 5, none⟩ = some (.int .i64 cpat) := kB5.out.cell 5
  have z6 : w5.cell? ⟨B, 6, none⟩ = some (.bool cover) := kB5.out.cell 6
  have z7 : w5.cell? ⟨B, 7, none⟩ = some (.bool true) := kB5.out.cell 7
  have r0 : w5.cell? ⟨R, 0, none⟩ = some (.slice none 0 0) := kR5.out.cell 0
  have r1 : w5.cell? ⟨R, 1, none⟩ = some (.int .i64 0) := kR5.out.cell 1
  have r2 : w5.cell? ⟨R, 2, none⟩ = some (.int .i64 0) := kR5.out.cell 2
  have r3 : w5.cell? ⟨R, 3, none⟩ = some (.string ⟨#[]⟩) := kR5.out.cell 3
  have r4 : w5.cell? ⟨R, 4, none⟩ = some (.int .i64 0) := kR5.out.cell 4
  have r5 : w5.cell? ⟨R, 5, none⟩ = some (.int .i64 0) := kR5.out.cell 5
  have r6 : w5.cell? ⟨R, 6, none⟩ = some (.bool false) := kR5.out.cell 6
  have r7 : w5.cell? ⟨R, 7, none⟩ = some (.bool false) := kR5.out.cell 7
  have rf := kR5.out.thaw
  replace kE := Rg.hid kE
  clear oE kB5 kR5 hb5
  go_wp2
  replace kE := kE.out
  replace hA6 := hA6.out
  replace hb6 := hb6.out
  generalize World.setCell _ _ _ = WE at *
  exact bodyPost_ret (v := .tuple #[.agg #[.slice sa sn sc, .int .i64 cstep, .int .i64 cwant, .string cseen, .int .i64 w1c, .int .i64 cpat, .bool cover, .bool true], .string ⟨#[]⟩]) (by simp [results, Tryd.results14, go_sem, kE.cell]) rfl ⟨_, rfl, hA6, hb6⟩

set_option maxHeartbeats 2000000 in
set_option maxRecDepth 100000 in
theorem tick_go (sa : Option Addr) (sn sc : Nat) (cstep cwant : Int) (cseen : ByteArray) (cwait cpat : Int) (cover cfailed : Bool) (w1c : Int) (n1c : Int) (s : ByteArray) (r : Ch.Co × List UInt8) (w : World) (hdn : (cover || cfailed) = false) (hw1 : IntKind.i64.wrap (cwait + 1) = w1c) (hle : ¬ w1c ≤ cpat) (HN : Hid (∀ W, Below w.heap.size w W → Calls Tryd.prog 28 #[.agg #[.slice sa sn sc, .int .i64 cstep, .int .i64 cwant, .string cseen, .int .i64 w1c, .int .i64 cpat, .bool cover, .bool cfailed]] W fun e w' => e = .returned (.tuple #[.string s, .bool true]) ∧ Hid (Below W.heap.size W w'))) (hn1 : IntKind.i64.wrap (cwant + 1) = n1c) (hsz : ¬ 9223372036854775807 < s.size + r.2.length) (HG : Hid (∀ W, Below w.heap.size w W → Calls Tryd.prog 23 #[.agg #[.slice sa sn sc, .int .i64 cstep, .int .i64 n1c, .string cseen, .int .i64 0, .int .i64 cpat, .bool cover, .bool cfailed]] W fun e w' => GEx W r e w')) :
    Calls Tryd.prog 14 #[.agg #[.slice sa sn sc, .int .i64 cstep, .int .i64 cwant, .string cseen, .int .i64 cwait, .int .i64 cpat, .bool cover, .bool cfailed]] w fun e w' => GPost w (r.1, s.data.toList ++ r.2) e w' := by
  have dle : decide (w1c ≤ cpat) = false := by simp only [decide_eq_false_iff_not]; exact hle
  clear hle
  unfold GEx at HG
  have kB1 : Hid (Rg.Bk w.heap.size [.slice sa sn sc, .int .i64 cstep, .int .i64 cwant, .string cseen, .int .i64 cwait, .int .i64 cpat, .bool cover, .bool cfailed] 31 ((w.alloc (.cells #[.slice sa sn sc, .int .i64 cstep, .int .i64 cwant, .string cseen, .int .i64 cwait, .int .i64 cpat, .bool cover, .bool cfailed] 31)).alloc (.cells #[.slice none 0 0, .int .i64 0, .int .i64 0, .string ⟨#[]⟩, .int .i64 0, .int .i64 0, .bool false, .bool false] 31))) := (Rg.Bk.new rfl).old _
  have kR1 : Hid (Rg.Bk (w.heap.size + 1) [.slice none 0 0, .int .i64 0, .int .i64 0, .string ⟨#[]⟩, .int .i64 0, .int .i64 0, .bool false, .bool false] 31 ((w.alloc (.cells #[.slice sa sn sc, .int .i64 cstep, .int .i64 cwant, .string cseen, .int .i64 cwait, .int .i64 cpat, .bool cover, .bool cfailed] 31)).alloc (.cells #[.slice none 0 0, .int .i64 0, .int .i64 0, .string ⟨#[]⟩, .int .i64 0, .int .i64 0, .bool false, .bool false] 31))) := Rg.Bk.new (by simp)
  have hb1 := Rg.hid (Rg.al2 w (.cells #[.slice sa sn sc, .int .i64 cstep, .int .i64 cwant, .string cseen, .int .i64 cwait, .int .i64 cpat, .bool cover, .bool cfailed] 31) (.cells #[.slice none 0 0, .int .i64 0, .int .i64 0, .string ⟨#[]⟩, .int .i64 0, .int .i64 0, .bool false, .bool false] 31))
  have HD : Hid (∀ W, Calls Tryd.prog 27 #[.agg #[.slice sa sn sc, .int .i64 cstep, .int .i64 cwant, .string cseen, .int .i64 cwait, .int .i64 cpat, .bool cover, .bool cfailed]] W fun e w' => e = .returned (.bool false) ∧ Below W.heap.size W w') := fun W => by rw [← hdn]; exact done_any sa sn sc cstep cwant cseen cwait cpat cover cfailed W
  clear hdn
  go_enter Tryd.func14, Tryd.ntmps14
  go_upto_region 1 with fail
  generalize World.alloc _ _ = w1 at *
  obtain ⟨B, hB⟩ : ∃ B, B = w.heap.size := ⟨_, rfl⟩
  obtain ⟨R, hR⟩ : ∃ R, R = w.heap.size + 1 := ⟨_, rfl⟩
  rw [← hR] at kR1 ⊢
  rw [← hB] at kB1 ⊢
  have hBR : B ≠ R := by omega
  have hBw : w.heap.size ≤ B := by omega
  have hRw : w.heap.size ≤ R := by omega
  clear hB hR
  have z0 : w1.cell? ⟨B, 0, none⟩ = some (.slice sa sn sc) := kB1.out.cell 0
  have z1 : w1.cell? ⟨B, 1, none⟩ = some (.int .i64 cstep) := kB1.out.cell 1
  have z2 : w1.cell? ⟨B, 2, none⟩ = some (.int .i64 cwant) := kB1.out.cell 2
  have z3 : w1.cell? ⟨B, 3, none⟩ = some (.string cseen) := kB1.out.cell 3
  have z4 : w1.cell? ⟨B, 4, none⟩ = some (.int .i64 cwait) := kB1.out.cell 4
  have z5 : w1.cell? ⟨B, 5, none⟩ = some (.int .i64 cpat) := kB1.out.cell 5
  have z6 : w1.cell? ⟨B, 6, none⟩ = some (.bool cover) := kB1.out.cell 6
  have z7 : w1.cell? ⟨B, 7, none⟩ = some (.bool cfailed) := kB1.out.cell 7
  go_upto_region 3 with (go_at_call 27; refine (HD.out _).mono ?_; rintro e w2 ⟨rfl, b2⟩)
  have kB2 := kB1.out.below b2 kB1.out.lt
  have kR2 := Rg.hid (kR1.out.below b2 kR1.out.lt)
  have hb2 := Rg.hid (Rg.chain hb1.out b2)
  clear z0 z1 z2 z3 z4 z5 z6 z7 kB1 kR1 hb1 HD b2
  have z4 : w2.cell? ⟨B, 4, none⟩ = some (.int .i64 cwait) := kB2.cell 4
  have zf := kB2.thaw
  have kB3 : Hid (Rg.Bk B [.slice sa sn sc, .int .i64 cstep, .int .i64 cwant, .string cseen, .int .i64 w1c, .int .i64 cpat, .bool cover, .bool cfailed] 31 (w2.setCell ⟨B, 4, none⟩ (.int .i64 w1c))) := kB2.set 4 (.int .i64 w1c)
  have o3 := Rg.Only.setCell w2 B 4 (.int .i64 w1c)
  have kR3 := Rg.hid (kR2.out.same (o3.block R (Ne.symm hBR)))
  have hb3 := Rg.hid (hb2.out.trans (o3.bel hBw))
  clear kB2 kR2 hb2 o3
  go_upto_region 4 with fail
  clear z4 zf
  generalize World.setCell _ _ _ = w3 at *
  have z0 : w3.cell? ⟨B, 0, none⟩ = some (.slice sa sn sc) := kB3.out.cell 0
  have z1 : w3.cell? ⟨B, 1, none⟩ = some (.int .i64 cstep) := kB3.out.cell 1
  have z2 : w3.cell? ⟨B, 2, none⟩ = some (.int .i64 cwant) := kB3.out.cell 2
  have z3 : w3.cell? ⟨B, 3, none⟩ = some (.string cseen) := kB3.out.cell 3
  have z4 : w3.cell? ⟨B, 4, none⟩ = some (.int .i64 w1c) := kB3.out.cell 4
  have z5 : w3.cell? ⟨B, 5, none⟩ = some (.int .i64 cpat) := kB3.out.cell 5
  have z6 : w3.cell? ⟨B, 6, none⟩ = some (.bool cover) := kB3.out.cell 6
  have z7 : w3.cell? ⟨B, 7, none⟩ = some (.bool cfailed) := kB3.out.cell 7
  go_upto_region 10 with (go_at_call 28; refine (HN.out _ hb3.out).mono ?_; rintro e w4 ⟨rfl, b4⟩)
  clear z0 z1 z2 z3 z4 z5 z6 z7 HN
  have kB4 := kB3.out.below b4.out kB3.out.lt
  have kR4 := kR3.out.below b4.out kR3.out.lt
  have hb4 := Rg.chain hb3.out b4.out
  have z2 : w4.cell? ⟨B, 2, none⟩ = some (.int .i64 cwant) := kB4.cell 2
  have zf := kB4.thaw
  have kB5 : Hid (Rg.Bk B [.slice sa sn sc, .int .i64 cstep, .int .i64 n1c, .string cseen, .int .i64 w1c, .int .i64 cpat, .bool cover, .bool cfailed] 31 (w4.setCell ⟨B, 2, none⟩ (.int .i64 n1c))) := kB4.set 2 (.int .i64 n1c)
  have o5 := Rg.Only.setCell w4 B 2 (.int .i64 n1c)
  have kR5 := Rg.hid (kR4.same (o5.block R (Ne.symm hBR)))
  have hb5 := Rg.hid (hb4.trans (o5.bel hBw))
  clear kB4 kR4 hb4 o5 kB3 kR3 hb3 b4
  go_upto_region 11 with fail
  clear z2 zf
  generalize World.setCell _ _ _ = w5 at *
  have z4 : w5.cell? ⟨B, 4, none⟩ = some (.int .i64 w1c) := kB5.out.cell 4
  have zf := kB5.out.thaw
  have kB6 : Hid (Rg.Bk B [.slice sa sn sc, .int .i64 cstep, .int .i64 n1c, .string cseen, .int .i64 0, .int .i64 cpat, .bool cover, .bool cfailed] 31 (w5.setCell ⟨B, 4, none⟩ (.int .i64 0))) := kB5.out.set 4 (.int .i64 0)
  have o6 := Rg.Only.setCell w5 B 4 (.int .i64 0)
  have kR6 := Rg.hid (kR5.out.same (o6.block R (Ne.symm hBR)))
  have hb6 := Rg.hid (hb5.out.trans (o6.bel hBw))
  clear kB5 kR5 hb5 o6
  go_upto_region 12 with fail
  clear z4 zf
  generalize World.setCell _ _ _ = w6 at *
  have z0 : w6.cell? ⟨B, 0, none⟩ = some (.slice sa sn sc) := kB6.out.cell 0
  have z1 : w6.cell? ⟨B, 1, none⟩ = some (.int .i64 cstep) := kB6.out.cell 1
  have z2 : w6.cell? ⟨B, 2, none⟩ = some (.int .i64 n1c) := kB6.out.cell 2
  have z3 : w6.cell? ⟨B, 3, none⟩ = some (.string cseen) := kB6.out.cell 3
  have z4 : w6.cell? ⟨B, 4, none⟩ = some (.int .i64 0) := kB6.out.cell 4
  have z5 : w6.cell? ⟨B, 5, none⟩ = some (.int .i64 cpat) := kB6.out.cell 5
  have z6 : w6.cell? ⟨B, 6, none⟩ = some (.bool cover) := kB6.out.cell 6
  have z7 : w6.cell? ⟨B, 7, none⟩ = some (.bool cfailed) := kB6.out.cell 7
  go_upto_region 13 with (go_at_call 23; refine (HG.out _ hb6.out).mono ?_; rintro e w7 ⟨sa', sn', sc', step', want', seen', wait', pat', over', failed', rfl, hA7, b7⟩; have kB7 := kB6.out.below b7 kB6.out.lt; have yf := kB7.thaw; have y0 := kB7.cell 0; have y1 := kB7.cell 1; have y2 := kB7.cell 2; have y3 := kB7.cell 3; have y4 := kB7.cell 4; have y5 := kB7.cell 5; have y6 := kB7.cell 6; have y7 := kB7.cell 7; simp only [List.getElem?_cons_zero, List.getElem?_cons_succ] at y0 y1 y2 y3 y4 y5 y6 y7)
  obtain ⟨kB8, o8⟩ := ret8 kB7 rfl (.slice sa' sn' sc') (.int .i64 step') (.int .i64 want') (.string seen') (.int .i64 wait') (.int .i64 pat') (.bool over') (.bool failed')
  have kR8 := (kR6.out.below b7 kR6.out.lt).same (o8.block R (Ne.symm hBR))
  have hA8 := hA7.only kB7 o8
  have hb8 := (Rg.chain hb6.out b7).trans (o8.bel hBw)
  clear z0 z1 z2 z3 z4 z5 z6 z7 y0 y1 y2 y3 y4 y5 y6 y7 yf kB7 kB6 kR6 hb6 b7 HG o8 hA7
  generalize World.setCell _ _ _ = w8 at *
  obtain ⟨kE, oE⟩ := ret8 kR8 rfl (.slice sa' sn' sc') (.int .i64 step') (.int .i64 want') (.string seen') (.int .i64 wait') (.int .i64 pat') (.bool over') (.bool failed')
  have hA9 := Rg.hid (hA8.only kR8 oE)
  have hb9 := Rg.hid (hb8.trans (oE.bel hRw))
  obtain ⟨T, hT⟩ : ∃ T : ByteArray, (⟨r.2.toArray⟩ : ByteArray) = T := ⟨_, rfl⟩
  have hTs : T.size = r.2.length := by rw [← hT]; exact List.size_toArray
  have hcc : Hid ((⟨(s.data.toList ++ r.2).toArray⟩ : ByteArray) = s ++ T) := by show _ = _; rw [← hT]; apply ba_ext; simp
  have hsz2 : ¬ 9223372036854775807 < s.size + T.size := by omega
  rw [hT]
  clear hTs hsz hT
  have z0 : w8.cell? ⟨B, 0, none⟩ = some (.slice sa' sn' sc') := kB8.cell 0
  have z1 : w8.cell? ⟨B, 1, none⟩ = some (.int .i64 step') := kB8.cell 1
  have z2 : w8.cell? ⟨B, 2, none⟩ = some (.int .i64 want') := kB8.cell 2
  have z3 : w8.cell? ⟨B, 3, none⟩ = some (.string seen') := kB8.cell 3
  have z4 : w8.cell? ⟨B, 4, none⟩ = some (.int .i64 wait') := kB8.cell 4
  have z5 : w8.cell? ⟨B, 5, none⟩ = some (.int .i64 pat') := kB8.cell 5
  have z6 : w8.cell? ⟨B, 6, none⟩ = some (.bool over') := kB8.cell 6
  have z7 : w8.cell? ⟨B, 7, none⟩ = some (.bool failed') := kB8.cell 7
  have r0 : w8.cell? ⟨R, 0, none⟩ = some (.slice none 0 0) := kR8.cell 0
  have r1 : w8.cell? ⟨R, 1, none⟩ = some (.int .i64 0) := kR8.cell 1
  have r2 : w8.cell? ⟨R, 2, none⟩ = some (.int .i64 0) := kR8.cell 2
  have r3 : w8.cell? ⟨R, 3, none⟩ = some (.string ⟨#[]⟩) := kR8.cell 3
  have r4 : w8.cell? ⟨R, 4, none⟩ = some (.int .i64 0) := kR8.cell 4
  have r5 : w8.cell? ⟨R, 5, none⟩ = some (.int .i64 0) := kR8.cell 5
  have r6 : w8.cell? ⟨R, 6, none⟩ = some (.bool false) := kR8.cell 6
  have r7 : w8.cell? ⟨R, 7, none⟩ = some (.bool false) := kR8.cell 7
  have rf := kR8.thaw
  replace kE := Rg.hid kE
  clear oE kB8 kR8 hb8 hA8
  go_wp2
  replace kE := kE.out
  replace hA9 := hA9.out
  replace hb9 := hb9.out
  generalize World.setCell _ _ _ = WE at *
  exact bodyPost_ret (v := .tuple #[.agg #[.slice sa' sn' sc', .int .i64 step', .int .i64 want', .string seen', .int .i64 wait', .int .i64 pat', .bool over', .bool failed'], .string (s ++ T)]) (by simp [results, Tryd.results14, go_sem, kE.cell]) rfl ⟨_, by rw [hcc.out], hA9, hb9⟩
end Go.Proofs.YteepfifglafjmaaDoor
