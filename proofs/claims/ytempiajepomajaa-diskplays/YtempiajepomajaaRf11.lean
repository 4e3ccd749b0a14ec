/-
  Layer 6: the document's disk: Start, Arm, Room.
-/
import Derived.Test.YtempiajepomajaaRf10
namespace Go.Proofs.Ytempiajepomajaa
open Go.RowKit

set_option maxHeartbeats 2000000 in
set_option maxRecDepth 100000 in
theorem rstart_any (v : Value) (d : Dsk.Dk) (w : World) (hd : Dsk.Ok d) (h : DAt w v d) :
    Calls Try.prog 39 #[v] w fun e w' => NotePost w (Dsk.start d) e w' := by
  have HO : Hid (∀ W, Below w.heap.size w W → Calls Try.prog 52 #[v] W fun e w' => ∃ gs cs go co, e = .returned (.agg #[.slice (some ⟨gs, 0, none⟩) d.safe.length cs, .slice (some ⟨go, 0, none⟩) d.ops.length co, .int .i64 d.cap, .int .i64 d.fuse, .bool d.down]) ∧ DAt w' (.agg #[.slice (some ⟨gs, 0, none⟩) d.safe.length cs, .slice (some ⟨go, 0, none⟩) d.ops.length co, .int .i64 d.cap, .int .i64 d.fuse, .bool d.down]) d ∧ Below W.heap.size W w') := fun W hW => (rown_any v d W hd (h.below hW)).mono fun e w' ⟨gs, cs, go, co, rest, h1, h2, h3, h4, h5⟩ => ⟨gs, cs, go, co, h1, ⟨some ⟨gs, 0, none⟩, cs, some ⟨go, 0, none⟩, co, rfl, h2, h4.toRow, h3, h4.le⟩, h5⟩
  obtain ⟨sa, sc, oa, oc, rfl, hS, hO, hsc, hoc⟩ := h
  have hfin : Hid (∀ W gs cs go co, DAt W (.agg #[.slice (some ⟨gs, 0, none⟩) d.safe.length cs, .slice (some ⟨go, 0, none⟩) d.ops.length co, .int .i64 d.cap, .int .i64 d.fuse, .bool d.down]) d → DAt W (.agg #[.slice (some ⟨gs, 0, none⟩) d.safe.length cs, .slice (some ⟨go, 0, none⟩) d.ops.length co, .int .i64 (Dsk.start d).cap, .int .i64 (Dsk.start d).fuse, .bool (Dsk.start d).down]) (Dsk.start d)) := fun W gs cs go co h => by
    obtain ⟨_, _, _, _, _, h6, h7, h8, h9⟩ := h.look
    exact ⟨some ⟨gs, 0, none⟩, cs, some ⟨go, 0, none⟩, co, rfl, h6, h7, h8, h9⟩
  obtain ⟨safe, ops, cap, fuse, down⟩ := d
  unfold dval at *
  dsimp only [Dsk.start] at *
  obtain ⟨d0, hd0⟩ : ∃ d0 : Dsk.Dk, d0 = ⟨safe, ops, cap, fuse, down⟩ := ⟨_, rfl⟩
  rw [← hd0] at HO hfin
  replace hd0 := Rg.hid hd0
  generalize safe.length = SN at *
  generalize ops.length = ON at *
  clear hS hO hd hsc hoc
  have kB1 : Rg.Bk w.heap.size [.slice sa SN sc, .slice oa ON oc, .int .i64 cap, .int .i64 fuse, .bool down] 28 ((w.alloc (.cells #[.slice sa SN sc, .slice oa ON oc, .int .i64 cap, .int .i64 fuse, .bool down] 28)).alloc (.cells #[.slice none 0 0, .slice none 0 0, .int .i64 0, .int .i64 0, .bool false] 28)) := (Rg.Bk.new rfl).old _
  have kR1 : Rg.Bk (w.heap.size + 1) [.slice none 0 0, .slice none 0 0, .int .i64 0, .int .i64 0, .bool false] 28 ((w.alloc (.cells #[.slice sa SN sc, .slice oa ON oc, .int .i64 cap, .int .i64 fuse, .bool down] 28)).alloc (.cells #[.slice none 0 0, .slice none 0 0, .int .i64 0, .int .i64 0, .bool false] 28)) := Rg.Bk.new (by simp)
  have hb1 := Rg.al2 w (.cells #[.slice sa SN sc, .slice oa ON oc, .int .i64 cap, .int .i64 fuse, .bool down] 28) (.cells #[.slice none 0 0, .slice none 0 0, .int .i64 0, .int .i64 0, .bool false] 28)
  go_enter Try.func39, Try.ntmps39
  go_upto_region 1 with fail
  generalize World.alloc _ _ = w1 at *
  obtain ⟨B, hB⟩ : ∃ B, B = w.heap.size := ⟨_, rfl⟩
  obtain ⟨R, hR⟩ : ∃ R, R = w.heap.size + 1 := ⟨_, rfl⟩
  rw [← hR] at kR1 ⊢
  rw [← hB] at kB1 ⊢
  have hBR : B ≠ R := by omega
  have hBw : w.heap.size ≤ B := by omega
  have hRw : w.heap.size ≤ R := by omega
  clear hB hR
  have c0 : w1.cell? ⟨B, 0, none⟩ = some (.slice sa SN sc) := kB1.cell 0
  have c1 : w1.cell? ⟨B, 1, none⟩ = some (.slice oa ON oc) := kB1.cell 1
  have c2 : w1.cell? ⟨B, 2, none⟩ = some (.int .i64 cap) := kB1.cell 2
  have c3 : w1.cell? ⟨B, 3, none⟩ = some (.int .i64 fuse) := kB1.cell 3
  have c4 : w1.cell? ⟨B, 4, none⟩ = some (.bool down) := kB1.cell 4
  have kB1' := Rg.hid kB1
  have kR1' := Rg.hid kR1
  clear kB1 kR1
  go_upto_region 2 with (go_at_call 52; refine (HO.out _ hb1).mono ?_; rintro e w2 ⟨gs, cs, go, co, rfl, hD2, b2⟩; have kB2 := kB1'.out.below b2 kB1'.out.lt; have y0 := kB2.cell 0; have y1 := kB2.cell 1; have y2 := kB2.cell 2; have y3 := kB2.cell 3; have y4 := kB2.cell 4; simp only [List.getElem?_cons_zero, List.getElem?_cons_succ] at y0 y1 y2 y3 y4; have yf := kB2.thaw)
  have kR2 := kR1'.out.below b2 kR1'.out.lt
  have hb2 := Rg.chain hb1 b2
  obtain ⟨kB3, oB⟩ := Rg.ret5 kB2 rfl (.slice (some ⟨gs, 0, none⟩) SN cs) (.slice (some ⟨go, 0, none⟩) ON co) (.int .i64 cap) (.int .i64 fuse) (.bool down)
  have kR3 := kR2.same (oB.block R (Ne.symm hBR))
  have hD3 := hD2.only kB2 plainD oB
  have hb3 := hb2.trans (oB.bel hBw)
  clear y0 y1 y2 y3 y4 yf kB2 kR2 oB hD2 b2 hb2 HO c0 c1 c2 c3 c4 kB1' kR1' hb1
  generalize World.setCell _ _ _ = w3 at *
  have z : w3.cell? ⟨B, 4, none⟩ = some (.bool down) := kB3.cell 4
  have zf := kB3.thaw
  have kB4 : Rg.Bk B [.slice (some ⟨gs, 0, none⟩) SN cs, .slice (some ⟨go, 0, none⟩) ON co, .int .i64 cap, .int .i64 fuse, .bool false] 28 (w3.setCell ⟨B, 4, none⟩ (.bool false)) := kB3.set 4 (.bool false)
  have oB := Rg.Only.setCell w3 B 4 (.bool false)
  have kR4 := Rg.hid (kR3.same (oB.block R (Ne.symm hBR)))
  have hD4 := Rg.hid (hD3.only kB3 plainD oB)
  have hb4 := Rg.hid (hb3.trans (oB.bel hBw))
  replace kB4 := Rg.hid kB4
  clear oB hD3 hb3 kR3 kB3
  go_upto_region 3 with fail
  replace kB4 := kB4.out
  replace kR4 := kR4.out
  replace hD4 := hD4.out
  replace hb4 := hb4.out
  clear z zf
  generalize World.setCell _ _ _ = w4 at *
  have d0' : w4.cell? ⟨B, 0, none⟩ = some (.slice (some ⟨gs, 0, none⟩) SN cs) := kB4.cell 0
  have d1 : w4.cell? ⟨B, 1, none⟩ = some (.slice (some ⟨go, 0, none⟩) ON co) := kB4.cell 1
  have d2 : w4.cell? ⟨B, 2, none⟩ = some (.int .i64 cap) := kB4.cell 2
  have d3 : w4.cell? ⟨B, 3, none⟩ = some (.int .i64 fuse) := kB4.cell 3
  have d4 : w4.cell? ⟨B, 4, none⟩ = some (.bool false) := kB4.cell 4
  obtain ⟨kE, oE⟩ := Rg.ret5 kR4 rfl (.slice (some ⟨gs, 0, none⟩) SN cs) (.slice (some ⟨go, 0, none⟩) ON co) (.int .i64 cap) (.int .i64 fuse) (.bool false)
  have hDE := hD4.only kR4 plainZ oE
  have post := Rg.hid (⟨_, rfl, hfin.out _ gs cs go co hDE, hb4.trans (oE.bel hRw)⟩ : NotePost w _ (.returned _) _)
  replace kE := Rg.hid kE
  have r0 : w4.cell? ⟨R, 0, none⟩ = some (.slice none 0 0) := kR4.cell 0
  have r1 : w4.cell? ⟨R, 1, none⟩ = some (.slice none 0 0) := kR4.cell 1
  have r2 : w4.cell? ⟨R, 2, none⟩ = some (.int .i64 0) := kR4.cell 2
  have r3 : w4.cell? ⟨R, 3, none⟩ = some (.int .i64 0) := kR4.cell 3
  have r4 : w4.cell? ⟨R, 4, none⟩ = some (.bool false) := kR4.cell 4
  have rf := kR4.thaw
  clear oE kB4 kR4 hD4 hb4 hDE hfin
  go_wp2
  replace kE := kE.out
  replace post := post.out
  generalize World.setCell _ _ _ = WE at *
  exact bodyPost_ret (v := .agg #[.slice (some ⟨gs, 0, none⟩) SN cs, .slice (some ⟨go, 0, none⟩) ON co, .int .i64 cap, .int .i64 fuse, .bool false]) (by simp [results, Try.results39, go_sem, kE.cell]) rfl post

set_option maxHeartbeats 2000000 in
set_option maxRecDepth 100000 in
theorem rarm_any (v : Value) (d : Dsk.Dk) (n : Int) (w : World) (hd : Dsk.Ok d) (h : DAt w v d) :
    Calls Try.prog 36 #[v, .int .i64 n] w fun e w' => NotePost w (Dsk.arm d n) e w' := by
  have HO : Hid (∀ W, Below w.heap.size w W → Calls Try.prog 52 #[v] W fun e w' => ∃ gs cs go co, e = .returned (.agg #[.slice (some ⟨gs, 0, none⟩) d.safe.length cs, .slice (some ⟨go, 0, none⟩) d.ops.length co, .int .i64 d.cap, .int .i64 d.fuse, .bool d.down]) ∧ DAt w' (.agg #[.slice (some ⟨gs, 0, none⟩) d.safe.length cs, .slice (some ⟨go, 0, none⟩) d.ops.length co, .int .i64 d.cap, .int .i64 d.fuse, .bool d.down]) d ∧ Below W.heap.size W w') := fun W hW => (rown_any v d W hd (h.below hW)).mono fun e w' ⟨gs, cs, go, co, rest, h1, h2, h3, h4, h5⟩ => ⟨gs, cs, go, co, h1, ⟨some ⟨gs, 0, none⟩, cs, some ⟨go, 0, none⟩, co, rfl, h2, h4.toRow, h3, h4.le⟩, h5⟩
  obtain ⟨sa, sc, oa, oc, rfl, hS, hO, hsc, hoc⟩ := h
  have hfin : Hid (∀ W gs cs go co, DAt W (.agg #[.slice (some ⟨gs, 0, none⟩) d.safe.length cs, .slice (some ⟨go, 0, none⟩) d.ops.length co, .int .i64 d.cap, .int .i64 d.fuse, .bool d.down]) d → DAt W (.agg #[.slice (some ⟨gs, 0, none⟩) d.safe.length cs, .slice (some ⟨go, 0, none⟩) d.ops.length co, .int .i64 (Dsk.arm d n).cap, .int .i64 (Dsk.arm d n).fuse, .bool (Dsk.arm d n).down]) (Dsk.arm d n)) := fun W gs cs go co h => by
    obtain ⟨_, _, _, _, _, h6, h7, h8, h9⟩ := h.look
    exact ⟨some ⟨gs, 0, none⟩, cs, some ⟨go, 0, none⟩, co, rfl, h6, h7, h8, h9⟩
  obtain ⟨safe, ops, cap, fuse, down⟩ := d
  unfold dval at *
  dsimp only [Dsk.arm] at *
  rw [show max n (-1) = max (-1) n by omega] at hfin ⊢
  obtain ⟨d0, hd0⟩ : ∃ d0 : Dsk.Dk, d0 = ⟨safe, ops, cap, fuse, down⟩ := ⟨_, rfl⟩
  rw [← hd0] at HO hfin
  replace hd0 := Rg.hid hd0
  generalize safe.length = SN at *
  generalize ops.length = ON at *
  clear hS hO hd hsc hoc
  have kB1 : Rg.Bk w.heap.size [.slice sa SN sc, .slice oa ON oc, .int .i64 cap, .int .i64 fuse, .bool down] 28 ((w.alloc (.cells #[.slice sa SN sc, .slice oa ON oc, .int .i64 cap, .int .i64 fuse, .bool down] 28)).alloc (.cells #[.slice none 0 0, .slice none 0 0, .int .i64 0, .int .i64 0, .bool false] 28)) := (Rg.Bk.new rfl).old _
  have kR1 : Rg.Bk (w.heap.size + 1) [.slice none 0 0, .slice none 0 0, .int .i64 0, .int .i64 0, .bool false] 28 ((w.alloc (.cells #[.slice sa SN sc, .slice oa ON oc, .int .i64 cap, .int .i64 fuse, .bool down] 28)).alloc (.cells #[.slice none 0 0, .slice none 0 0, .int .i64 0, .int .i64 0, .bool false] 28)) := Rg.Bk.new (by simp)
  have hb1 := Rg.al2 w (.cells #[.slice sa SN sc, .slice oa ON oc, .int .i64 cap, .int .i64 fuse, .bool down] 28) (.cells #[.slice none 0 0, .slice none 0 0, .int .i64 0, .int .i64 0, .bool false] 28)
  go_enter Try.func36, Try.ntmps36
  go_upto_region 1 with fail
  generalize World.alloc _ _ = w1 at *
  obtain ⟨B, hB⟩ : ∃ B, B = w.heap.size := ⟨_, rfl⟩
  obtain ⟨R, hR⟩ : ∃ R, R = w.heap.size + 1 := ⟨_, rfl⟩
  rw [← hR] at kR1 ⊢
  rw [← hB] at kB1 ⊢
  have hBR : B ≠ R := by omega
  have hBw : w.heap.size ≤ B := by omega
  have hRw : w.heap.size ≤ R := by omega
  clear hB hR
  have c0 : w1.cell? ⟨B, 0, none⟩ = some (.slice sa SN sc) := kB1.cell 0
  have c1 : w1.cell? ⟨B, 1, none⟩ = some (.slice oa ON oc) := kB1.cell 1
  have c2 : w1.cell? ⟨B, 2, none⟩ = some (.int .i64 cap) := kB1.cell 2
  have c3 : w1.cell? ⟨B, 3, none⟩ = some (.int .i64 fuse) := kB1.cell 3
  have c4 : w1.cell? ⟨B, 4, none⟩ = some (.bool down) := kB1.cell 4
  have kB1' := Rg.hid kB1
  have kR1' := Rg.hid kR1
  clear kB1 kR1
  go_upto_region 2 with (go_at_call 52; refine (HO.out _ hb1).mono ?_; rintro e w2 ⟨gs, cs, go, co, rfl, hD2, b2⟩; have kB2 := kB1'.out.below b2 kB1'.out.lt; have y0 := kB2.cell 0; have y1 := kB2.cell 1; have y2 := kB2.cell 2; have y3 := kB2.cell 3; have y4 := kB2.cell 4; simp only [List.getElem?_cons_zero, List.getElem?_cons_succ] at y0 y1 y2 y3 y4; have yf := kB2.thaw)
  have kR2 := kR1'.out.below b2 kR1'.out.lt
  have hb2 := Rg.chain hb1 b2
  obtain ⟨kB3, oB⟩ := Rg.ret5 kB2 rfl (.slice (some ⟨gs, 0, none⟩) SN cs) (.slice (some ⟨go, 0, none⟩) ON co) (.int .i64 cap) (.int .i64 fuse) (.bool down)
  have kR3 := kR2.same (oB.block R (Ne.symm hBR))
  have hD3 := hD2.only kB2 plainD oB
  have hb3 := hb2.trans (oB.bel hBw)
  clear y0 y1 y2 y3 y4 yf kB2 kR2 oB hD2 b2 hb2 HO c0 c1 c2 c3 c4 kB1' kR1' hb1
  generalize World.setCell _ _ _ = w3 at *
  have z : w3.cell? ⟨B, 3, none⟩ = some (.int .i64 fuse) := kB3.cell 3
  have zf := kB3.thaw
  have kB4 : Rg.Bk B [.slice (some ⟨gs, 0, none⟩) SN cs, .slice (some ⟨go, 0, none⟩) ON co, .int .i64 cap, .int .i64 (max (-1) n), .bool down] 28 (w3.setCell ⟨B, 3, none⟩ (.int .i64 (max (-1) n))) := kB3.set 3 (.int .i64 (max (-1) n))
  have oB := Rg.Only.setCell w3 B 3 (.int .i64 (max (-1) n))
  have kR4 := Rg.hid (kR3.same (oB.block R (Ne.symm hBR)))
  have hD4 := Rg.hid (hD3.only kB3 plainD oB)
  have hb4 := Rg.hid (hb3.trans (oB.bel hBw))
  replace kB4 := Rg.hid kB4
  clear oB hD3 hb3 kR3 kB3
  go_upto_region 3 with fail
  replace kB4 := kB4.out
  replace kR4 := kR4.out
  replace hD4 := hD4.out
  replace hb4 := hb4.out
  clear z zf
  generalize World.setCell _ _ _ = w4 at *
  have d0' : w4.cell? ⟨B, 0, none⟩ = some (.slice (some ⟨gs, 0, none⟩) SN cs) := kB4.cell 0
  have d1 : w4.cell? ⟨B, 1, none⟩ = some (.slice (some ⟨go, 0, none⟩) ON co) := kB4.cell 1
  have d2 : w4.cell? ⟨B, 2, none⟩ = some (.int .i64 cap) := kB4.cell 2
  have d3 : w4.cell? ⟨B, 3, none⟩ = some (.int .i64 (max (-1) n)) := kB4.cell 3
  have d4 : w4.cell? ⟨B, 4, none⟩ = some (.bool down) := kB4.cell 4
  obtain ⟨kE, oE⟩ := Rg.ret5 kR4 rfl (.slice (some ⟨gs, 0, none⟩) SN cs) (.slice (some ⟨go, 0, none⟩) ON co) (.int .i64 cap) (.int .i64 (max (-1) n)) (.bool down)
  have hDE := hD4.only kR4 plainZ oE
  have post := Rg.hid (⟨_, rfl, hfin.out _ gs cs go co hDE, hb4.trans (oE.bel hRw)⟩ : NotePost w _ (.returned _) _)
  replace kE := Rg.hid kE
  have r0 : w4.cell? ⟨R, 0, none⟩ = some (.slice none 0 0) := kR4.cell 0
  have r1 : w4.cell? ⟨R, 1, none⟩ = some (.slice none 0 0) := kR4.cell 1
  have r2 : w4.cell? ⟨R, 2, none⟩ = some (.int .i64 0) := kR4.cell 2
  have r3 : w4.cell? ⟨R, 3, none⟩ = some (.int .i64 0) := kR4.cell 3
  have r4 : w4.cell? ⟨R, 4, none⟩ = some (.bool false) := kR4.cell 4
  have rf := kR4.thaw
  clear oE kB4 kR4 hD4 hb4 hDE hfin
  go_wp2
  replace kE := kE.out
  replace post := post.out
  generalize World.setCell _ _ _ = WE at *
  exact bodyPost_ret (v := .agg #[.slice (some ⟨gs, 0, none⟩) SN cs, .slice (some ⟨go, 0, none⟩) ON co, .int .i64 cap, .int .i64 (max (-1) n), .bool down]) (by simp [results, Try.results36, go_sem, kE.cell]) rfl post

set_option maxHeartbeats 2000000 in
set_option maxRecDepth 100000 in
theorem rroom_any (v : Value) (d : Dsk.Dk) (n : Int) (w : World) (hd : Dsk.Ok d) (h : DAt w v d) :
    Calls Try.prog 37 #[v, .int .i64 n] w fun e w' => NotePost w (Dsk.setRoom d n) e w' := by
  have HO : Hid (∀ W, Below w.heap.size w W → Calls Try.prog 52 #[v] W fun e w' => ∃ gs cs go co, e = .returned (.agg #[.slice (some ⟨gs, 0, none⟩) d.safe.length cs, .slice (some ⟨go, 0, none⟩) d.ops.length co, .int .i64 d.cap, .int .i64 d.fuse, .bool d.down]) ∧ DAt w' (.agg #[.slice (some ⟨gs, 0, none⟩) d.safe.length cs, .slice (some ⟨go, 0, none⟩) d.ops.length co, .int .i64 d.cap, .int .i64 d.fuse, .bool d.down]) d ∧ Below W.heap.size W w') := fun W hW => (rown_any v d W hd (h.below hW)).mono fun e w' ⟨gs, cs, go, co, rest, h1, h2, h3, h4, h5⟩ => ⟨gs, cs, go, co, h1, ⟨some ⟨gs, 0, none⟩, cs, some ⟨go, 0, none⟩, co, rfl, h2, h4.toRow, h3, h4.le⟩, h5⟩
  obtain ⟨sa, sc, oa, oc, rfl, hS, hO, hsc, hoc⟩ := h
  have hfin : Hid (∀ W gs cs go co, DAt W (.agg #[.slice (some ⟨gs, 0, none⟩) d.safe.length cs, .slice (some ⟨go, 0, none⟩) d.ops.length co, .int .i64 d.cap, .int .i64 d.fuse, .bool d.down]) d → DAt W (.agg #[.slice (some ⟨gs, 0, none⟩) d.safe.length cs, .slice (some ⟨go, 0, none⟩) d.ops.length co, .int .i64 (Dsk.setRoom d n).cap, .int .i64 (Dsk.setRoom d n).fuse, .bool (Dsk.setRoom d n).down]) (Dsk.setRoom d n)) := fun W gs cs go co h => by
    obtain ⟨_, _, _, _, _, h6, h7, h8, h9⟩ := h.look
    exact ⟨some ⟨gs, 0, none⟩, cs, some ⟨go, 0, none⟩, co, rfl, h6, h7, h8, h9⟩
  obtain ⟨safe, ops, cap, fuse, down⟩ := d
  unfold dval at *
  dsimp only [Dsk.setRoom] at *
  rw [show Dsk.room n = max 0 (min n 60000) by unfold Dsk.room; (repeat' split) <;> omega] at hfin ⊢
  obtain ⟨d0, hd0⟩ : ∃ d0 : Dsk.Dk, d0 = ⟨safe, ops, cap, fuse, down⟩ := ⟨_, rfl⟩
  rw [← hd0] at HO hfin
  replace hd0 := Rg.hid hd0
  generalize safe.length = SN at *
  generalize ops.length = ON at *
  clear hS hO hd hsc hoc
  have kB1 : Rg.Bk w.heap.size [.slice sa SN sc, .slice oa ON oc, .int .i64 cap, .int .i64 fuse, .bool down] 28 ((w.alloc (.cells #[.slice sa SN sc, .slice oa ON oc, .int .i64 cap, .int .i64 fuse, .bool down] 28)).alloc (.cells #[.slice none 0 0, .slice none 0 0, .int .i64 0, .int .i64 0, .bool false] 28)) := (Rg.Bk.new rfl).old _
  have kR1 : Rg.Bk (w.heap.size + 1) [.slice none 0 0, .slice none 0 0, .int .i64 0, .int .i64 0, .bool false] 28 ((w.alloc (.cells #[.slice sa SN sc, .slice oa ON oc, .int .i64 cap, .int .i64 fuse, .bool down] 28)).alloc (.cells #[.slice none 0 0, .slice none 0 0, .int .i64 0, .int .i64 0, .bool false] 28)) := Rg.Bk.new (by simp)
  have hb1 := Rg.al2 w (.cells #[.slice sa SN sc, .slice oa ON oc, .int .i64 cap, .int .i64 fuse, .bool down] 28) (.cells #[.slice none 0 0, .slice none 0 0, .int .i64 0, .int .i64 0, .bool false] 28)
  go_enter Try.func37, Try.ntmps37
  go_upto_region 1 with fail
  generalize World.alloc _ _ = w1 at *
  obtain ⟨B, hB⟩ : ∃ B, B = w.heap.size := ⟨_, rfl⟩
  obtain ⟨R, hR⟩ : ∃ R, R = w.heap.size + 1 := ⟨_, rfl⟩
  rw [← hR] at kR1 ⊢
  rw [← hB] at kB1 ⊢
  have hBR : B ≠ R := by omega
  have hBw : w.heap.size ≤ B := by omega
  have hRw : w.heap.size ≤ R := by omega
  clear hB hR
  have c0 : w1.cell? ⟨B, 0, none⟩ = some (.slice sa SN sc) := kB1.cell 0
  have c1 : w1.cell? ⟨B, 1, none⟩ = some (.slice oa ON oc) := kB1.cell 1
  have c2 : w1.cell? ⟨B, 2, none⟩ = some (.int .i64 cap) := kB1.cell 2
  have c3 : w1.cell? ⟨B, 3, none⟩ = some (.int .i64 fuse) := kB1.cell 3
  have c4 : w1.cell? ⟨B, 4, none⟩ = some (.bool down) := kB1.cell 4
  have kB1' := Rg.hid kB1
  have kR1' := Rg.hid kR1
  clear kB1 kR1
  go_upto_region 2 with (go_at_call 52; refine (HO.out _ hb1).mono ?_; rintro e w2 ⟨gs, cs, go, co, rfl, hD2, b2⟩; have kB2 := kB1'.out.below b2 kB1'.out.lt; have y0 := kB2.cell 0; have y1 := kB2.cell 1; have y2 := kB2.cell 2; have y3 := kB2.cell 3; have y4 := kB2.cell 4; simp only [List.getElem?_cons_zero, List.getElem?_cons_succ] at y0 y1 y2 y3 y4; have yf := kB2.thaw)
  have kR2 := kR1'.out.below b2 kR1'.out.lt
  have hb2 := Rg.chain hb1 b2
  obtain ⟨kB3, oB⟩ := Rg.ret5 kB2 rfl (.slice (some ⟨gs, 0, none⟩) SN cs) (.slice (some ⟨go, 0, none⟩) ON co) (.int .i64 cap) (.int .i64 fuse) (.bool down)
  have kR3 := kR2.same (oB.block R (Ne.symm hBR))
  have hD3 := hD2.only kB2 plainD oB
  have hb3 := hb2.trans (oB.bel hBw)
  clear y0 y1 y2 y3 y4 yf kB2 kR2 oB hD2 b2 hb2 HO c0 c1 c2 c3 c4 kB1' kR1' hb1
  generalize World.setCell _ _ _ = w3 at *
  have z : w3.cell? ⟨B, 2, none⟩ = some (.int .i64 cap) := kB3.cell 2
  have zf := kB3.thaw
  have kB4 : Rg.Bk B [.slice (some ⟨gs, 0, none⟩) SN cs, .slice (some ⟨go, 0, none⟩) ON co, .int .i64 (max 0 (min n 60000)), .int .i64 fuse, .bool down] 28 (w3.setCell ⟨B, 2, none⟩ (.int .i64 (max 0 (min n 60000)))) := kB3.set 2 (.int .i64 (max 0 (min n 60000)))
  have oB := Rg.Only.setCell w3 B 2 (.int .i64 (max 0 (min n 60000)))
  have kR4 := Rg.hid (kR3.same (oB.block R (Ne.symm hBR)))
  have hD4 := Rg.hid (hD3.only kB3 plainD oB)
  have hb4 := Rg.hid (hb3.trans (oB.bel hBw))
  replace kB4 := Rg.hid kB4
  clear oB hD3 hb3 kR3 kB3
  go_upto_region 3 with fail
  replace kB4 := kB4.out
  replace kR4 := kR4.out
  replace hD4 := hD4.out
  replace hb4 := hb4.out
  clear z zf
  generalize World.setCell _ _ _ = w4 at *
  have d0' : w4.cell? ⟨B, 0, none⟩ = some (.slice (some ⟨gs, 0, none⟩) SN cs) := kB4.cell 0
  have d1 : w4.cell? ⟨B, 1, none⟩ = some (.slice (some ⟨go, 0, none⟩) ON co) := kB4.cell 1
  have d2 : w4.cell? ⟨B, 2, none⟩ = some (.int .i64 (max 0 (min n 60000))) := kB4.cell 2
  have d3 : w4.cell? ⟨B, 3, none⟩ = some (.int .i64 fuse) := kB4.cell 3
  have d4 : w4.cell? ⟨B, 4, none⟩ = some (.bool down) := kB4.cell 4
  obtain ⟨kE, oE⟩ := Rg.ret5 kR4 rfl (.slice (some ⟨gs, 0, none⟩) SN cs) (.slice (some ⟨go, 0, none⟩) ON co) (.int .i64 (max 0 (min n 60000))) (.int .i64 fuse) (.bool down)
  have hDE := hD4.only kR4 plainZ oE
  have post := Rg.hid (⟨_, rfl, hfin.out _ gs cs go co hDE, hb4.trans (oE.bel hRw)⟩ : NotePost w _ (.returned _) _)
  replace kE := Rg.hid kE
  have r0 : w4.cell? ⟨R, 0, none⟩ = some (.slice none 0 0) := kR4.cell 0
  have r1 : w4.cell? ⟨R, 1, none⟩ = some (.slice none 0 0) := kR4.cell 1
  have r2 : w4.cell? ⟨R, 2, none⟩ = some (.int .i64 0) := kR4.cell 2
  have r3 : w4.cell? ⟨R, 3, none⟩ = some (.int .i64 0) := kR4.cell 3
  have r4 : w4.cell? ⟨R, 4, none⟩ = some (.bool false) := kR4.cell 4
  have rf := kR4.thaw
  clear oE kB4 kR4 hD4 hb4 hDE hfin
  go_wp2
  replace kE := kE.out
  replace post := post.out
  generalize World.setCell _ _ _ = WE at *
  exact bodyPost_ret (v := .agg #[.slice (some ⟨gs, 0, none⟩) SN cs, .slice (some ⟨go, 0, none⟩) ON co, .int .i64 (max 0 (min n 60000)), .int .i64 fuse, .bool down]) (by simp [results, Try.results37, go_sem, kE.cell]) rfl post

end Go.Proofs.Ytempiajepomajaa
