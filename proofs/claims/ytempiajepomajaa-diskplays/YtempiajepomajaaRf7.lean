/-
  Layer 6: the document's disk: own.
-/
import Derived.Test.YtempiajepomajaaRf6
namespace Go.Proofs.Ytempiajepomajaa
open Go.RowKit

/-- behind own: rows of its own -/
def OwnDP (w : World) (d : Dsk.Dk) (e : Ending) (w' : World) : Prop := ∃ gs cs go co rest, e = .returned (.agg #[.slice (some ⟨gs, 0, none⟩) d.safe.length cs, .slice (some ⟨go, 0, none⟩) d.ops.length co, .int .i64 d.cap, .int .i64 d.fuse, .bool d.down]) ∧ fileE.Row w' (some ⟨gs, 0, none⟩) d.safe ∧ d.safe.length ≤ cs ∧ opE.Own w.heap.size w' go co d.ops rest ∧ Below w.heap.size w w'

/-- .. and the two lie apart -/
def OwnDP2 (w : World) (d : Dsk.Dk) (e : Ending) (w' : World) : Prop := ∃ gs cs go co rest, e = .returned (.agg #[.slice (some ⟨gs, 0, none⟩) d.safe.length cs, .slice (some ⟨go, 0, none⟩) d.ops.length co, .int .i64 d.cap, .int .i64 d.fuse, .bool d.down]) ∧ fileE.Row w' (some ⟨gs, 0, none⟩) d.safe ∧ d.safe.length ≤ cs ∧ opE.Own w.heap.size w' go co d.ops rest ∧ gs ≠ go ∧ Below w.heap.size w w'

set_option maxHeartbeats 2000000 in
set_option maxRecDepth 100000 in
theorem rown2_any (v : Value) (d : Dsk.Dk) (w : World) (hd : Dsk.Ok d) (h : DAt w v d) :
    Calls Try.prog 52 #[v] w fun e w' => OwnDP2 w d e w' := by
  obtain ⟨i0, hi, hz0, hz1, hz2⟩ := infoFile'
  obtain ⟨j0, hj, hy0, hy1, hy2⟩ := infoOp'
  obtain ⟨sa, sc, oa, oc, rfl, hS, hO, hsc, hoc⟩ := h
  obtain ⟨safe, ops, cap, fuse, down⟩ := d
  have hwt := hd.wt
  unfold dval
  dsimp only at *
  have hls := Dsk.len_used safe
  have hlo := Dsk.len_wt ops
  obtain ⟨SN, hSN⟩ : ∃ SN, SN = safe.length := ⟨_, rfl⟩
  obtain ⟨ON, hON⟩ : ∃ ON, ON = ops.length := ⟨_, rfl⟩
  have kB1 : Rg.Bk w.heap.size [.slice sa SN sc, .slice oa ON oc, .int .i64 cap, .int .i64 fuse, .bool down] 28 ((w.alloc (.cells #[.slice sa SN sc, .slice oa ON oc, .int .i64 cap, .int .i64 fuse, .bool down] 28)).alloc (.cells #[.slice none 0 0, .slice none 0 0, .int .i64 0, .int .i64 0, .bool false] 28)) := (Rg.Bk.new rfl).old _
  have kR1 : Rg.Bk (w.heap.size + 1) [.slice none 0 0, .slice none 0 0, .int .i64 0, .int .i64 0, .bool false] 28 ((w.alloc (.cells #[.slice sa SN sc, .slice oa ON oc, .int .i64 cap, .int .i64 fuse, .bool down] 28)).alloc (.cells #[.slice none 0 0, .slice none 0 0, .int .i64 0, .int .i64 0, .bool false] 28)) := Rg.Bk.new (by simp)
  have hb1 := Rg.al2 w (.cells #[.slice sa SN sc, .slice oa ON oc, .int .i64 cap, .int .i64 fuse, .bool down] 28) (.cells #[.slice none 0 0, .slice none 0 0, .int .i64 0, .int .i64 0, .bool false] 28)
  have hsz1 : ((w.alloc (.cells #[.slice sa SN sc, .slice oa ON oc, .int .i64 cap, .int .i64 fuse, .bool down] 28)).alloc (.cells #[.slice none 0 0, .slice none 0 0, .int .i64 0, .int .i64 0, .bool false] 28)).heap.size = w.heap.size + 2 := by simp
  rw [← hSN, ← hON]
  have hls2 : SN ≤ 1000000000 := by omega
  have hlo2 : ON ≤ 1000000000 := by omega
  replace hSN := Rg.hid hSN
  replace hON := Rg.hid hON
  clear hls hlo hd hwt
  go_enter Try.func52, Try.ntmps52
  go_upto_region 1 with fail
  generalize World.alloc _ _ = w1 at *
  obtain ⟨B, hB⟩ : ∃ B, B = w.heap.size := ⟨_, rfl⟩
  obtain ⟨R, hR⟩ : ∃ R, R = w.heap.size + 1 := ⟨_, rfl⟩
  rw [← hR] at kR1 ⊢
  rw [← hB] at kB1 ⊢
  have hBR : B ≠ R := by omega
  have hBw : w.heap.size ≤ B := by omega
  have hRw : w.heap.size ≤ R := by omega
  have hBl : B < w1.heap.size := kB1.lt
  have hRl : R < w1.heap.size := kR1.lt
  clear hB hR hsz1
  have hown0 : fileE.Own w.heap.size (w1.alloc (.cells #[] 53)) w1.heap.size 0 [] [] := ⟨Rg.Bk.new (C := []) rfl, hb1.size, Nat.le_refl _, Nat.zero_le _, Nat.le_refl _⟩
  have hbw2 := Rg.chain hb1 (Rg.al1 w1 (.cells #[] 53))
  obtain ⟨g3, cap3, rest3, w3, hap3, hown3, hb3, hoth3, hg3⟩ := hown0.appendRow (P := Try.prog) safe 25 25 i0 _ 32 Try.underlying25 hi hz0 hz1 hz2 rfl sa sc (hS.below hbw2) hbw2.size (by have := hSN.out; simp; omega) (by have := hSN.out; unfold maxLen; simp; omega)
  rw [List.nil_append] at hown3
  rw [show ([] : List Dsk.Fl).length + safe.length = safe.length by simp, ← hSN.out] at hap3
  have hap3 : Hid ((Builtin.append_ #[25, 25] 25 #[.slice (some ⟨w1.heap.size, 0, none⟩) 0 0, .slice sa SN sc]).run Try.prog (w1.alloc (.cells #[] 53)) = .ok (.slice (some ⟨g3, 0, none⟩) SN cap3) w3) := hap3
  have hbw3 := hbw2.trans hb3
  have hg3B : g3 ≠ B ∧ g3 ≠ R := by simp at hg3; omega
  have kB3 : Rg.Bk B [.slice sa SN sc, .slice oa ON oc, .int .i64 cap, .int .i64 fuse, .bool down] 28 w3 := (kB1.old (.cells #[] 53)).same (hoth3 B (by simp; omega) (by omega))
  have kR3 : Rg.Bk R [.slice none 0 0, .slice none 0 0, .int .i64 0, .int .i64 0, .bool false] 28 w3 := (kR1.old (.cells #[] 53)).same (hoth3 R (by simp; omega) (by omega))
  have c0 : w1.cell? ⟨B, 0, none⟩ = some (.slice sa SN sc) := kB1.cell 0
  have c0' : w3.cell? ⟨B, 0, none⟩ = some (.slice sa SN sc) := kB3.cell 0
  have cf := kB3.thaw
  have kB4 := kB3.set 0 (.slice (some ⟨g3, 0, none⟩) SN cap3)
  have kR4 := kR3.other (c := B) (i := 0) (Ne.symm hBR) (.slice (some ⟨g3, 0, none⟩) SN cap3)
  have oB := Rg.Only.setCell w3 B 0 (.slice (some ⟨g3, 0, none⟩) SN cap3)
  have hown4 := hown3.same (oB.block g3 hg3B.1)
  have hbw4 := hbw3.trans (oB.bel hBw)
  replace kB4 : Hid (Rg.Bk B [.slice (some ⟨g3, 0, none⟩) SN cap3, .slice oa ON oc, .int .i64 cap, .int .i64 fuse, .bool down] 28 (w3.setCell ⟨B, 0, none⟩ (.slice (some ⟨g3, 0, none⟩) SN cap3))) := kB4
  replace kR4 := Rg.hid kR4
  replace hown4 := Rg.hid hown4
  replace hbw4 := Rg.hid hbw4
  clear hown0 hbw2 hb3 hoth3 hown3 oB kB3 kR3 kB1 kR1
  go_upto_region 2 with (at_builtin; refine Rg.wpList_append_run rfl (.tmp 3) (.tmp 5) 25 rfl _ _ rfl rfl _ _ hap3.out ?_)
  replace kB4 := kB4.out
  replace kR4 := kR4.out
  replace hown4 := hown4.out
  replace hbw4 := hbw4.out
  clear c0 c0' cf hap3
  generalize World.setCell _ _ _ = w4 at *
  -- the operations
  have hownO : opE.Own w.heap.size (w4.alloc (.cells #[] 56)) w4.heap.size 0 [] [] := ⟨Rg.Bk.new (C := []) rfl, hbw4.size, Nat.le_refl _, Nat.zero_le _, Nat.le_refl _⟩
  have hbwO := Rg.chain hbw4 (Rg.al1 w4 (.cells #[] 56))
  have hBl4 := kB4.lt
  have hRl4 := kR4.lt
  have hgl4 := hown4.lt
  obtain ⟨g5, cap5, rest5, w5, hap5, hown5, hb5, hoth5, hg5⟩ := hownO.appendRow (P := Try.prog) ops 26 26 j0 _ 56 Try.underlying26 hj hy0 hy1 hy2 rfl oa oc (hO.below hbwO) hbwO.size (by have := hON.out; simp; omega) (by have := hON.out; unfold maxLen; simp; omega)
  rw [List.nil_append] at hown5
  rw [show ([] : List Dsk.Dop).length + ops.length = ops.length by simp, ← hON.out] at hap5
  have hap5 : Hid ((Builtin.append_ #[26, 26] 26 #[.slice (some ⟨w4.heap.size, 0, none⟩) 0 0, .slice oa ON oc]).run Try.prog (w4.alloc (.cells #[] 56)) = .ok (.slice (some ⟨g5, 0, none⟩) ON cap5) w5) := hap5
  have hne35 : g3 ≠ g5 := by simp at hg5; omega
  have hg5B : g5 ≠ B ∧ g5 ≠ R := by simp at hg5; omega
  have kB5 : Rg.Bk B [.slice (some ⟨g3, 0, none⟩) SN cap3, .slice oa ON oc, .int .i64 cap, .int .i64 fuse, .bool down] 28 w5 := (kB4.old (.cells #[] 56)).same (hoth5 B (by simp; omega) (by omega))
  have kR5 : Rg.Bk R [.slice none 0 0, .slice none 0 0, .int .i64 0, .int .i64 0, .bool false] 28 w5 := (kR4.old (.cells #[] 56)).same (hoth5 R (by simp; omega) (by omega))
  have hownS5 := (hown4.below (Rg.al1 w4 (.cells #[] 56))).same (hoth5 g3 (by simp; omega) (by omega))
  have hbw5 := hbwO.trans hb5
  have c1 : w4.cell? ⟨B, 1, none⟩ = some (.slice oa ON oc) := kB4.cell 1
  have c1' : w5.cell? ⟨B, 1, none⟩ = some (.slice oa ON oc) := kB5.cell 1
  have cf := kB5.thaw
  have kB6 := kB5.set 1 (.slice (some ⟨g5, 0, none⟩) ON cap5)
  have kR6 := kR5.other (c := B) (i := 1) (Ne.symm hBR) (.slice (some ⟨g5, 0, none⟩) ON cap5)
  have oB := Rg.Only.setCell w5 B 1 (.slice (some ⟨g5, 0, none⟩) ON cap5)
  have hownS6 := Rg.hid (hownS5.same (oB.block g3 hg3B.1))
  have hownO6 := Rg.hid (hown5.same (oB.block g5 hg5B.1))
  have hbw6 := Rg.hid (hbw5.trans (oB.bel hBw))
  replace kB6 : Hid (Rg.Bk B [.slice (some ⟨g3, 0, none⟩) SN cap3, .slice (some ⟨g5, 0, none⟩) ON cap5, .int .i64 cap, .int .i64 fuse, .bool down] 28 (w5.setCell ⟨B, 1, none⟩ (.slice (some ⟨g5, 0, none⟩) ON cap5))) := kB6
  replace kR6 := Rg.hid kR6
  clear hownO hbwO hb5 hoth5 hown5 hown4 oB kB5 kR5 kB4 kR4 hownS5 hbw5 hbw4 hi hz0 hz1 hz2 hj hy0 hy1 hy2
  go_upto_region 3 with (at_builtin; refine Rg.wpList_append_run rfl (.tmp 8) (.tmp 10) 26 rfl _ _ rfl rfl _ _ hap5.out ?_)
  replace kB6 := kB6.out
  replace kR6 := kR6.out
  clear c1 c1' cf hap5
  generalize World.setCell _ _ _ = w6 at *
  have d0 : w6.cell? ⟨B, 0, none⟩ = some (.slice (some ⟨g3, 0, none⟩) SN cap3) := kB6.cell 0
  have d1 : w6.cell? ⟨B, 1, none⟩ = some (.slice (some ⟨g5, 0, none⟩) ON cap5) := kB6.cell 1
  have d2 : w6.cell? ⟨B, 2, none⟩ = some (.int .i64 cap) := kB6.cell 2
  have d3 : w6.cell? ⟨B, 3, none⟩ = some (.int .i64 fuse) := kB6.cell 3
  have d4 : w6.cell? ⟨B, 4, none⟩ = some (.bool down) := kB6.cell 4
  obtain ⟨kE, oE⟩ := Rg.ret5 kR6 rfl (.slice (some ⟨g3, 0, none⟩) SN cap3) (.slice (some ⟨g5, 0, none⟩) ON cap5) (.int .i64 cap) (.int .i64 fuse) (.bool down)
  have hfS := Rg.hid (hownS6.out.same (oE.block g3 hg3B.2))
  have hfO := Rg.hid (hownO6.out.same (oE.block g5 hg5B.2))
  have hfb := Rg.hid (hbw6.out.trans (oE.bel hRw))
  replace kE := Rg.hid kE
  have r0 : w6.cell? ⟨R, 0, none⟩ = some (.slice none 0 0) := kR6.cell 0
  have r1 : w6.cell? ⟨R, 1, none⟩ = some (.slice none 0 0) := kR6.cell 1
  have r2 : w6.cell? ⟨R, 2, none⟩ = some (.int .i64 0) := kR6.cell 2
  have r3 : w6.cell? ⟨R, 3, none⟩ = some (.int .i64 0) := kR6.cell 3
  have r4 : w6.cell? ⟨R, 4, none⟩ = some (.bool false) := kR6.cell 4
  have rf := kR6.thaw
  clear oE kB6 kR6 hownS6 hownO6 hbw6
  go_wp2
  replace kE := kE.out
  replace hfS := hfS.out
  replace hfO := hfO.out
  replace hfb := hfb.out
  generalize World.setCell _ _ _ = WE at *
  have post : OwnDP2 w ⟨safe, ops, cap, fuse, down⟩ (.returned (.agg #[.slice (some ⟨g3, 0, none⟩) SN cap3, .slice (some ⟨g5, 0, none⟩) ON cap5, .int .i64 cap, .int .i64 fuse, .bool down])) WE := ⟨g3, cap3, g5, cap5, rest5, by rw [hSN.out, hON.out], hfS.toRow, hfS.le, hfO, hne35, hfb⟩
  exact bodyPost_ret (v := .agg #[.slice (some ⟨g3, 0, none⟩) SN cap3, .slice (some ⟨g5, 0, none⟩) ON cap5, .int .i64 cap, .int .i64 fuse, .bool down]) (by simp [results, Try.results52, go_sem, kE.cell]) rfl post

theorem rown_any (v : Value) (d : Dsk.Dk) (w : World) (hd : Dsk.Ok d) (h : DAt w v d) :
    Calls Try.prog 52 #[v] w fun e w' => OwnDP w d e w' :=
  (rown2_any v d w hd h).mono fun _ _ ⟨gs, cs, go, co, rest, h1, h2, h3, h4, _, h5⟩ => ⟨gs, cs, go, co, rest, h1, h2, h3, h4, h5⟩
end Go.Proofs.Ytempiajepomajaa
