/-
  Layer 7: the statements' calls of the document's line (told).
-/
import Derived.Test.YtalleocmnnnchaaLn35
namespace Go.Proofs.Ytalleocmnnnchaa
open Go.RowKit

set_option maxHeartbeats 1000000 in
set_option maxRecDepth 100000 in
theorem told_0 (v : Value) (L : Ln.Li) (y a n : Int) (s : ByteArray) (N : Nat) (w : World) (hL : Ln.LOk N L) (hN : N ≤ 1000000) (hs : s.size ≤ 100000) (h : LAt w v L) :
    Calls Try.prog 14 #[v, .agg #[.int .i64 0, .int .i64 y, .int .i64 a, .int .i64 n, .string s]] w fun e w' => PPost w ((Ln.send L y s.data.toList).1, [], (Ln.send L y s.data.toList).2) e w' := by
  have HC : Hid (∀ W, Below w.heap.size w W → Calls Try.prog 25 #[v, .int .i64 y, .string s] W fun e w' => EEx W (Ln.send L y s.data.toList) e w') := fun W hW => (rsend_at v L y s N W hL hN (h.below hW)).mono fun e w' q => q.ex
  generalize Ln.send L y s.data.toList = r at *
  obtain ⟨b0, bc0, g0, gc0, b1, bc1, g1, gc1, rfl, -⟩ := h
  obtain ⟨⟨x0, p0, bad0, gap0⟩, ⟨x1, p1, bad1, gap1⟩, up⟩ := L
  have q := And.intro hL (And.intro hN hs)
  clear q hL hN hs
  dsimp only at *
  generalize (⟨x0.toArray⟩ : ByteArray) = x0 at *
  generalize (⟨x1.toArray⟩ : ByteArray) = x1 at *
  generalize bad0.length = bn0 at *
  generalize gap0.length = gn0 at *
  generalize bad1.length = bn1 at *
  generalize gap1.length = gn1 at *
  generalize (p0 : Int) = p0 at *
  generalize (p1 : Int) = p1 at *
  go_enter Try.func14, Try.ntmps14
  go_upto_region 17 with (go_at_call 25; refine (HC.out _ (Rg.al3 _ _ _ _)).mono ?_; rintro e w1 ⟨x0', p0', b0', bn0', bc0', g0', gn0', gc0', x1', p1', b1', bn1', bc1', g1', gn1', gc1', up', rfl, hD, hb⟩; have hbw : Below w.heap.size w w1 := Rg.chain (Rg.al3 _ _ _ _) hb; have kB : Rg.Bk w.heap.size [.string x0, .int .i64 p0, .slice b0 bn0 bc0, .slice g0 gn0 gc0, .string x1, .int .i64 p1, .slice b1 bn1 bc1, .slice g1 gn1 gc1, .bool up] 30 w1 := Rg.Bk.below (Rg.Bk.old (Rg.Bk.old (Rg.Bk.new rfl) _) _) hb (by simp; omega); have kR : Rg.Bk (w.heap.size + 1 + 1) [.string ⟨#[]⟩, .int .i64 0, .slice none 0 0, .slice none 0 0, .string ⟨#[]⟩, .int .i64 0, .slice none 0 0, .slice none 0 0, .bool false] 30 w1 := Rg.Bk.below (Rg.Bk.new (by simp)) hb (by simp); clear hb HC; have z0 := kB.cell 0; have z1 := kB.cell 1; have z2 := kB.cell 2; have z3 := kB.cell 3; have z4 := kB.cell 4; have z5 := kB.cell 5; have z6 := kB.cell 6; have z7 := kB.cell 7; have z8 := kB.cell 8; simp only [List.getElem?_cons_zero, List.getElem?_cons_succ] at z0 z1 z2 z3 z4 z5 z6 z7 z8; have zf := kB.thaw)
  obtain ⟨kB2, oB⟩ := ret9 kB rfl (.string x0') (.int .i64 p0') (.slice b0' bn0' bc0') (.slice g0' gn0' gc0') (.string x1') (.int .i64 p1') (.slice b1' bn1' bc1') (.slice g1' gn1' gc1') (.bool up')
  have hD2 := hD.only kB line_int oB
  have kR2 := kR.same (oB.block _ (by omega))
  have hb2 := hbw.trans (oB.bel (Nat.le_refl _))
  clear z0 z1 z2 z3 z4 z5 z6 z7 z8 zf kB kR oB hD hbw
  generalize World.setCell _ _ _ = W2 at *
  obtain ⟨B, hB⟩ : ∃ B, B = w.heap.size := ⟨_, rfl⟩
  obtain ⟨R, hR⟩ : ∃ R, R = w.heap.size + 1 + 1 := ⟨_, rfl⟩
  rw [← hR] at kR2 ⊢
  rw [← hB] at kB2 ⊢
  have hBR : B ≠ R := by omega
  have hRw : w.heap.size ≤ R := by omega
  clear hB hR
  obtain ⟨kE, oE⟩ := ret9 kR2 rfl (.string x0') (.int .i64 p0') (.slice b0' bn0' bc0') (.slice g0' gn0' gc0') (.string x1') (.int .i64 p1') (.slice b1' bn1' bc1') (.slice g1' gn1' gc1') (.bool up')
  have post := Rg.hid ((⟨_, rfl, hD2.only kR2 line_int oE, hb2.trans (oE.bel hRw)⟩ : PPost w (r.1, [], r.2) _ _))
  replace kE := Rg.hid kE
  have d0' : W2.cell? ⟨B, 0, none⟩ = some (.string x0') := kB2.cell 0
  have d1' : W2.cell? ⟨B, 1, none⟩ = some (.int .i64 p0') := kB2.cell 1
  have d2' : W2.cell? ⟨B, 2, none⟩ = some (.slice b0' bn0' bc0') := kB2.cell 2
  have d3' : W2.cell? ⟨B, 3, none⟩ = some (.slice g0' gn0' gc0') := kB2.cell 3
  have d4' : W2.cell? ⟨B, 4, none⟩ = some (.string x1') := kB2.cell 4
  have d5' : W2.cell? ⟨B, 5, none⟩ = some (.int .i64 p1') := kB2.cell 5
  have d6' : W2.cell? ⟨B, 6, none⟩ = some (.slice b1' bn1' bc1') := kB2.cell 6
  have d7' : W2.cell? ⟨B, 7, none⟩ = some (.slice g1' gn1' gc1') := kB2.cell 7
  have d8' : W2.cell? ⟨B, 8, none⟩ = some (.bool up') := kB2.cell 8
  have r0 : W2.cell? ⟨R, 0, none⟩ = some (.string ⟨#[]⟩) := kR2.cell 0
  have r1 : W2.cell? ⟨R, 1, none⟩ = some (.int .i64 0) := kR2.cell 1
  have r2 : W2.cell? ⟨R, 2, none⟩ = some (.slice none 0 0) := kR2.cell 2
  have r3 : W2.cell? ⟨R, 3, none⟩ = some (.slice none 0 0) := kR2.cell 3
  have r4 : W2.cell? ⟨R, 4, none⟩ = some (.string ⟨#[]⟩) := kR2.cell 4
  have r5 : W2.cell? ⟨R, 5, none⟩ = some (.int .i64 0) := kR2.cell 5
  have r6 : W2.cell? ⟨R, 6, none⟩ = some (.slice none 0 0) := kR2.cell 6
  have r7 : W2.cell? ⟨R, 7, none⟩ = some (.slice none 0 0) := kR2.cell 7
  have r8 : W2.cell? ⟨R, 8, none⟩ = some (.bool false) := kR2.cell 8
  have rf := kR2.thaw
  clear oE kR2 kB2 hb2 hD2
  go_wp2
  replace kE := kE.out
  replace post := post.out
  generalize World.setCell _ _ _ = WE at *
  exact bodyPost_ret (v := .tuple #[.agg #[.string x0', .int .i64 p0', .slice b0' bn0' bc0', .slice g0' gn0' gc0', .string x1', .int .i64 p1', .slice b1' bn1' bc1', .slice g1' gn1' gc1', .bool up'], .string ⟨#[]⟩, .int .i64 r.2]) (by simp [results, Try.results14, go_sem, kE.cell]) rfl post

set_option maxHeartbeats 1000000 in
set_option maxRecDepth 100000 in
theorem told_1 (v : Value) (L : Ln.Li) (y a n : Int) (s : ByteArray) (N : Nat) (w : World) (hL : Ln.LOk N L) (hN : N ≤ 1000000) (hs : s.size ≤ 100000) (h : LAt w v L) :
    Calls Try.prog 14 #[v, .agg #[.int .i64 1, .int .i64 y, .int .i64 a, .int .i64 n, .string s]] w fun e w' => PPost w ((Ln.take L y n).1, (Ln.take L y n).2, 0) e w' := by
  have HC : Hid (∀ W, Below w.heap.size w W → Calls Try.prog 26 #[v, .int .i64 y, .int .i64 n] W fun e w' => TEx W (Ln.take L y n) e w') := fun W hW => (rtake_at v L y n N W hL hN (h.below hW)).mono fun e w' q => q.ex
  generalize Ln.take L y n = r at *
  obtain ⟨b0, bc0, g0, gc0, b1, bc1, g1, gc1, rfl, -⟩ := h
  obtain ⟨⟨x0, p0, bad0, gap0⟩, ⟨x1, p1, bad1, gap1⟩, up⟩ := L
  have q := And.intro hL (And.intro hN hs)
  clear q hL hN hs
  dsimp only at *
  generalize (⟨x0.toArray⟩ : ByteArray) = x0 at *
  generalize (⟨x1.toArray⟩ : ByteArray) = x1 at *
  generalize bad0.length = bn0 at *
  generalize gap0.length = gn0 at *
  generalize bad1.length = bn1 at *
  generalize gap1.length = gn1 at *
  generalize (p0 : Int) = p0 at *
  generalize (p1 : Int) = p1 at *
  go_enter Try.func14, Try.ntmps14
  go_upto_region 17 with (go_at_call 26; refine (HC.out _ (Rg.al3 _ _ _ _)).mono ?_; rintro e w1 ⟨x0', p0', b0', bn0', bc0', g0', gn0', gc0', x1', p1', b1', bn1', bc1', g1', gn1', gc1', up', rfl, hD, hb⟩; have hbw : Below w.heap.size w w1 := Rg.chain (Rg.al3 _ _ _ _) hb; have kB : Rg.Bk w.heap.size [.string x0, .int .i64 p0, .slice b0 bn0 bc0, .slice g0 gn0 gc0, .string x1, .int .i64 p1, .slice b1 bn1 bc1, .slice g1 gn1 gc1, .bool up] 30 w1 := Rg.Bk.below (Rg.Bk.old (Rg.Bk.old (Rg.Bk.new rfl) _) _) hb (by simp; omega); have kR : Rg.Bk (w.heap.size + 1 + 1) [.string ⟨#[]⟩, .int .i64 0, .slice none 0 0, .slice none 0 0, .string ⟨#[]⟩, .int .i64 0, .slice none 0 0, .slice none 0 0, .bool false] 30 w1 := Rg.Bk.below (Rg.Bk.new (by simp)) hb (by simp); clear hb HC; have z0 := kB.cell 0; have z1 := kB.cell 1; have z2 := kB.cell 2; have z3 := kB.cell 3; have z4 := kB.cell 4; have z5 := kB.cell 5; have z6 := kB.cell 6; have z7 := kB.cell 7; have z8 := kB.cell 8; simp only [List.getElem?_cons_zero, List.getElem?_cons_succ] at z0 z1 z2 z3 z4 z5 z6 z7 z8; have zf := kB.thaw)
  obtain ⟨kB2, oB⟩ := ret9 kB rfl (.string x0') (.int .i64 p0') (.slice b0' bn0' bc0') (.slice g0' gn0' gc0') (.string x1') (.int .i64 p1') (.slice b1' bn1' bc1') (.slice g1' gn1' gc1') (.bool up')
  have hD2 := hD.only kB line_int oB
  have kR2 := kR.same (oB.block _ (by omega))
  have hb2 := hbw.trans (oB.bel (Nat.le_refl _))
  clear z0 z1 z2 z3 z4 z5 z6 z7 z8 zf kB kR oB hD hbw
  generalize World.setCell _ _ _ = W2 at *
  obtain ⟨B, hB⟩ : ∃ B, B = w.heap.size := ⟨_, rfl⟩
  obtain ⟨R, hR⟩ : ∃ R, R = w.heap.size + 1 + 1 := ⟨_, rfl⟩
  rw [← hR] at kR2 ⊢
  rw [← hB] at kB2 ⊢
  have hBR : B ≠ R := by omega
  have hRw : w.heap.size ≤ R := by omega
  clear hB hR
  obtain ⟨kE, oE⟩ := ret9 kR2 rfl (.string x0') (.int .i64 p0') (.slice b0' bn0' bc0') (.slice g0' gn0' gc0') (.string x1') (.int .i64 p1') (.slice b1' bn1' bc1') (.slice g1' gn1' gc1') (.bool up')
  have post := Rg.hid ((⟨_, rfl, hD2.only kR2 line_int oE, hb2.trans (oE.bel hRw)⟩ : PPost w (r.1, r.2, 0) _ _))
  replace kE := Rg.hid kE
  have d0' : W2.cell? ⟨B, 0, none⟩ = some (.string x0') := kB2.cell 0
  have d1' : W2.cell? ⟨B, 1, none⟩ = some (.int .i64 p0') := kB2.cell 1
  have d2' : W2.cell? ⟨B, 2, none⟩ = some (.slice b0' bn0' bc0') := kB2.cell 2
  have d3' : W2.cell? ⟨B, 3, none⟩ = some (.slice g0' gn0' gc0') := kB2.cell 3
  have d4' : W2.cell? ⟨B, 4, none⟩ = some (.string x1') := kB2.cell 4
  have d5' : W2.cell? ⟨B, 5, none⟩ = some (.int .i64 p1') := kB2.cell 5
  have d6' : W2.cell? ⟨B, 6, none⟩ = some (.slice b1' bn1' bc1') := kB2.cell 6
  have d7' : W2.cell? ⟨B, 7, none⟩ = some (.slice g1' gn1' gc1') := kB2.cell 7
  have d8' : W2.cell? ⟨B, 8, none⟩ = some (.bool up') := kB2.cell 8
  have r0 : W2.cell? ⟨R, 0, none⟩ = some (.string ⟨#[]⟩) := kR2.cell 0
  have r1 : W2.cell? ⟨R, 1, none⟩ = some (.int .i64 0) := kR2.cell 1
  have r2 : W2.cell? ⟨R, 2, none⟩ = some (.slice none 0 0) := kR2.cell 2
  have r3 : W2.cell? ⟨R, 3, none⟩ = some (.slice none 0 0) := kR2.cell 3
  have r4 : W2.cell? ⟨R, 4, none⟩ = some (.string ⟨#[]⟩) := kR2.cell 4
  have r5 : W2.cell? ⟨R, 5, none⟩ = some (.int .i64 0) := kR2.cell 5
  have r6 : W2.cell? ⟨R, 6, none⟩ = some (.slice none 0 0) := kR2.cell 6
  have r7 : W2.cell? ⟨R, 7, none⟩ = some (.slice none 0 0) := kR2.cell 7
  have r8 : W2.cell? ⟨R, 8, none⟩ = some (.bool false) := kR2.cell 8
  have rf := kR2.thaw
  clear oE kR2 kB2 hb2 hD2
  go_wp2
  replace kE := kE.out
  replace post := post.out
  generalize World.setCell _ _ _ = WE at *
  exact bodyPost_ret (v := .tuple #[.agg #[.string x0', .int .i64 p0', .slice b0' bn0' bc0', .slice g0' gn0' gc0', .string x1', .int .i64 p1', .slice b1' bn1' bc1', .slice g1' gn1' gc1', .bool up'], .string ⟨r.2.toArray⟩, .int .i64 0]) (by simp [results, Try.results14, go_sem, kE.cell]) rfl post

set_option maxHeartbeats 1000000 in
set_option maxRecDepth 100000 in
theorem told_2 (v : Value) (L : Ln.Li) (y a n : Int) (s : ByteArray) (N : Nat) (w : World) (hL : Ln.LOk N L) (hN : N ≤ 1000000) (hs : s.size ≤ 100000) (h : LAt w v L) :
    Calls Try.prog 14 #[v, .agg #[.int .i64 2, .int .i64 y, .int .i64 a, .int .i64 n, .string s]] w fun e w' => PPost w ((Ln.flip L y a n).1, [], (Ln.flip L y a n).2) e w' := by
  have HC : Hid (∀ W, Below w.heap.size w W → Calls Try.prog 27 #[v, .int .i64 y, .int .i64 a, .int .i64 n] W fun e w' => EEx W (Ln.flip L y a n) e w') := fun W hW => (rflip_at v L y a n N W hL hN (h.below hW)).mono fun e w' q => q.ex
  generalize Ln.flip L y a n = r at *
  obtain ⟨b0, bc0, g0, gc0, b1, bc1, g1, gc1, rfl, -⟩ := h
  obtain ⟨⟨x0, p0, bad0, gap0⟩, ⟨x1, p1, bad1, gap1⟩, up⟩ := L
  have q := And.intro hL (And.intro hN hs)
  clear q hL hN hs
  dsimp only at *
  generalize (⟨x0.toArray⟩ : ByteArray) = x0 at *
  generalize (⟨x1.toArray⟩ : ByteArray) = x1 at *
  generalize bad0.length = bn0 at *
  generalize gap0.length = gn0 at *
  generalize bad1.length = bn1 at *
  generalize gap1.length = gn1 at *
  generalize (p0 : Int) = p0 at *
  generalize (p1 : Int) = p1 at *
  go_enter Try.func14, Try.ntmps14
  go_upto_region 17 with (go_at_call 27; refine (HC.out _ (Rg.al3 _ _ _ _)).mono ?_; rintro e w1 ⟨x0', p0', b0', bn0', bc0', g0', gn0', gc0', x1', p1', b1', bn1', bc1', g1', gn1', gc1', up', rfl, hD, hb⟩; have hbw : Below w.heap.size w w1 := Rg.chain (Rg.al3 _ _ _ _) hb; have kB : Rg.Bk w.heap.size [.string x0, .int .i64 p0, .slice b0 bn0 bc0, .slice g0 gn0 gc0, .string x1, .int .i64 p1, .slice b1 bn1 bc1, .slice g1 gn1 gc1, .bool up] 30 w1 := Rg.Bk.below (Rg.Bk.old (Rg.Bk.old (Rg.Bk.new rfl) _) _) hb (by simp; omega); have kR : Rg.Bk (w.heap.size + 1 + 1) [.string ⟨#[]⟩, .int .i64 0, .slice none 0 0, .slice none 0 0, .string ⟨#[]⟩, .int .i64 0, .slice none 0 0, .slice none 0 0, .bool false] 30 w1 := Rg.Bk.below (Rg.Bk.new (by simp)) hb (by simp); clear hb HC; have z0 := kB.cell 0; have z1 := kB.cell 1; have z2 := kB.cell 2; have z3 := kB.cell 3; have z4 := kB.cell 4; have z5 := kB.cell 5; have z6 := kB.cell 6; have z7 := kB.cell 7; have z8 := kB.cell 8; simp only [List.getElem?_cons_zero, List.getElem?_cons_succ] at z0 z1 z2 z3 z4 z5 z6 z7 z8; have zf := kB.thaw)
  obtain ⟨kB2, oB⟩ := ret9 kB rfl (.string x0') (.int .i64 p0') (.slice b0' bn0' bc0') (.slice g0' gn0' gc0') (.string x1') (.int .i64 p1') (.slice b1' bn1' bc1') (.slice g1' gn1' gc1') (.bool up')
  have hD2 := hD.only kB line_int oB
  have kR2 := kR.same (oB.block _ (by omega))
  have hb2 := hbw.trans (oB.bel (Nat.le_refl _))
  clear z0 z1 z2 z3 z4 z5 z6 z7 z8 zf kB kR oB hD hbw
  generalize World.setCell _ _ _ = W2 at *
  obtain ⟨B, hB⟩ : ∃ B, B = w.heap.size := ⟨_, rfl⟩
  obtain ⟨R, hR⟩ : ∃ R, R = w.heap.size + 1 + 1 := ⟨_, rfl⟩
  rw [← hR] at kR2 ⊢
  rw [← hB] at kB2 ⊢
  have hBR : B ≠ R := by omega
  have hRw : w.heap.size ≤ R := by omega
  clear hB hR
  obtain ⟨kE, oE⟩ := ret9 kR2 rfl (.string x0') (.int .i64 p0') (.slice b0' bn0' bc0') (.slice g0' gn0' gc0') (.string x1') (.int .i64 p1') (.slice b1' bn1' bc1') (.slice g1' gn1' gc1') (.bool up')
  have post := Rg.hid ((⟨_, rfl, hD2.only kR2 line_int oE, hb2.trans (oE.bel hRw)⟩ : PPost w (r.1, [], r.2) _ _))
  replace kE := Rg.hid kE
  have d0' : W2.cell? ⟨B, 0, none⟩ = some (.string x0') := kB2.cell 0
  have d1' : W2.cell? ⟨B, 1, none⟩ = some (.int .i64 p0') := kB2.cell 1
  have d2' : W2.cell? ⟨B, 2, none⟩ = some (.slice b0' bn0' bc0') := kB2.cell 2
  have d3' : W2.cell? ⟨B, 3, none⟩ = some (.slice g0' gn0' gc0') := kB2.cell 3
  have d4' : W2.cell? ⟨B, 4, none⟩ = some (.string x1') := kB2.cell 4
  have d5' : W2.cell? ⟨B, 5, none⟩ = some (.int .i64 p1') := kB2.cell 5
  have d6' : W2.cell? ⟨B, 6, none⟩ = some (.slice b1' bn1' bc1') := kB2.cell 6
  have d7' : W2.cell? ⟨B, 7, none⟩ = some (.slice g1' gn1' gc1') := kB2.cell 7
  have d8' : W2.cell? ⟨B, 8, none⟩ = some (.bool up') := kB2.cell 8
  have r0 : W2.cell? ⟨R, 0, none⟩ = some (.string ⟨#[]⟩) := kR2.cell 0
  have r1 : W2.cell? ⟨R, 1, none⟩ = some (.int .i64 0) := kR2.cell 1
  have r2 : W2.cell? ⟨R, 2, none⟩ = some (.slice none 0 0) := kR2.cell 2
  have r3 : W2.cell? ⟨R, 3, none⟩ = some (.slice none 0 0) := kR2.cell 3
  have r4 : W2.cell? ⟨R, 4, none⟩ = some (.string ⟨#[]⟩) := kR2.cell 4
  have r5 : W2.cell? ⟨R, 5, none⟩ = some (.int .i64 0) := kR2.cell 5
  have r6 : W2.cell? ⟨R, 6, none⟩ = some (.slice none 0 0) := kR2.cell 6
  have r7 : W2.cell? ⟨R, 7, none⟩ = some (.slice none 0 0) := kR2.cell 7
  have r8 : W2.cell? ⟨R, 8, none⟩ = some (.bool false) := kR2.cell 8
  have rf := kR2.thaw
  clear oE kR2 kB2 hb2 hD2
  go_wp2
  replace kE := kE.out
  replace post := post.out
  generalize World.setCell _ _ _ = WE at *
  exact bodyPost_ret (v := .tuple #[.agg #[.string x0', .int .i64 p0', .slice b0' bn0' bc0', .slice g0' gn0' gc0', .string x1', .int .i64 p1', .slice b1' bn1' bc1', .slice g1' gn1' gc1', .bool up'], .string ⟨#[]⟩, .int .i64 r.2]) (by simp [results, Try.results14, go_sem, kE.cell]) rfl post

set_option maxHeartbeats 1000000 in
set_option maxRecDepth 100000 in
theorem told_3 (v : Value) (L : Ln.Li) (y a n : Int) (s : ByteArray) (N : Nat) (w : World) (hL : Ln.LOk N L) (hN : N ≤ 1000000) (hs : s.size ≤ 100000) (h : LAt w v L) :
    Calls Try.prog 14 #[v, .agg #[.int .i64 3, .int .i64 y, .int .i64 a, .int .i64 n, .string s]] w fun e w' => PPost w ((Ln.lose L y a).1, [], (Ln.lose L y a).2) e w' := by
  have HC : Hid (∀ W, Below w.heap.size w W → Calls Try.prog 28 #[v, .int .i64 y, .int .i64 a] W fun e w' => EEx W (Ln.lose L y a) e w') := fun W hW => (rlose_at v L y a N W hL hN (h.below hW)).mono fun e w' q => q.ex
  generalize Ln.lose L y a = r at *
  obtain ⟨b0, bc0, g0, gc0, b1, bc1, g1, gc1, rfl, -⟩ := h
  obtain ⟨⟨x0, p0, bad0, gap0⟩, ⟨x1, p1, bad1, gap1⟩, up⟩ := L
  have q := And.intro hL (And.intro hN hs)
  clear q hL hN hs
  dsimp only at *
  generalize (⟨x0.toArray⟩ : ByteArray) = x0 at *
  generalize (⟨x1.toArray⟩ : ByteArray) = x1 at *
  generalize bad0.length = bn0 at *
  generalize gap0.length = gn0 at *
  generalize bad1.length = bn1 at *
  generalize gap1.length = gn1 at *
  generalize (p0 : Int) = p0 at *
  generalize (p1 : Int) = p1 at *
  go_enter Try.func14, Try.ntmps14
  go_upto_region 17 with (go_at_call 28; refine (HC.out _ (Rg.al3 _ _ _ _)).mono ?_; rintro e w1 ⟨x0', p0', b0', bn0', bc0', g0', gn0', gc0', x1', p1', b1', bn1', bc1', g1', gn1', gc1', up', rfl, hD, hb⟩; have hbw : Below w.heap.size w w1 := Rg.chain (Rg.al3 _ _ _ _) hb; have kB : Rg.Bk w.heap.size [.string x0, .int .i64 p0, .slice b0 bn0 bc0, .slice g0 gn0 gc0, .string x1, .int .i64 p1, .slice b1 bn1 bc1, .slice g1 gn1 gc1, .bool up] 30 w1 := Rg.Bk.below (Rg.Bk.old (Rg.Bk.old (Rg.Bk.new rfl) _) _) hb (by simp; omega); have kR : Rg.Bk (w.heap.size + 1 + 1) [.string ⟨#[]⟩, .int .i64 0, .slice none 0 0, .slice none 0 0, .string ⟨#[]⟩, .int .i64 0, .slice none 0 0, .slice none 0 0, .bool false] 30 w1 := Rg.Bk.below (Rg.Bk.new (by simp)) hb (by simp); clear hb HC; have z0 := kB.cell 0; have z1 := kB.cell 1; have z2 := kB.cell 2; have z3 := kB.cell 3; have z4 := kB.cell 4; have z5 := kB.cell 5; have z6 := kB.cell 6; have z7 := kB.cell 7; have z8 := kB.cell 8; simp only [List.getElem?_cons_zero, List.getElem?_cons_succ] at z0 z1 z2 z3 z4 z5 z6 z7 z8; have zf := kB.thaw)
  obtain ⟨kB2, oB⟩ := ret9 kB rfl (.string x0') (.int .i64 p0') (.slice b0' bn0' bc0') (.slice g0' gn0' gc0') (.string x1') (.int .i64 p1') (.slice b1' bn1' bc1') (.slice g1' gn1' gc1') (.bool up')
  have hD2 := hD.only kB line_int oB
  have kR2 := kR.same (oB.block _ (by omega))
  have hb2 := hbw.trans (oB.bel (Nat.le_refl _))
  clear z0 z1 z2 z3 z4 z5 z6 z7 z8 zf kB kR oB hD hbw
  generalize World.setCell _ _ _ = W2 at *
  obtain ⟨B, hB⟩ : ∃ B, B = w.heap.size := ⟨_, rfl⟩
  obtain ⟨R, hR⟩ : ∃ R, R = w.heap.size + 1 + 1 := ⟨_, rfl⟩
  rw [← hR] at kR2 ⊢
  rw [← hB] at kB2 ⊢
  have hBR : B ≠ R := by omega
  have hRw : w.heap.size ≤ R := by omega
  clear hB hR
  obtain ⟨kE, oE⟩ := ret9 kR2 rfl (.string x0') (.int .i64 p0') (.slice b0' bn0' bc0') (.slice g0' gn0' gc0') (.string x1') (.int .i64 p1') (.slice b1' bn1' bc1') (.slice g1' gn1' gc1') (.bool up')
  have post := Rg.hid ((⟨_, rfl, hD2.only kR2 line_int oE, hb2.trans (oE.bel hRw)⟩ : PPost w (r.1, [], r.2) _ _))
  replace kE := Rg.hid kE
  have d0' : W2.cell? ⟨B, 0, none⟩ = some (.string x0') := kB2.cell 0
  have d1' : W2.cell? ⟨B, 1, none⟩ = some (.int .i64 p0') := kB2.cell 1
  have d2' : W2.cell? ⟨B, 2, none⟩ = some (.slice b0' bn0' bc0') := kB2.cell 2
  have d3' : W2.cell? ⟨B, 3, none⟩ = some (.slice g0' gn0' gc0') := kB2.cell 3
  have d4' : W2.cell? ⟨B, 4, none⟩ = some (.string x1') := kB2.cell 4
  have d5' : W2.cell? ⟨B, 5, none⟩ = some (.int .i64 p1') := kB2.cell 5
  have d6' : W2.cell? ⟨B, 6, none⟩ = some (.slice b1' bn1' bc1') := kB2.cell 6
  have d7' : W2.cell? ⟨B, 7, none⟩ = some (.slice g1' gn1' gc1') := kB2.cell 7
  have d8' : W2.cell? ⟨B, 8, none⟩ = some (.bool up') := kB2.cell 8
  have r0 : W2.cell? ⟨R, 0, none⟩ = some (.string ⟨#[]⟩) := kR2.cell 0
  have r1 : W2.cell? ⟨R, 1, none⟩ = some (.int .i64 0) := kR2.cell 1
  have r2 : W2.cell? ⟨R, 2, none⟩ = some (.slice none 0 0) := kR2.cell 2
  have r3 : W2.cell? ⟨R, 3, none⟩ = some (.slice none 0 0) := kR2.cell 3
  have r4 : W2.cell? ⟨R, 4, none⟩ = some (.string ⟨#[]⟩) := kR2.cell 4
  have r5 : W2.cell? ⟨R, 5, none⟩ = some (.int .i64 0) := kR2.cell 5
  have r6 : W2.cell? ⟨R, 6, none⟩ = some (.slice none 0 0) := kR2.cell 6
  have r7 : W2.cell? ⟨R, 7, none⟩ = some (.slice none 0 0) := kR2.cell 7
  have r8 : W2.cell? ⟨R, 8, none⟩ = some (.bool false) := kR2.cell 8
  have rf := kR2.thaw
  clear oE kR2 kB2 hb2 hD2
  go_wp2
  replace kE := kE.out
  replace post := post.out
  generalize World.setCell _ _ _ = WE at *
  exact bodyPost_ret (v := .tuple #[.agg #[.string x0', .int .i64 p0', .slice b0' bn0' bc0', .slice g0' gn0' gc0', .string x1', .int .i64 p1', .slice b1' bn1' bc1', .slice g1' gn1' gc1', .bool up'], .string ⟨#[]⟩, .int .i64 r.2]) (by simp [results, Try.results14, go_sem, kE.cell]) rfl post

set_option maxHeartbeats 1000000 in
set_option maxRecDepth 100000 in
theorem told_4 (v : Value) (L : Ln.Li) (y a n : Int) (s : ByteArray) (N : Nat) (w : World) (hL : Ln.LOk N L) (hN : N ≤ 1000000) (hs : s.size ≤ 100000) (h : LAt w v L) :
    Calls Try.prog 14 #[v, .agg #[.int .i64 4, .int .i64 y, .int .i64 a, .int .i64 n, .string s]] w fun e w' => PPost w ((Ln.add L y a (Ln.byte n)).1, [], (Ln.add L y a (Ln.byte n)).2) e w' := by
  have HC : Hid (∀ W, Below w.heap.size w W → Calls Try.prog 29 #[v, .int .i64 y, .int .i64 a, .int .u8 ((Ln.byte n).toNat : Int)] W fun e w' => EEx W (Ln.add L y a (Ln.byte n)) e w') := fun W hW => (radd_at v L y a (Ln.byte n) N W hL hN (h.below hW)).mono fun e w' q => q.ex
  generalize Ln.add L y a (Ln.byte n) = r at *
  obtain ⟨b0, bc0, g0, gc0, b1, bc1, g1, gc1, rfl, -⟩ := h
  obtain ⟨⟨x0, p0, bad0, gap0⟩, ⟨x1, p1, bad1, gap1⟩, up⟩ := L
  have q := And.intro hL (And.intro hN hs)
  clear q hL hN hs
  have hwr : IntKind.u8.wrap n = ((Ln.byte n).toNat : Int) := by rw [IntKind.wrap_u8]; simp [Ln.byte]; omega
  generalize ((Ln.byte n).toNat : Int) = cn at *
  dsimp only at *
  generalize (⟨x0.toArray⟩ : ByteArray) = x0 at *
  generalize (⟨x1.toArray⟩ : ByteArray) = x1 at *
  generalize bad0.length = bn0 at *
  generalize gap0.length = gn0 at *
  generalize bad1.length = bn1 at *
  generalize gap1.length = gn1 at *
  generalize (p0 : Int) = p0 at *
  generalize (p1 : Int) = p1 at *
  go_enter Try.func14, Try.ntmps14
  go_upto_region 17 with (go_at_call 29; refine (HC.out _ (Rg.al3 _ _ _ _)).mono ?_; rintro e w1 ⟨x0', p0', b0', bn0', bc0', g0', gn0', gc0', x1', p1', b1', bn1', bc1', g1', gn1', gc1', up', rfl, hD, hb⟩; have hbw : Below w.heap.size w w1 := Rg.chain (Rg.al3 _ _ _ _) hb; have kB : Rg.Bk w.heap.size [.string x0, .int .i64 p0, .slice b0 bn0 bc0, .slice g0 gn0 gc0, .string x1, .int .i64 p1, .slice b1 bn1 bc1, .slice g1 gn1 gc1, .bool up] 30 w1 := Rg.Bk.below (Rg.Bk.old (Rg.Bk.old (Rg.Bk.new rfl) _) _) hb (by simp; omega); have kR : Rg.Bk (w.heap.size + 1 + 1) [.string ⟨#[]⟩, .int .i64 0, .slice none 0 0, .slice none 0 0, .string ⟨#[]⟩, .int .i64 0, .slice none 0 0, .slice none 0 0, .bool false] 30 w1 := Rg.Bk.below (Rg.Bk.new (by simp)) hb (by simp); clear hb HC; have z0 := kB.cell 0; have z1 := kB.cell 1; have z2 := kB.cell 2; have z3 := kB.cell 3; have z4 := kB.cell 4; have z5 := kB.cell 5; have z6 := kB.cell 6; have z7 := kB.cell 7; have z8 := kB.cell 8; simp only [List.getElem?_cons_zero, List.getElem?_cons_succ] at z0 z1 z2 z3 z4 z5 z6 z7 z8; have zf := kB.thaw)
  obtain ⟨kB2, oB⟩ := ret9 kB rfl (.string x0') (.int .i64 p0') (.slice b0' bn0' bc0') (.slice g0' gn0' gc0') (.string x1') (.int .i64 p1') (.slice b1' bn1' bc1') (.slice g1' gn1' gc1') (.bool up')
  have hD2 := hD.only kB line_int oB
  have kR2 := kR.same (oB.block _ (by omega))
  have hb2 := hbw.trans (oB.bel (Nat.le_refl _))
  clear z0 z1 z2 z3 z4 z5 z6 z7 z8 zf kB kR oB hD hbw
  generalize World.setCell _ _ _ = W2 at *
  obtain ⟨B, hB⟩ : ∃ B, B = w.heap.size := ⟨_, rfl⟩
  obtain ⟨R, hR⟩ : ∃ R, R = w.heap.size + 1 + 1 := ⟨_, rfl⟩
  rw [← hR] at kR2 ⊢
  rw [← hB] at kB2 ⊢
  have hBR : B ≠ R := by omega
  have hRw : w.heap.size ≤ R := by omega
  clear hB hR
  obtain ⟨kE, oE⟩ := ret9 kR2 rfl (.string x0') (.int .i64 p0') (.slice b0' bn0' bc0') (.slice g0' gn0' gc0') (.string x1') (.int .i64 p1') (.slice b1' bn1' bc1') (.slice g1' gn1' gc1') (.bool up')
  have post := Rg.hid ((⟨_, rfl, hD2.only kR2 line_int oE, hb2.trans (oE.bel hRw)⟩ : PPost w (r.1, [], r.2) _ _))
  replace kE := Rg.hid kE
  have d0' : W2.cell? ⟨B, 0, none⟩ = some (.string x0') := kB2.cell 0
  have d1' : W2.cell? ⟨B, 1, none⟩ = some (.int .i64 p0') := kB2.cell 1
  have d2' : W2.cell? ⟨B, 2, none⟩ = some (.slice b0' bn0' bc0') := kB2.cell 2
  have d3' : W2.cell? ⟨B, 3, none⟩ = some (.slice g0' gn0' gc0') := kB2.cell 3
  have d4' : W2.cell? ⟨B, 4, none⟩ = some (.string x1') := kB2.cell 4
  have d5' : W2.cell? ⟨B, 5, none⟩ = some (.int .i64 p1') := kB2.cell 5
  have d6' : W2.cell? ⟨B, 6, none⟩ = some (.slice b1' bn1' bc1') := kB2.cell 6
  have d7' : W2.cell? ⟨B, 7, none⟩ = some (.slice g1' gn1' gc1') := kB2.cell 7
  have d8' : W2.cell? ⟨B, 8, none⟩ = some (.bool up') := kB2.cell 8
  have r0 : W2.cell? ⟨R, 0, none⟩ = some (.string ⟨#[]⟩) := kR2.cell 0
  have r1 : W2.cell? ⟨R, 1, none⟩ = some (.int .i64 0) := kR2.cell 1
  have r2 : W2.cell? ⟨R, 2, none⟩ = some (.slice none 0 0) := kR2.cell 2
  have r3 : W2.cell? ⟨R, 3, none⟩ = some (.slice none 0 0) := kR2.cell 3
  have r4 : W2.cell? ⟨R, 4, none⟩ = some (.string ⟨#[]⟩) := kR2.cell 4
  have r5 : W2.cell? ⟨R, 5, none⟩ = some (.int .i64 0) := kR2.cell 5
  have r6 : W2.cell? ⟨R, 6, none⟩ = some (.slice none 0 0) := kR2.cell 6
  have r7 : W2.cell? ⟨R, 7, none⟩ = some (.slice none 0 0) := kR2.cell 7
  have r8 : W2.cell? ⟨R, 8, none⟩ = some (.bool false) := kR2.cell 8
  have rf := kR2.thaw
  clear oE kR2 kB2 hb2 hD2
  go_wp2
  replace kE := kE.out
  replace post := post.out
  generalize World.setCell _ _ _ = WE at *
  exact bodyPost_ret (v := .tuple #[.agg #[.string x0', .int .i64 p0', .slice b0' bn0' bc0', .slice g0' gn0' gc0', .string x1', .int .i64 p1', .slice b1' bn1' bc1', .slice g1' gn1' gc1', .bool up'], .string ⟨#[]⟩, .int .i64 r.2]) (by simp [results, Try.results14, go_sem, kE.cell]) rfl post

set_option maxHeartbeats 1000000 in
set_option maxRecDepth 100000 in
theorem told_5 (v : Value) (L : Ln.Li) (y a n : Int) (s : ByteArray) (N : Nat) (w : World) (hL : Ln.LOk N L) (hN : N ≤ 1000000) (hs : s.size ≤ 100000) (h : LAt w v L) :
    Calls Try.prog 14 #[v, .agg #[.int .i64 5, .int .i64 y, .int .i64 a, .int .i64 n, .string s]] w fun e w' => PPost w (Ln.hung, [], 0) e w' := by
  have HC : Hid (∀ W, Below w.heap.size w W → Calls Try.prog 30 #[v] W fun e w' => LEx W (Ln.hung) e w') := fun W hW => ((show Calls Try.prog 30 #[v] W fun e w' => LPost W Ln.hung e w' from rhang_at v L W (h.below hW))).mono fun e w' q => q.ex
  obtain ⟨b0, bc0, g0, gc0, b1, bc1, g1, gc1, rfl, -⟩ := h
  obtain ⟨⟨x0, p0, bad0, gap0⟩, ⟨x1, p1, bad1, gap1⟩, up⟩ := L
  have q := And.intro hL (And.intro hN hs)
  clear q hL hN hs
  dsimp only at *
  generalize (⟨x0.toArray⟩ : ByteArray) = x0 at *
  generalize (⟨x1.toArray⟩ : ByteArray) = x1 at *
  generalize bad0.length = bn0 at *
  generalize gap0.length = gn0 at *
  generalize bad1.length = bn1 at *
  generalize gap1.length = gn1 at *
  generalize (p0 : Int) = p0 at *
  generalize (p1 : Int) = p1 at *
  go_enter Try.func14, Try.ntmps14
  go_upto_region 17 with (go_at_call 30; refine (HC.out _ (Rg.al3 _ _ _ _)).mono ?_; rintro e w1 ⟨x0', p0', b0', bn0', bc0', g0', gn0', gc0', x1', p1', b1', bn1', bc1', g1', gn1', gc1', up', rfl, hD, hb⟩; have hbw : Below w.heap.size w w1 := Rg.chain (Rg.al3 _ _ _ _) hb; have kB : Rg.Bk w.heap.size [.string x0, .int .i64 p0, .slice b0 bn0 bc0, .slice g0 gn0 gc0, .string x1, .int .i64 p1, .slice b1 bn1 bc1, .slice g1 gn1 gc1, .bool up] 30 w1 := Rg.Bk.below (Rg.Bk.old (Rg.Bk.old (Rg.Bk.new rfl) _) _) hb (by simp; omega); have kR : Rg.Bk (w.heap.size + 1 + 1) [.string ⟨#[]⟩, .int .i64 0, .slice none 0 0, .slice none 0 0, .string ⟨#[]⟩, .int .i64 0, .slice none 0 0, .slice none 0 0, .bool false] 30 w1 := Rg.Bk.below (Rg.Bk.new (by simp)) hb (by simp); clear hb HC; have z0 := kB.cell 0; have z1 := kB.cell 1; have z2 := kB.cell 2; have z3 := kB.cell 3; have z4 := kB.cell 4; have z5 := kB.cell 5; have z6 := kB.cell 6; have z7 := kB.cell 7; have z8 := kB.cell 8; simp only [List.getElem?_cons_zero, List.getElem?_cons_succ] at z0 z1 z2 z3 z4 z5 z6 z7 z8; have zf := kB.thaw)
  obtain ⟨kB2, oB⟩ := ret9 kB rfl (.string x0') (.int .i64 p0') (.slice b0' bn0' bc0') (.slice g0' gn0' gc0') (.string x1') (.int .i64 p1') (.slice b1' bn1' bc1') (.slice g1' gn1' gc1') (.bool up')
  have hD2 := hD.only kB line_int oB
  have kR2 := kR.same (oB.block _ (by omega))
  have hb2 := hbw.trans (oB.bel (Nat.le_refl _))
  clear z0 z1 z2 z3 z4 z5 z6 z7 z8 zf kB kR oB hD hbw
  generalize World.setCell _ _ _ = W2 at *
  obtain ⟨B, hB⟩ : ∃ B, B = w.heap.size := ⟨_, rfl⟩
  obtain ⟨R, hR⟩ : ∃ R, R = w.heap.size + 1 + 1 := ⟨_, rfl⟩
  rw [← hR] at kR2 ⊢
  rw [← hB] at kB2 ⊢
  have hBR : B ≠ R := by omega
  have hRw : w.heap.size ≤ R := by omega
  clear hB hR
  obtain ⟨kE, oE⟩ := ret9 kR2 rfl (.string x0') (.int .i64 p0') (.slice b0' bn0' bc0') (.slice g0' gn0' gc0') (.string x1') (.int .i64 p1') (.slice b1' bn1' bc1') (.slice g1' gn1' gc1') (.bool up')
  have post := Rg.hid ((⟨_, rfl, hD2.only kR2 line_int oE, hb2.trans (oE.bel hRw)⟩ : PPost w (Ln.hung, [], 0) _ _))
  replace kE := Rg.hid kE
  have d0' : W2.cell? ⟨B, 0, none⟩ = some (.string x0') := kB2.cell 0
  have d1' : W2.cell? ⟨B, 1, none⟩ = some (.int .i64 p0') := kB2.cell 1
  have d2' : W2.cell? ⟨B, 2, none⟩ = some (.slice b0' bn0' bc0') := kB2.cell 2
  have d3' : W2.cell? ⟨B, 3, none⟩ = some (.slice g0' gn0' gc0') := kB2.cell 3
  have d4' : W2.cell? ⟨B, 4, none⟩ = some (.string x1') := kB2.cell 4
  have d5' : W2.cell? ⟨B, 5, none⟩ = some (.int .i64 p1') := kB2.cell 5
  have d6' : W2.cell? ⟨B, 6, none⟩ = some (.slice b1' bn1' bc1') := kB2.cell 6
  have d7' : W2.cell? ⟨B, 7, none⟩ = some (.slice g1' gn1' gc1') := kB2.cell 7
  have d8' : W2.cell? ⟨B, 8, none⟩ = some (.bool up') := kB2.cell 8
  have r0 : W2.cell? ⟨R, 0, none⟩ = some (.string ⟨#[]⟩) := kR2.cell 0
  have r1 : W2.cell? ⟨R, 1, none⟩ = some (.int .i64 0) := kR2.cell 1
  have r2 : W2.cell? ⟨R, 2, none⟩ = some (.slice none 0 0) := kR2.cell 2
  have r3 : W2.cell? ⟨R, 3, none⟩ = some (.slice none 0 0) := kR2.cell 3
  have r4 : W2.cell? ⟨R, 4, none⟩ = some (.string ⟨#[]⟩) := kR2.cell 4
  have r5 : W2.cell? ⟨R, 5, none⟩ = some (.int .i64 0) := kR2.cell 5
  have r6 : W2.cell? ⟨R, 6, none⟩ = some (.slice none 0 0) := kR2.cell 6
  have r7 : W2.cell? ⟨R, 7, none⟩ = some (.slice none 0 0) := kR2.cell 7
  have r8 : W2.cell? ⟨R, 8, none⟩ = some (.bool false) := kR2.cell 8
  have rf := kR2.thaw
  clear oE kR2 kB2 hb2 hD2
  go_wp2
  replace kE := kE.out
  replace post := post.out
  generalize World.setCell _ _ _ = WE at *
  exact bodyPost_ret (v := .tuple #[.agg #[.string x0', .int .i64 p0', .slice b0' bn0' bc0', .slice g0' gn0' gc0', .string x1', .int .i64 p1', .slice b1' bn1' bc1', .slice g1' gn1' gc1', .bool up'], .string ⟨#[]⟩, .int .i64 0]) (by simp [results, Try.results14, go_sem, kE.cell]) rfl post

set_option maxHeartbeats 1000000 in
set_option maxRecDepth 100000 in
theorem told_d (v : Value) (L : Ln.Li) (k : Int) (y a n : Int) (s : ByteArray) (N : Nat) (w : World) (hL : Ln.LOk N L) (hN : N ≤ 1000000) (hs : s.size ≤ 100000) (h : LAt w v L) (h0 : k ≠ 0) (h1 : k ≠ 1) (h2 : k ≠ 2) (h3 : k ≠ 3) (h4 : k ≠ 4) (h5 : k ≠ 5) :
    Calls Try.prog 14 #[v, .agg #[.int .i64 k, .int .i64 y, .int .i64 a, .int .i64 n, .string s]] w fun e w' => PPost w ((Ln.open_ L).1, [], (Ln.open_ L).2) e w' := by
  have HC : Hid (∀ W, Below w.heap.size w W → Calls Try.prog 31 #[v] W fun e w' => EEx W (Ln.open_ L) e w') := fun W hW => (ropen_at v L N W hL hN (h.below hW)).mono fun e w' q => q.ex
  generalize Ln.open_ L = r at *
  obtain ⟨b0, bc0, g0, gc0, b1, bc1, g1, gc1, rfl, -⟩ := h
  obtain ⟨⟨x0, p0, bad0, gap0⟩, ⟨x1, p1, bad1, gap1⟩, up⟩ := L
  have q := And.intro hL (And.intro hN hs)
  clear q hL hN hs
  have e0 : (k == 0) = false := by simp [h0]
  have e1 : (k == 1) = false := by simp [h1]
  have e2 : (k == 2) = false := by simp [h2]
  have e3 : (k == 3) = false := by simp [h3]
  have e4 : (k == 4) = false := by simp [h4]
  have e5 : (k == 5) = false := by simp [h5]
  clear h0 h1 h2 h3 h4 h5
  dsimp only at *
  generalize (⟨x0.toArray⟩ : ByteArray) = x0 at *
  generalize (⟨x1.toArray⟩ : ByteArray) = x1 at *
  generalize bad0.length = bn0 at *
  generalize gap0.length = gn0 at *
  generalize bad1.length = bn1 at *
  generalize gap1.length = gn1 at *
  generalize (p0 : Int) = p0 at *
  generalize (p1 : Int) = p1 at *
  go_enter Try.func14, Try.ntmps14
  go_upto_region 17 with (go_at_call 31; refine (HC.out _ (Rg.al3 _ _ _ _)).mono ?_; rintro e w1 ⟨x0', p0', b0', bn0', bc0', g0', gn0', gc0', x1', p1', b1', bn1', bc1', g1', gn1', gc1', up', rfl, hD, hb⟩; have hbw : Below w.heap.size w w1 := Rg.chain (Rg.al3 _ _ _ _) hb; have kB : Rg.Bk w.heap.size [.string x0, .int .i64 p0, .slice b0 bn0 bc0, .slice g0 gn0 gc0, .string x1, .int .i64 p1, .slice b1 bn1 bc1, .slice g1 gn1 gc1, .bool up] 30 w1 := Rg.Bk.below (Rg.Bk.old (Rg.Bk.old (Rg.Bk.new rfl) _) _) hb (by simp; omega); have kR : Rg.Bk (w.heap.size + 1 + 1) [.string ⟨#[]⟩, .int .i64 0, .slice none 0 0, .slice none 0 0, .string ⟨#[]⟩, .int .i64 0, .slice none 0 0, .slice none 0 0, .bool false] 30 w1 := Rg.Bk.below (Rg.Bk.new (by simp)) hb (by simp); clear hb HC; have z0 := kB.cell 0; have z1 := kB.cell 1; have z2 := kB.cell 2; have z3 := kB.cell 3; have z4 := kB.cell 4; have z5 := kB.cell 5; have z6 := kB.cell 6; have z7 := kB.cell 7; have z8 := kB.cell 8; simp only [List.getElem?_cons_zero, List.getElem?_cons_succ] at z0 z1 z2 z3 z4 z5 z6 z7 z8; have zf := kB.thaw)
  obtain ⟨kB2, oB⟩ := ret9 kB rfl (.string x0') (.int .i64 p0') (.slice b0' bn0' bc0') (.slice g0' gn0' gc0') (.string x1') (.int .i64 p1') (.slice b1' bn1' bc1') (.slice g1' gn1' gc1') (.bool up')
  have hD2 := hD.only kB line_int oB
  have kR2 := kR.same (oB.block _ (by omega))
  have hb2 := hbw.trans (oB.bel (Nat.le_refl _))
  clear z0 z1 z2 z3 z4 z5 z6 z7 z8 zf kB kR oB hD hbw
  generalize World.setCell _ _ _ = W2 at *
  obtain ⟨B, hB⟩ : ∃ B, B = w.heap.size := ⟨_, rfl⟩
  obtain ⟨R, hR⟩ : ∃ R, R = w.heap.size + 1 + 1 := ⟨_, rfl⟩
  rw [← hR] at kR2 ⊢
  rw [← hB] at kB2 ⊢
  have hBR : B ≠ R := by omega
  have hRw : w.heap.size ≤ R := by omega
  clear hB hR
  obtain ⟨kE, oE⟩ := ret9 kR2 rfl (.string x0') (.int .i64 p0') (.slice b0' bn0' bc0') (.slice g0' gn0' gc0') (.string x1') (.int .i64 p1') (.slice b1' bn1' bc1') (.slice g1' gn1' gc1') (.bool up')
  have post := Rg.hid ((⟨_, rfl, hD2.only kR2 line_int oE, hb2.trans (oE.bel hRw)⟩ : PPost w (r.1, [], r.2) _ _))
  replace kE := Rg.hid kE
  have d0' : W2.cell? ⟨B, 0, none⟩ = some (.string x0') := kB2.cell 0
  have d1' : W2.cell? ⟨B, 1, none⟩ = some (.int .i64 p0') := kB2.cell 1
  have d2' : W2.cell? ⟨B, 2, none⟩ = some (.slice b0' bn0' bc0') := kB2.cell 2
  have d3' : W2.cell? ⟨B, 3, none⟩ = some (.slice g0' gn0' gc0') := kB2.cell 3
  have d4' : W2.cell? ⟨B, 4, none⟩ = some (.string x1') := kB2.cell 4
  have d5' : W2.cell? ⟨B, 5, none⟩ = some (.int .i64 p1') := kB2.cell 5
  have d6' : W2.cell? ⟨B, 6, none⟩ = some (.slice b1' bn1' bc1') := kB2.cell 6
  have d7' : W2.cell? ⟨B, 7, none⟩ = some (.slice g1' gn1' gc1') := kB2.cell 7
  have d8' : W2.cell? ⟨B, 8, none⟩ = some (.bool up') := kB2.cell 8
  have r0 : W2.cell? ⟨R, 0, none⟩ = some (.string ⟨#[]⟩) := kR2.cell 0
  have r1 : W2.cell? ⟨R, 1, none⟩ = some (.int .i64 0) := kR2.cell 1
  have r2 : W2.cell? ⟨R, 2, none⟩ = some (.slice none 0 0) := kR2.cell 2
  have r3 : W2.cell? ⟨R, 3, none⟩ = some (.slice none 0 0) := kR2.cell 3
  have r4 : W2.cell? ⟨R, 4, none⟩ = some (.string ⟨#[]⟩) := kR2.cell 4
  have r5 : W2.cell? ⟨R, 5, none⟩ = some (.int .i64 0) := kR2.cell 5
  have r6 : W2.cell? ⟨R, 6, none⟩ = some (.slice none 0 0) := kR2.cell 6
  have r7 : W2.cell? ⟨R, 7, none⟩ = some (.slice none 0 0) := kR2.cell 7
  have r8 : W2.cell? ⟨R, 8, none⟩ = some (.bool false) := kR2.cell 8
  have rf := kR2.thaw
  clear oE kR2 kB2 hb2 hD2
  go_wp2
  replace kE := kE.out
  replace post := post.out
  generalize World.setCell _ _ _ = WE at *
  exact bodyPost_ret (v := .tuple #[.agg #[.string x0', .int .i64 p0', .slice b0' bn0' bc0', .slice g0' gn0' gc0', .string x1', .int .i64 p1', .slice b1' bn1' bc1', .slice g1' gn1' gc1', .bool up'], .string ⟨#[]⟩, .int .i64 r.2]) (by simp [results, Try.results14, go_sem, kE.cell]) rfl post

theorem told_any (v : Value) (L : Ln.Li) (c : Ln.Cl) (N : Nat) (w : World) (hL : Ln.LOk N L) (hN : N ≤ 1000000) (hs : c.s.size ≤ 100000) (h : LAt w v L) :
    Calls Try.prog 14 #[v, .agg #[.int .i64 c.k, .int .i64 c.y, .int .i64 c.a, .int .i64 c.n, .string c.s]] w fun e w' => PPost w (Ln.play L c) e w' := by
  obtain ⟨k, y, a, n, s⟩ := c
  dsimp only at *
  unfold Ln.play
  dsimp only
  by_cases h0 : k = 0
  · subst h0; exact told_0 v L y a n s N w hL hN hs h
  rw [if_neg h0]
  by_cases h1 : k = 1
  · subst h1; exact told_1 v L y a n s N w hL hN hs h
  rw [if_neg h1]
  by_cases h2 : k = 2
  · subst h2; exact told_2 v L y a n s N w hL hN hs h
  rw [if_neg h2]
  by_cases h3 : k = 3
  · subst h3; exact told_3 v L y a n s N w hL hN hs h
  rw [if_neg h3]
  by_cases h4 : k = 4
  · subst h4; exact told_4 v L y a n s N w hL hN hs h
  rw [if_neg h4]
  by_cases h5 : k = 5
  · subst h5; exact told_5 v L y a n s N w hL hN hs h
  rw [if_neg h5]
  exact told_d v L k y a n s N w hL hN hs h h0 h1 h2 h3 h4 h5
end Go.Proofs.Ytalleocmnnnchaa
