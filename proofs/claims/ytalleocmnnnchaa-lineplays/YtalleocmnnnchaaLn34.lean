/-
  Layer 7: the document's Add.
-/
import Derived.Test.YtalleocmnnnchaaLn33
namespace Go.Proofs.Ytalleocmnnnchaa
open Go.RowKit

set_option maxHeartbeats 2000000 in
set_option maxRecDepth 100000 in
theorem radd_ok0 (x0 : ByteArray) (p0 : Int) (b0 : Option Addr) (bn0 bc0 : Nat) (g0 : Option Addr) (gn0 gc0 : Nat) (x1 : ByteArray) (p1 : Int) (b1 : Option Addr) (bn1 bc1 : Nat) (g1 : Option Addr) (gn1 gc1 : Nat) (bad0 gap0 bad1 gap1 : List Int) (h_bn0 : Hid (bn0 = bad0.length)) (h_gn0 : Hid (gn0 = gap0.length)) (h_bn1 : Hid (bn1 = bad1.length)) (h_gn1 : Hid (gn1 = gap1.length)) (l_bn0 : bn0 ≤ 1000000000) (l_gn0 : gn0 ≤ 1000000000) (l_bn1 : bn1 ≤ 1000000000) (l_gn1 : gn1 ≤ 1000000000) (w : World) (hR0 : IRow w b0 bad0 ∧ bn0 ≤ bc0 ∧ IRow w g0 gap0 ∧ gn0 ≤ gc0 ∧ IRow w b1 bad1 ∧ bn1 ≤ bc1 ∧ IRow w g1 gap1 ∧ gn1 ≤ gc1) (a : Nat) (c : UInt8) (P : Int) (E1 E2 E3 CB : ByteArray) (hw1 : Hid (IntKind.i64.wrap (p0 + (a : Int)) = P)) (hz1 : Hid ((a : Int) ≤ (x0.size : Int))) (hz2 : Hid (x0.size < 40000)) (hE1 : Hid (x0.extract 0 a = E1)) (hE2 : Hid (x0.extract a x0.size = E2)) (hCB : Hid ((⟨[c].toArray⟩ : ByteArray) = CB)) (hE3 : Hid (E1 ++ CB = E3)) (hXs1 : Hid (¬ 9223372036854775807 < E1.size + CB.size)) (hXs2 : Hid (¬ 9223372036854775807 < E3.size + E2.size))
    (LB LG : List Int) (hLB : Hid (Ln.mark (bad0.map (Ln.addB P)) P = LB)) (hLG : Hid (gap0.map (Ln.addG P) = LG)) (hub : Hid (Ln.Up bad0)) (hbb : Hid (∀ y ∈ bad0, 0 ≤ y ∧ y ≤ 10000000000)) (hgb : Hid (∀ y ∈ gap0, 0 ≤ y ∧ y ≤ 10000000000)) :
    Calls Try.prog 29 #[.agg #[.string x0, .int .i64 p0, .slice b0 bn0 bc0, .slice g0 gn0 gc0, .string x1, .int .i64 p1, .slice b1 bn1 bc1, .slice g1 gn1 gc1, .bool true], .int .i64 0, .int .i64 a, .int .u8 (c.toNat : Int)] w fun e w' => RPost (E3 ++ E2) (p0) (LB.length) (LG.length) (x1) (p1) (bn1) (gn1) (true) (LB) (LG) (bad1) (gap1) (.int .i64 0) w e w' := by
  have HWy : Hid (∀ W, Calls Try.prog 37 #[.int .i64 0] W fun e w' => e = .returned (.bool true) ∧ W = w') := fun W => (rway_any 0 W).mono fun e w' h => ⟨h.1, h.2.symm⟩
  obtain ⟨s_b0, q_b0, s_g0, q_g0, s_b1, q_b1, s_g1, q_g1⟩ := hR0
  have HO : Hid (∀ W, Below w.heap.size w W → Calls Try.prog 44 #[.agg #[.string x0, .int .i64 p0, .slice b0 bn0 bc0, .slice g0 gn0 gc0, .string x1, .int .i64 p1, .slice b1 bn1 bc1, .slice g1 gn1 gc1, .bool true]] W fun e w' => OwnPost x0 p0 bn0 gn0 x1 p1 bn1 gn1 true bad0 gap0 bad1 gap1 W e w') := fun W hW => rown_cells x0 p0 b0 bn0 bc0 g0 gn0 gc0 x1 p1 b1 bn1 bc1 g1 gn1 gc1 true bad0 gap0 bad1 gap1 W h_bn0 h_gn0 h_bn1 h_gn1 l_bn0 l_gn0 l_bn1 l_gn1 ⟨s_b0.below hW, q_b0, s_g0.below hW, q_g0, s_b1.below hW, q_b1, s_g1.below hW, q_g1⟩
  clear s_b0 q_b0 s_g0 q_g0 s_b1 q_b1 s_g1 q_g1
  have kB1 : Rg.Bk w.heap.size [.string x0, .int .i64 p0, .slice b0 bn0 bc0, .slice g0 gn0 gc0, .string x1, .int .i64 p1, .slice b1 bn1 bc1, .slice g1 gn1 gc1, .bool true] 30 ((w.alloc (.cells #[.string x0, .int .i64 p0, .slice b0 bn0 bc0, .slice g0 gn0 gc0, .string x1, .int .i64 p1, .slice b1 bn1 bc1, .slice g1 gn1 gc1, .bool true] 30)).alloc (.cells #[.string ⟨#[]⟩, .int .i64 0, .slice none 0 0, .slice none 0 0, .string ⟨#[]⟩, .int .i64 0, .slice none 0 0, .slice none 0 0, .bool false] 30)) := (Rg.Bk.new rfl).old _
  have kR1 : Rg.Bk (w.heap.size + 1) [.string ⟨#[]⟩, .int .i64 0, .slice none 0 0, .slice none 0 0, .string ⟨#[]⟩, .int .i64 0, .slice none 0 0, .slice none 0 0, .bool false] 30 ((w.alloc (.cells #[.string x0, .int .i64 p0, .slice b0 bn0 bc0, .slice g0 gn0 gc0, .string x1, .int .i64 p1, .slice b1 bn1 bc1, .slice g1 gn1 gc1, .bool true] 30)).alloc (.cells #[.string ⟨#[]⟩, .int .i64 0, .slice none 0 0, .slice none 0 0, .string ⟨#[]⟩, .int .i64 0, .slice none 0 0, .slice none 0 0, .bool false] 30)) := Rg.Bk.new (by simp)
  have hb1 := Rg.al2 w (.cells #[.string x0, .int .i64 p0, .slice b0 bn0 bc0, .slice g0 gn0 gc0, .string x1, .int .i64 p1, .slice b1 bn1 bc1, .slice g1 gn1 gc1, .bool true] 30) (.cells #[.string ⟨#[]⟩, .int .i64 0, .slice none 0 0, .slice none 0 0, .string ⟨#[]⟩, .int .i64 0, .slice none 0 0, .slice none 0 0, .bool false] 30)
  go_enter Try.func29, Try.ntmps29
  go_upto_region 1 with fail
  generalize World.alloc _ _ = w1 at *
  obtain ⟨B, hB⟩ : ∃ B, B = w.heap.size := ⟨_, rfl⟩
  obtain ⟨R, hR⟩ : ∃ R, R = w.heap.size + 1 := ⟨_, rfl⟩
  rw [← hR] at kR1 ⊢
  rw [← hB] at kB1 ⊢
  have hBR : B ≠ R := by omega
  have hBw : w.heap.size ≤ B := by omega
  have hRw : w.heap.size ≤ R := by omega
  clear hB hR
  have z0 : w1.cell? ⟨B, 0, none⟩ = some (.string x0) := kB1.cell 0
  have z1 : w1.cell? ⟨B, 1, none⟩ = some (.int .i64 p0) := kB1.cell 1
  have z2 : w1.cell? ⟨B, 2, none⟩ = some (.slice b0 bn0 bc0) := kB1.cell 2
  have z3 : w1.cell? ⟨B, 3, none⟩ = some (.slice g0 gn0 gc0) := kB1.cell 3
  have z4 : w1.cell? ⟨B, 4, none⟩ = some (.string x1) := kB1.cell 4
  have z5 : w1.cell? ⟨B, 5, none⟩ = some (.int .i64 p1) := kB1.cell 5
  have z6 : w1.cell? ⟨B, 6, none⟩ = some (.slice b1 bn1 bc1) := kB1.cell 6
  have z7 : w1.cell? ⟨B, 7, none⟩ = some (.slice g1 gn1 gc1) := kB1.cell 7
  have z8 : w1.cell? ⟨B, 8, none⟩ = some (.bool true) := kB1.cell 8
  replace kB1 := Rg.hid kB1
  replace kR1 := Rg.hid kR1
  replace hb1 := Rg.hid hb1
  go_upto_region 2 with (go_at_call 44; refine (HO.out _ hb1.out).mono ?_; rintro e w2 ⟨b0', bc0', g0', gc0', b1', bc1', g1', gc1', rfl, ⟨r_b0, q_b0, r_g0, q_g0, r_b1, q_b1, r_g1, q_g1⟩, b2⟩; have kB2 := kB1.out.below b2 kB1.out.lt; have y0 := kB2.cell 0; have y1 := kB2.cell 1; have y2 := kB2.cell 2; have y3 := kB2.cell 3; have y4 := kB2.cell 4; have y5 := kB2.cell 5; have y6 := kB2.cell 6; have y7 := kB2.cell 7; have y8 := kB2.cell 8; simp only [List.getElem?_cons_zero, List.getElem?_cons_succ] at y0 y1 y2 y3 y4 y5 y6 y7 y8; have yf := kB2.thaw)
  obtain ⟨kB3, oB⟩ := ret9 kB2 rfl (.string x0) (.int .i64 p0) (.slice b0' bn0 bc0') (.slice g0' gn0 gc0') (.string x1) (.int .i64 p1) (.slice b1' bn1 bc1') (.slice g1' gn1 gc1') (.bool true)
  replace r_b0 := Rg.hid (r_b0.only kB2 line_int oB)
  replace r_g0 := Rg.hid (r_g0.only kB2 line_int oB)
  replace r_b1 := Rg.hid (r_b1.only kB2 line_int oB)
  replace r_g1 := Rg.hid (r_g1.only kB2 line_int oB)
  have kR3 := (kR1.out.below b2 kR1.out.lt).same (oB.block _ (Ne.symm hBR))
  have hb3 := Rg.hid ((Rg.chain hb1.out b2).trans (oB.bel hBw))
  clear kB1 kR1 hb1 kB2 oB b2 yf y0 y1 y2 y3 y4 y5 y6 y7 y8 z0 z1 z2 z3 z4 z5 z6 z7 z8 HO
  generalize World.setCell _ _ _ = w3 at *
  have d0 : decide ((a : Int) < 0) = false := by simp only [decide_eq_false_iff_not]; omega
  have d1 : decide ((x0.size : Int) < (a : Int)) = false := by simp only [decide_eq_false_iff_not]; have := hz1.out; omega
  have d2 : decide ((40000 : Int) ≤ (x0.size : Int)) = false := by simp only [decide_eq_false_iff_not]; have := hz2.out; omega
  have d1n : decide (x0.size < a) = false := by simp only [decide_eq_false_iff_not]; have := hz1.out; omega
  have d2n : decide (40000 ≤ x0.size) = false := by simp only [decide_eq_false_iff_not]; have := hz2.out; omega
  have u8 : w3.cell? ⟨B, 8, none⟩ = some (.bool true) := kB3.cell 8
  have u0 : w3.cell? ⟨B, 0, none⟩ = some (.string x0) := kB3.cell 0
  have u1 : w3.cell? ⟨B, 1, none⟩ = some (.int .i64 p0) := kB3.cell 1
  have u2 : w3.cell? ⟨B, 2, none⟩ = some (.slice b0' bn0 bc0') := kB3.cell 2
  have u3 : w3.cell? ⟨B, 3, none⟩ = some (.slice g0' gn0 gc0') := kB3.cell 3
  have hBl := kB3.lt
  have kD5 : Rg.Bk w3.heap.size [.string x0, .int .i64 p0, .slice b0' bn0 bc0', .slice g0' gn0 gc0'] 27 (w3.alloc (.cells #[.string x0, .int .i64 p0, .slice b0' bn0 bc0', .slice g0' gn0 gc0'] 27)) := Rg.Bk.new rfl
  have kB5 := Rg.hid (kB3.old (.cells #[.string x0, .int .i64 p0, .slice b0' bn0 bc0', .slice g0' gn0 gc0'] 27))
  have kR5 := Rg.hid (kR3.old (.cells #[.string x0, .int .i64 p0, .slice b0' bn0 bc0', .slice g0' gn0 gc0'] 27))
  have hb5 := Rg.hid (Rg.chain hb3.out (Rg.al1 w3 (.cells #[.string x0, .int .i64 p0, .slice b0' bn0 bc0', .slice g0' gn0 gc0'] 27)))
  replace r_b0 := Rg.hid (r_b0.out.below (Rg.al1 w3 (.cells #[.string x0, .int .i64 p0, .slice b0' bn0 bc0', .slice g0' gn0 gc0'] 27)))
  replace r_g0 := Rg.hid (r_g0.out.below (Rg.al1 w3 (.cells #[.string x0, .int .i64 p0, .slice b0' bn0 bc0', .slice g0' gn0 gc0'] 27)))
  replace r_b1 := Rg.hid (r_b1.out.below (Rg.al1 w3 (.cells #[.string x0, .int .i64 p0, .slice b0' bn0 bc0', .slice g0' gn0 gc0'] 27)))
  replace r_g1 := Rg.hid (r_g1.out.below (Rg.al1 w3 (.cells #[.string x0, .int .i64 p0, .slice b0' bn0 bc0', .slice g0' gn0 gc0'] 27)))
  have hDB : w3.heap.size ≠ B := by omega
  have hDR : w3.heap.size ≠ R := by have := kR3.lt; omega
  have hDw : w.heap.size ≤ w3.heap.size := hb3.out.size
  clear kB3 kR3 hb3
  go_upto_region 6 with (go_at_call 37; refine (HWy.out _).mono ?_; rintro e w9 ⟨rfl, rfl⟩)
  go_upto_region 7 with fail
  clear u0 u1 u2 u3 u8 hBl HWy d0 d1 d2 d1n d2n
  generalize World.alloc _ _ = w5 at *
  generalize w3.heap.size = D at *
  have t1 : w5.cell? ⟨D, 1, none⟩ = some (.int .i64 p0) := kD5.cell 1
  have hw1' := hw1.out
  clear hw1
  go_upto_region 8 with fail
  clear t1 hw1'
  have t0 : w5.cell? ⟨D, 0, none⟩ = some (.string x0) := kD5.cell 0
  have tf := kD5.thaw
  have hDl := kD5.lt
  have hDn : ¬ D = w5.heap.size := by omega
  have hDn' : ¬ w5.heap.size = D := by omega
  have hz0 : (0 : Int) ≤ (a : Int) := by omega
  have hz1' : (a : Int) ≤ (x0.size : Int) := hz1.out
  have hcv : (convert 67 9 (.slice (some ⟨w5.heap.size, 0, none⟩) 1 1)).run Try.prog (w5.alloc (.cells #[.int .u8 (c.toNat : Int)] 5)).drew = .ok (.string CB) (w5.alloc (.cells #[.int .u8 (c.toNat : Int)] 5)).drew := by
    have hat : Rg.At (w5.alloc (.cells #[.int .u8 (c.toNat : Int)] 5)).drew w5.heap.size 0 (byteE.flat [c]) := fun t u ht => by
      rw [byte_flat] at ht
      have kk : Rg.Bk w5.heap.size [.int .u8 (c.toNat : Int)] 5 (w5.alloc (.cells #[.int .u8 (c.toNat : Int)] 5)).drew := Rg.Bk.new rfl
      rw [Nat.zero_add, kk.cell]; exact ht
    have := conv_bytes (cap := 1) hat
    rw [← hCB.out]; exact this
  have hE1' := hE1.out
  have hE2' := hE2.out
  have hE3' := hE3.out
  have hXs1' := hXs1.out
  have hXs2' := hXs2.out
  clear hz1 hz2 hE1 hE2 hE3 hXs1 hXs2 hCB
  have oD6 := Rg.Only.setCell w5 D 0 (.string (E3 ++ E2))
  have kD6 : Rg.Bk D [.string (E3 ++ E2), .int .i64 p0, .slice b0' bn0 bc0', .slice g0' gn0 gc0'] 27 ((w5.setCell ⟨D, 0, none⟩ (.string (E3 ++ E2))).alloc (.cells #[.int .u8 (c.toNat : Int)] 5)).drew := (kD5.set 0 (.string (E3 ++ E2))).old (.cells #[.int .u8 (c.toNat : Int)] 5)
  have kB6 : Hid (Rg.Bk B [.string x0, .int .i64 p0, .slice b0' bn0 bc0', .slice g0' gn0 gc0', .string x1, .int .i64 p1, .slice b1' bn1 bc1', .slice g1' gn1 gc1', .bool true] 30 ((w5.setCell ⟨D, 0, none⟩ (.string (E3 ++ E2))).alloc (.cells #[.int .u8 (c.toNat : Int)] 5)).drew) := (kB5.out.same (oD6.block B (Ne.symm hDB))).old (.cells #[.int .u8 (c.toNat : Int)] 5)
  have kR6 : Hid (Rg.Bk R [.string ⟨#[]⟩, .int .i64 0, .slice none 0 0, .slice none 0 0, .string ⟨#[]⟩, .int .i64 0, .slice none 0 0, .slice none 0 0, .bool false] 30 ((w5.setCell ⟨D, 0, none⟩ (.string (E3 ++ E2))).alloc (.cells #[.int .u8 (c.toNat : Int)] 5)).drew) := (kR5.out.same (oD6.block R (Ne.symm hDR))).old (.cells #[.int .u8 (c.toNat : Int)] 5)
  have hb6 : Hid (Below w.heap.size w ((w5.setCell ⟨D, 0, none⟩ (.string (E3 ++ E2))).alloc (.cells #[.int .u8 (c.toNat : Int)] 5)).drew) := (Rg.chain (hb5.out.trans (oD6.bel hDw)) (Rg.al1 _ (.cells #[.int .u8 (c.toNat : Int)] 5))).drew
  replace r_b0 : Hid (IRow ((w5.setCell ⟨D, 0, none⟩ (.string (E3 ++ E2))).alloc (.cells #[.int .u8 (c.toNat : Int)] 5)).drew b0' bad0) := ((r_b0.out.only kD5 way_int oD6).below (Rg.al1 _ (.cells #[.int .u8 (c.toNat : Int)] 5))).drew
  replace r_g0 : Hid (IRow ((w5.setCell ⟨D, 0, none⟩ (.string (E3 ++ E2))).alloc (.cells #[.int .u8 (c.toNat : Int)] 5)).drew g0' gap0) := ((r_g0.out.only kD5 way_int oD6).below (Rg.al1 _ (.cells #[.int .u8 (c.toNat : Int)] 5))).drew
  replace r_b1 : Hid (IRow ((w5.setCell ⟨D, 0, none⟩ (.string (E3 ++ E2))).alloc (.cells #[.int .u8 (c.toNat : Int)] 5)).drew b1' bad1) := ((r_b1.out.only kD5 way_int oD6).below (Rg.al1 _ (.cells #[.int .u8 (c.toNat : Int)] 5))).drew
  replace r_g1 : Hid (IRow ((w5.setCell ⟨D, 0, none⟩ (.string (E3 ++ E2))).alloc (.cells #[.int .u8 (c.toNat : Int)] 5)).drew g1' gap1) := ((r_g1.out.only kD5 way_int oD6).below (Rg.al1 _ (.cells #[.int .u8 (c.toNat : Int)] 5))).drew
  replace kD6 := Rg.hid kD6
  clear kD5 oD6 kB5 kR5 hb5
  go_region
  clear hcv
  generalize World.drew (World.alloc _ _) = w7 at *
  clear t0 tf hz0 hz1' hE1' hE2' hE3' hXs1' hXs2' hDl hDn hDn'
  have t2 : w7.cell? ⟨D, 2, none⟩ = some (.slice b0' bn0 bc0') := kD6.out.cell 2
  go_wp2
  clear t2
  go_loopw [12, 78] (fun va vi wr => ∃ (i M : Nat) (ya : Option Addr) (yc : Nat), i ≤ bn0 ∧ vi = .int .i64 i ∧ va = .slice ya M yc ∧ Hid (M = ((bad0.take i).map (Ln.addB P)).length) ∧ Hid (SI w7.heap.size wr ya yc ((bad0.take i).map (Ln.addB P))) ∧ Below w7.heap.size w7 wr) (fun _ vi _ => bn0 - (intOf vi).toNat)
  case atStart => exact ⟨0, 0, none, 0, Nat.zero_le _, rfl, rfl, rfl, .inl ⟨rfl, rfl, rfl⟩, Below.refl _ _⟩
  case round =>
    obtain ⟨i, M, ya, yc, hin, rfl, rfl, hM, hS, hbw⟩ := hrel
    by_cases hlt0 : i < bn0
    · have hlt : i < bad0.length := by rw [← h_bn0.out]; exact hlt0
      obtain ⟨ba, bo, hbe, -, -⟩ : ∃ b o, b0' = some ⟨b, o, none⟩ ∧ b < w7.heap.size ∧ Rg.At w7 b o (intE.flat bad0) := by
        rcases r_b0.out.1 with ⟨h, h'⟩ | h
        · rw [h'] at hlt; simp at hlt
        · exact h
      subst hbe
      have c1 : wr.cell? ⟨ba, bo + i, none⟩ = some (.int .i64 bad0[i]) := (r_b0.out.below hbw).cell hlt
      have hx := hbb.out bad0[i] (List.getElem_mem hlt)
      have hst : Hid (((bad0.take (i + 1)).map (Ln.addB P)) = ((bad0.take i).map (Ln.addB P)) ++ [Ln.addB P bad0[i]]) := by show _ = _; rw [List.take_succ_eq_append_getElem hlt, List.map_append]; rfl
      have hMl : M ≤ 1000000000 := by have := hM.out; rw [List.length_map, List.length_take] at this; omega
      have hz0 : (0 : Int) ≤ (i : Int) := by omega
      have hz1 : (i : Int) < (bn0 : Int) := by omega
      generalize bad0[i] = x at *
      clear hlt
      obtain ⟨X1, hX1⟩ : ∃ X1 : Int, X1 = Ln.addB P x := ⟨_, rfl⟩
      obtain ⟨a', c', W', hap, hS', hb'⟩ := app_si (hS.out.below (Rg.al1 wr (.cells #[.int .i64 X1] 3))) (Nat.le_trans hbw.size (Rg.al1 _ _).size) X1 wr.heap.size (Rg.Bk.new rfl) (by rw [← hM.out]; exact hMl)
      by_cases ha : P ≤ x
      · have d1 : decide (P ≤ x) = true := by simp only [decide_eq_true_eq]; exact ha
        have hwx : IntKind.i64.wrap (x + 1) = X1 := by rw [IntKind.wrap_i64, hX1, Ln.addB, if_pos ha]; omega
        have hwx' : wrap64 (x + 1) = X1 := by rw [hX1, Ln.addB, if_pos ha]; unfold wrap64; omega
        have hM' : Hid (M + 1 = ((bad0.take (i + 1)).map (Ln.addB P)).length) := by show _ = _; rw [hst.out, List.length_append, ← hM.out]; rfl
        have hS2 : Hid (SI w7.heap.size W' a' c' ((bad0.take (i + 1)).map (Ln.addB P))) := by show SI _ _ _ _ _; rw [hst.out, ← hX1]; exact hS'
        rw [← hM.out] at hap
        replace hap := Rg.hid hap
        have hbw' := Rg.hid ((hbw.trans ((Rg.al1 _ _).mono hbw.size)).trans hb')
        clear hS' hb' hS hM hst hx hbw hX1 ha

        go_wp2_with (at_builtin; refine Rg.wpList_append_run rfl (.tmp 87) (.tmp 89) 25 rfl _ _ rfl rfl _ _ hap.out ?_)
        go_roundw
        case rel => exact ⟨i + 1, M + 1, a', c', by omega, by go_num, rfl, hM', hS2, hbw'.out⟩
        case measure => simp [intOf]; omega
      · have d1 : decide (P ≤ x) = false := by simp only [decide_eq_false_iff_not]; exact ha
        have hxe : X1 = x := by rw [hX1, Ln.addB, if_neg ha]
        have hM' : Hid (M + 1 = ((bad0.take (i + 1)).map (Ln.addB P)).length) := by show _ = _; rw [hst.out, List.length_append, ← hM.out]; rfl
        have hS2 : Hid (SI w7.heap.size W' a' c' ((bad0.take (i + 1)).map (Ln.addB P))) := by show SI _ _ _ _ _; rw [hst.out, ← hX1]; exact hS'
        rw [← hM.out] at hap
        replace hap := Rg.hid hap
        have hbw' := Rg.hid ((hbw.trans ((Rg.al1 _ _).mono hbw.size)).trans hb')
        clear hS' hb' hS hM hst hx hbw hX1 ha
        subst hxe
        go_wp2_with (at_builtin; refine Rg.wpList_append_run rfl (.tmp 87) (.tmp 89) 25 rfl _ _ rfl rfl _ _ hap.out ?_)
        go_roundw
        case rel => exact ⟨i + 1, M + 1, a', c', by omega, by go_num, rfl, hM', hS2, hbw'.out⟩
        case measure => simp [intOf]; omega
    · have hie : i = bn0 := by omega
      subst i
      have hfull : bad0.take bn0 = bad0 := List.take_of_length_le (by rw [← h_bn0.out]; exact Nat.le_refl _)
      rw [hfull] at hM hS
      have hYc := hS.out.le
      rw [← hM.out] at hYc
      replace hS := Rg.hid hS.out.irow
      obtain ⟨w8, hw8⟩ : ∃ w8, w8 = wr := ⟨_, rfl⟩
      subst hw8
      have kD8 := Rg.hid (kD6.out.below hbw kD6.out.lt)
      have kB8 := Rg.hid (kB6.out.below hbw kB6.out.lt)
      have kR8 := Rg.hid (kR6.out.below hbw kR6.out.lt)
      have hb8 := Rg.hid (hb6.out.trans (hbw.mono hb6.out.size))
      replace r_b0 := Rg.hid (r_b0.out.below hbw)
      replace r_g0 := Rg.hid (r_g0.out.below hbw)
      replace r_b1 := Rg.hid (r_b1.out.below hbw)
      replace r_g1 := Rg.hid (r_g1.out.below hbw)
      obtain ⟨ma, hma⟩ : ∃ ma, ma = ya := ⟨_, rfl⟩
      obtain ⟨mc, hmc⟩ : ∃ mc, mc = yc := ⟨_, rfl⟩
      obtain ⟨mn, hmn⟩ : ∃ mn, mn = M := ⟨_, rfl⟩
      subst hma hmc hmn
      have hMb := hM
      have hSb := hS
      clear hbw hin hlt0 hfull kD6 kB6 kR6 hb6 hM hS
      have t3 : w8.cell? ⟨D, 3, none⟩ = some (.slice g0' gn0 gc0') := kD8.out.cell 3
      go_wp2
      clear t3
      go_loopw [13, 95] (fun va vi wr => ∃ (i M : Nat) (ya : Option Addr) (yc : Nat), i ≤ gn0 ∧ vi = .int .i64 i ∧ va = .slice ya M yc ∧ Hid (M = ((gap0.take i).map (Ln.addG P)).length) ∧ Hid (SI w8.heap.size wr ya yc ((gap0.take i).map (Ln.addG P))) ∧ Below w8.heap.size w8 wr) (fun _ vi _ => gn0 - (intOf vi).toNat)
      case atStart => exact ⟨0, 0, none, 0, Nat.zero_le _, rfl, rfl, rfl, .inl ⟨rfl, rfl, rfl⟩, Below.refl _ _⟩
      case round =>
        obtain ⟨i, M, ya, yc, hin, rfl, rfl, hM, hS, hbw⟩ := hrel
        by_cases hlt0 : i < gn0
        · have hlt : i < gap0.length := by rw [← h_gn0.out]; exact hlt0
          obtain ⟨ba, bo, hbe, -, -⟩ : ∃ b o, g0' = some ⟨b, o, none⟩ ∧ b < w8.heap.size ∧ Rg.At w8 b o (intE.flat gap0) := by
            rcases r_g0.out.1 with ⟨h, h'⟩ | h
            · rw [h'] at hlt; simp at hlt
            · exact h
          subst hbe
          have c1 : wr.cell? ⟨ba, bo + i, none⟩ = some (.int .i64 gap0[i]) := (r_g0.out.below hbw).cell hlt
          have hx := hgb.out gap0[i] (List.getElem_mem hlt)
          have hst : Hid (((gap0.take (i + 1)).map (Ln.addG P)) = ((gap0.take i).map (Ln.addG P)) ++ [Ln.addG P gap0[i]]) := by show _ = _; rw [List.take_succ_eq_append_getElem hlt, List.map_append]; rfl
          have hMl : M ≤ 1000000000 := by have := hM.out; rw [List.length_map, List.length_take] at this; omega
          have hz0 : (0 : Int) ≤ (i : Int) := by omega
          have hz1 : (i : Int) < (gn0 : Int) := by omega
          generalize gap0[i] = x at *
          clear hlt
          obtain ⟨X1, hX1⟩ : ∃ X1 : Int, X1 = Ln.addG P x := ⟨_, rfl⟩
          obtain ⟨a', c', W', hap, hS', hb'⟩ := app_si (hS.out.below (Rg.al1 wr (.cells #[.int .i64 X1] 3))) (Nat.le_trans hbw.size (Rg.al1 _ _).size) X1 wr.heap.size (Rg.Bk.new rfl) (by rw [← hM.out]; exact hMl)
          by_cases ha : P < x
          · have d1 : decide (P < x) = true := by simp only [decide_eq_true_eq]; exact ha
            have hwx : IntKind.i64.wrap (x + 1) = X1 := by rw [IntKind.wrap_i64, hX1, Ln.addG, if_pos ha]; omega
            have hwx' : wrap64 (x + 1) = X1 := by rw [hX1, Ln.addG, if_pos ha]; unfold wrap64; omega
            have hM' : Hid (M + 1 = ((gap0.take (i + 1)).map (Ln.addG P)).length) := by show _ = _; rw [hst.out, List.length_append, ← hM.out]; rfl
            have hS2 : Hid (SI w8.heap.size W' a' c' ((gap0.take (i + 1)).map (Ln.addG P))) := by show SI _ _ _ _ _; rw [hst.out, ← hX1]; exact hS'
            rw [← hM.out] at hap
            replace hap := Rg.hid hap
            have hbw' := Rg.hid ((hbw.trans ((Rg.al1 _ _).mono hbw.size)).trans hb')
            clear hS' hb' hS hM hst hx hbw hX1 ha

            go_wp2_with (at_builtin; refine Rg.wpList_append_run rfl (.tmp 104) (.tmp 106) 25 rfl _ _ rfl rfl _ _ hap.out ?_)
            go_roundw
            case rel => exact ⟨i + 1, M + 1, a', c', by omega, by go_num, rfl, hM', hS2, hbw'.out⟩
            case measure => simp [intOf]; omega
          · have d1 : decide (P < x) = false := by simp only [decide_eq_false_iff_not]; exact ha
            have hxe : X1 = x := by rw [hX1, Ln.addG, if_neg ha]
            have hM' : Hid (M + 1 = ((gap0.take (i + 1)).map (Ln.addG P)).length) := by show _ = _; rw [hst.out, List.length_append, ← hM.out]; rfl
            have hS2 : Hid (SI w8.heap.size W' a' c' ((gap0.take (i + 1)).map (Ln.addG P))) := by show SI _ _ _ _ _; rw [hst.out, ← hX1]; exact hS'
            rw [← hM.out] at hap
            replace hap := Rg.hid hap
            have hbw' := Rg.hid ((hbw.trans ((Rg.al1 _ _).mono hbw.size)).trans hb')
            clear hS' hb' hS hM hst hx hbw hX1 ha
            subst hxe
            go_wp2_with (at_builtin; refine Rg.wpList_append_run rfl (.tmp 104) (.tmp 106) 25 rfl _ _ rfl rfl _ _ hap.out ?_)
            go_roundw
            case rel => exact ⟨i + 1, M + 1, a', c', by omega, by go_num, rfl, hM', hS2, hbw'.out⟩
            case measure => simp [intOf]; omega
        · have hie : i = gn0 := by omega
          subst i
          have hfull : gap0.take gn0 = gap0 := List.take_of_length_le (by rw [← h_gn0.out]; exact Nat.le_refl _)
          rw [hfull] at hM hS
          rw [hLG.out] at hM hS
          have hLGc := hS.out.le
          replace hS := Rg.hid hS.out.irow
          have hMe := hM.out
          subst hMe
          have hFl : (bad0.map (Ln.addB P)).length ≤ 1000000000 := by rw [List.length_map, ← h_bn0.out]; exact l_bn0
          have HMk : Hid (∀ W, IRow W ma (bad0.map (Ln.addB P)) → Calls Try.prog 46 #[.slice ma mn mc, .int .i64 P] W fun e w' => ∃ a9 c9, e = .returned (.slice a9 LB.length c9) ∧ Hid (IRow w' a9 LB) ∧ LB.length ≤ c9 ∧ Below W.heap.size W w') := fun W hW => by
            have := rmark_any ma mc (bad0.map (Ln.addB P)) P W hFl (Ln.up_addB hub.out P) (by rw [← hMb.out]; exact hYc) hW
            rw [← hMb.out, hLB.out] at this
            exact this.mono fun e w' ⟨a9, c9, h1, h2, h3, h4⟩ => ⟨a9, c9, h1, h2, h3, h4⟩
          obtain ⟨za, hza⟩ : ∃ za, za = ya := ⟨_, rfl⟩
          obtain ⟨zc, hzc⟩ : ∃ zc, zc = yc := ⟨_, rfl⟩
          subst hza hzc
          obtain ⟨w10, hw10⟩ : ∃ w10, w10 = wr := ⟨_, rfl⟩
          subst hw10
          have kD10 := Rg.hid (kD8.out.below hbw kD8.out.lt)
          have kB10 := Rg.hid (kB8.out.below hbw kB8.out.lt)
          have kR10 := Rg.hid (kR8.out.below hbw kR8.out.lt)
          have hb10 := Rg.hid (hb8.out.trans (hbw.mono hb8.out.size))
          replace r_b1 := Rg.hid (r_b1.out.below hbw)
          replace r_g1 := Rg.hid (r_g1.out.below hbw)
          replace hSb := Rg.hid (hSb.out.below hbw)
          clear r_b0 r_g0 kD8 kB8 kR8 hb8 hbw hfull hFl hMb hYc hLB hLG hin hlt0 hub hM hbb hgb
          go_upto_region 25 with (go_at_call 46; refine (HMk.out _ hSb.out).mono ?_; rintro e w12 ⟨a9, c9, rfl, hI9, hc9, b9⟩; have kD12 := kD10.out.below b9 kD10.out.lt; have tf := kD12.thaw; have t2 := kD12.cell 2; simp only [List.getElem?_cons_zero, List.getElem?_cons_succ] at t2)
          have oD13 := Rg.Only.setCell w12 D 2 (.slice a9 LB.length c9)
          have kD13 : Rg.Bk D [.string (E3 ++ E2), .int .i64 p0, .slice a9 LB.length c9, .slice g0' gn0 gc0'] 27 (w12.setCell ⟨D, 2, none⟩ (.slice a9 LB.length c9)) := kD12.set 2 _
          have kB13 := Rg.hid ((kB10.out.below b9 kB10.out.lt).same (oD13.block B (Ne.symm hDB)))
          have kR13 := Rg.hid ((kR10.out.below b9 kR10.out.lt).same (oD13.block R (Ne.symm hDR)))
          have hb13 := Rg.hid ((Rg.chain hb10.out b9).trans (oD13.bel hDw))
          replace r_b1 := Rg.hid ((r_b1.out.below b9).only kD12 way_int oD13)
          replace r_g1 := Rg.hid ((r_g1.out.below b9).only kD12 way_int oD13)
          have r_b0 := Rg.hid (hI9.out.only kD12 way_int oD13)
          have r_g0 := Rg.hid ((hS.out.below b9).only kD12 way_int oD13)
          clear kD12 tf t2 oD13 kB10 kR10 hb10 hI9 hS hSb b9 HMk kD10
          generalize World.setCell _ _ _ = w13 at *
          have t3 : w13.cell? ⟨D, 3, none⟩ = some (.slice g0' gn0 gc0') := kD13.cell 3
          have tf := kD13.thaw
          have oD14 := Rg.Only.setCell w13 D 3 (.slice za LG.length zc)
          have kD14 : Rg.Bk D [.string (E3 ++ E2), .int .i64 p0, .slice a9 LB.length c9, .slice za LG.length zc] 27 (w13.setCell ⟨D, 3, none⟩ (.slice za LG.length zc)) := kD13.set 3 _
          have kB14 := kB13.out.same (oD14.block B (Ne.symm hDB))
          have kR14 := Rg.hid (kR13.out.same (oD14.block R (Ne.symm hDR)))
          have hb14 := Rg.hid (hb13.out.trans (oD14.bel hDw))
          replace r_b0 := Rg.hid (r_b0.out.only kD13 way_int oD14)
          replace r_g0 := Rg.hid (r_g0.out.only kD13 way_int oD14)
          replace r_b1 := Rg.hid (r_b1.out.only kD13 way_int oD14)
          replace r_g1 := Rg.hid (r_g1.out.only kD13 way_int oD14)
          replace kD14 := Rg.hid kD14
          replace kB14 := Rg.hid kB14
          clear oD14 kB13 kR13 hb13 kD13
          go_upto_region 26 with fail
          clear t3 tf
          generalize World.setCell _ _ _ = w14 at *
          have kDx := kD14.out
          have kBx := kB14.out
          clear kD14 kB14
          have t0 : w14.cell? ⟨D, 0, none⟩ = some (.string (E3 ++ E2)) := kDx.cell 0
          have t1 : w14.cell? ⟨D, 1, none⟩ = some (.int .i64 p0) := kDx.cell 1
          have t2 : w14.cell? ⟨D, 2, none⟩ = some (.slice a9 LB.length c9) := kDx.cell 2
          have t3 : w14.cell? ⟨D, 3, none⟩ = some (.slice za LG.length zc) := kDx.cell 3
          have u0 : w14.cell? ⟨B, 0, none⟩ = some (.string x0) := kBx.cell 0
          have u1 : w14.cell? ⟨B, 1, none⟩ = some (.int .i64 p0) := kBx.cell 1
          have u2 : w14.cell? ⟨B, 2, none⟩ = some (.slice b0' bn0 bc0') := kBx.cell 2
          have u3 : w14.cell? ⟨B, 3, none⟩ = some (.slice g0' gn0 gc0') := kBx.cell 3
          have uf := kBx.thaw
          have oB15 := (((Rg.Only.setCell w14 B 0 (.string (E3 ++ E2))).trans (Rg.Only.setCell _ B 1 (.int .i64 p0))).trans (Rg.Only.setCell _ B 2 (.slice a9 LB.length c9))).trans (Rg.Only.setCell _ B 3 (.slice za LG.length zc))
          have kB15 : Rg.Bk B [.string (E3 ++ E2), .int .i64 p0, .slice a9 LB.length c9, .slice za LG.length zc, .string x1, .int .i64 p1, .slice b1' bn1 bc1', .slice g1' gn1 gc1', .bool true] 30 ((((w14.setCell ⟨B, 0, none⟩ (.string (E3 ++ E2))).setCell ⟨B, 1, none⟩ (.int .i64 p0)).setCell ⟨B, 2, none⟩ (.slice a9 LB.length c9)).setCell ⟨B, 3, none⟩ (.slice za LG.length zc)) := (((kBx.set 0 (.string (E3 ++ E2))).set 1 (.int .i64 p0)).set 2 (.slice a9 LB.length c9)).set 3 (.slice za LG.length zc)
          have kR15 := kR14.out.same (oB15.block R (Ne.symm hBR))
          have hb15 := Rg.hid (hb14.out.trans (oB15.bel hBw))
          replace r_b0 := Rg.hid (r_b0.out.only kBx line_int oB15)
          replace r_g0 := Rg.hid (r_g0.out.only kBx line_int oB15)
          replace r_b1 := Rg.hid (r_b1.out.only kBx line_int oB15)
          replace r_g1 := Rg.hid (r_g1.out.only kBx line_int oB15)
          replace kB15 := Rg.hid kB15
          replace kR15 := Rg.hid kR15
          clear oB15 kR14 hb14 kBx kDx
          go_upto_region 27 with fail
          clear t0 t1 t2 t3 u0 u1 u2 u3 uf
          generalize World.setCell _ _ _ = w15 at *
          replace kB15 := kB15.out
          replace kR15 := kR15.out
          obtain ⟨kE, oE⟩ := ret9 kR15 rfl (.string (E3 ++ E2)) (.int .i64 p0) (.slice a9 LB.length c9) (.slice za LG.length zc) (.string x1) (.int .i64 p1) (.slice b1' bn1 bc1') (.slice g1' gn1 gc1') (.bool true)
          have post := Rg.hid ((⟨_, _, _, _, _, _, _, _, rfl, ⟨r_b0.out.only kR15 line_int oE, hc9, r_g0.out.only kR15 line_int oE, hLGc, r_b1.out.only kR15 line_int oE, q_b1, r_g1.out.only kR15 line_int oE, q_g1⟩, hb15.out.trans (oE.bel hRw)⟩ : RPost (E3 ++ E2) (p0) (LB.length) (LG.length) (x1) (p1) (bn1) (gn1) (true) (LB) (LG) (bad1) (gap1) (.int .i64 0) w (.returned (.tuple #[.agg #[.string (E3 ++ E2), .int .i64 p0, .slice a9 LB.length c9, .slice za LG.length zc, .string x1, .int .i64 p1, .slice b1' bn1 bc1', .slice g1' gn1 gc1', .bool true], .int .i64 0])) _))
          replace kE := Rg.hid kE
          have d0' : w15.cell? ⟨B, 0, none⟩ = some (.string (E3 ++ E2)) := kB15.cell 0
          have d1' : w15.cell? ⟨B, 1, none⟩ = some (.int .i64 p0) := kB15.cell 1
          have d2' : w15.cell? ⟨B, 2, none⟩ = some (.slice a9 LB.length c9) := kB15.cell 2
          have d3' : w15.cell? ⟨B, 3, none⟩ = some (.slice za LG.length zc) := kB15.cell 3
          have d4' : w15.cell? ⟨B, 4, none⟩ = some (.string x1) := kB15.cell 4
          have d5' : w15.cell? ⟨B, 5, none⟩ = some (.int .i64 p1) := kB15.cell 5
          have d6' : w15.cell? ⟨B, 6, none⟩ = some (.slice b1' bn1 bc1') := kB15.cell 6
          have d7' : w15.cell? ⟨B, 7, none⟩ = some (.slice g1' gn1 gc1') := kB15.cell 7
          have d8' : w15.cell? ⟨B, 8, none⟩ = some (.bool true) := kB15.cell 8
          have r0 : w15.cell? ⟨R, 0, none⟩ = some (.string ⟨#[]⟩) := kR15.cell 0
          have r1 : w15.cell? ⟨R, 1, none⟩ = some (.int .i64 0) := kR15.cell 1
          have r2 : w15.cell? ⟨R, 2, none⟩ = some (.slice none 0 0) := kR15.cell 2
          have r3 : w15.cell? ⟨R, 3, none⟩ = some (.slice none 0 0) := kR15.cell 3
          have r4 : w15.cell? ⟨R, 4, none⟩ = some (.string ⟨#[]⟩) := kR15.cell 4
          have r5 : w15.cell? ⟨R, 5, none⟩ = some (.int .i64 0) := kR15.cell 5
          have r6 : w15.cell? ⟨R, 6, none⟩ = some (.slice none 0 0) := kR15.cell 6
          have r7 : w15.cell? ⟨R, 7, none⟩ = some (.slice none 0 0) := kR15.cell 7
          have r8 : w15.cell? ⟨R, 8, none⟩ = some (.bool false) := kR15.cell 8
          have rf := kR15.thaw
          clear oE kR15 kB15 hb15
          go_wp2
          replace kE := kE.out
          replace post := post.out
          generalize World.setCell _ _ _ = WE at *
          exact bodyPost_ret (v := .tuple #[.agg #[.string (E3 ++ E2), .int .i64 p0, .slice a9 LB.length c9, .slice za LG.length zc, .string x1, .int .i64 p1, .slice b1' bn1 bc1', .slice g1' gn1 gc1', .bool true], .int .i64 0]) (by simp [results, Try.results29, go_sem, kE.cell]) rfl post

set_option maxHeartbeats 2000000 in
set_option maxRecDepth 100000 in
theorem radd_ok1 (x0 : ByteArray) (p0 : Int) (b0 : Option Addr) (bn0 bc0 : Nat) (g0 : Option Addr) (gn0 gc0 : Nat) (x1 : ByteArray) (p1 : Int) (b1 : Option Addr) (bn1 bc1 : Nat) (g1 : Option Addr) (gn1 gc1 : Nat) (bad0 gap0 bad1 gap1 : List Int) (h_bn0 : Hid (bn0 = bad0.length)) (h_gn0 : Hid (gn0 = gap0.length)) (h_bn1 : Hid (bn1 = bad1.length)) (h_gn1 : Hid (gn1 = gap1.length)) (l_bn0 : bn0 ≤ 1000000000) (l_gn0 : gn0 ≤ 1000000000) (l_bn1 : bn1 ≤ 1000000000) (l_gn1 : gn1 ≤ 1000000000) (w : World) (hR0 : IRow w b0 bad0 ∧ bn0 ≤ bc0 ∧ IRow w g0 gap0 ∧ gn0 ≤ gc0 ∧ IRow w b1 bad1 ∧ bn1 ≤ bc1 ∧ IRow w g1 gap1 ∧ gn1 ≤ gc1) (a : Nat) (c : UInt8) (P : Int) (E1 E2 E3 CB : ByteArray) (hw1 : Hid (IntKind.i64.wrap (p1 + (a : Int)) = P)) (hz1 : Hid ((a : Int) ≤ (x1.size : Int))) (hz2 : Hid (x1.size < 40000)) (hE1 : Hid (x1.extract 0 a = E1)) (hE2 : Hid (x1.extract a x1.size = E2)) (hCB : Hid ((⟨[c].toArray⟩ : ByteArray) = CB)) (hE3 : Hid (E1 ++ CB = E3)) (hXs1 : Hid (¬ 9223372036854775807 < E1.size + CB.size)) (hXs2 : Hid (¬ 9223372036854775807 < E3.size + E2.size))
    (LB LG : List Int) (hLB : Hid (Ln.mark (bad1.map (Ln.addB P)) P = LB)) (hLG : Hid (gap1.map (Ln.addG P) = LG)) (hub : Hid (Ln.Up bad1)) (hbb : Hid (∀ y ∈ bad1, 0 ≤ y ∧ y ≤ 10000000000)) (hgb : Hid (∀ y ∈ gap1, 0 ≤ y ∧ y ≤ 10000000000)) :
    Calls Try.prog 29 #[.agg #[.string x0, .int .i64 p0, .slice b0 bn0 bc0, .slice g0 gn0 gc0, .string x1, .int .i64 p1, .slice b1 bn1 bc1, .slice g1 gn1 gc1, .bool true], .int .i64 1, .int .i64 a, .int .u8 (c.toNat : Int)] w fun e w' => RPost (x0) (p0) (bn0) (gn0) (E3 ++ E2) (p1) (LB.length) (LG.length) (true) (bad0) (gap0) (LB) (LG) (.int .i64 0) w e w' := by
  have HWy : Hid (∀ W, Calls Try.prog 37 #[.int .i64 1] W fun e w' => e = .returned (.bool true) ∧ W = w') := fun W => (rway_any 1 W).mono fun e w' h => ⟨h.1, h.2.symm⟩
  obtain ⟨s_b0, q_b0, s_g0, q_g0, s_b1, q_b1, s_g1, q_g1⟩ := hR0
  have HO : Hid (∀ W, Below w.heap.size w W → Calls Try.prog 44 #[.agg #[.string x0, .int .i64 p0, .slice b0 bn0 bc0, .slice g0 gn0 gc0, .string x1, .int .i64 p1, .slice b1 bn1 bc1, .slice g1 gn1 gc1, .bool true]] W fun e w' => OwnPost x0 p0 bn0 gn0 x1 p1 bn1 gn1 true bad0 gap0 bad1 gap1 W e w') := fun W hW => rown_cells x0 p0 b0 bn0 bc0 g0 gn0 gc0 x1 p1 b1 bn1 bc1 g1 gn1 gc1 true bad0 gap0 bad1 gap1 W h_bn0 h_gn0 h_bn1 h_gn1 l_bn0 l_gn0 l_bn1 l_gn1 ⟨s_b0.below hW, q_b0, s_g0.below hW, q_g0, s_b1.below hW, q_b1, s_g1.below hW, q_g1⟩
  clear s_b0 q_b0 s_g0 q_g0 s_b1 q_b1 s_g1 q_g1
  have kB1 : Rg.Bk w.heap.size [.string x0, .int .i64 p0, .slice b0 bn0 bc0, .slice g0 gn0 gc0, .string x1, .int .i64 p1, .slice b1 bn1 bc1, .slice g1 gn1 gc1, .bool true] 30 ((w.alloc (.cells #[.string x0, .int .i64 p0, .slice b0 bn0 bc0, .slice g0 gn0 gc0, .string x1, .int .i64 p1, .slice b1 bn1 bc1, .slice g1 gn1 gc1, .bool true] 30)).alloc (.cells #[.string ⟨#[]⟩, .int .i64 0, .slice none 0 0, .slice none 0 0, .string ⟨#[]⟩, .int .i64 0, .slice none 0 0, .slice none 0 0, .bool false] 30)) := (Rg.Bk.new rfl).old _
  have kR1 : Rg.Bk (w.heap.size + 1) [.string ⟨#[]⟩, .int .i64 0, .slice none 0 0, .slice none 0 0, .string ⟨#[]⟩, .int .i64 0, .slice none 0 0, .slice none 0 0, .bool false] 30 ((w.alloc (.cells #[.string x0, .int .i64 p0, .slice b0 bn0 bc0, .slice g0 gn0 gc0, .string x1, .int .i64 p1, .slice b1 bn1 bc1, .slice g1 gn1 gc1, .bool true] 30)).alloc (.cells #[.string ⟨#[]⟩, .int .i64 0, .slice none 0 0, .slice none 0 0, .string ⟨#[]⟩, .int .i64 0, .slice none 0 0, .slice none 0 0, .bool false] 30)) := Rg.Bk.new (by simp)
  have hb1 := Rg.al2 w (.cells #[.string x0, .int .i64 p0, .slice b0 bn0 bc0, .slice g0 gn0 gc0, .string x1, .int .i64 p1, .slice b1 bn1 bc1, .slice g1 gn1 gc1, .bool true] 30) (.cells #[.string ⟨#[]⟩, .int .i64 0, .slice none 0 0, .slice none 0 0, .string ⟨#[]⟩, .int .i64 0, .slice none 0 0, .slice none 0 0, .bool false] 30)
  go_enter Try.func29, Try.ntmps29
  go_upto_region 1 with fail
  generalize World.alloc _ _ = w1 at *
  obtain ⟨B, hB⟩ : ∃ B, B = w.heap.size := ⟨_, rfl⟩
  obtain ⟨R, hR⟩ : ∃ R, R = w.heap.size + 1 := ⟨_, rfl⟩
  rw [← hR] at kR1 ⊢
  rw [← hB] at kB1 ⊢
  have hBR : B ≠ R := by omega
  have hBw : w.heap.size ≤ B := by omega
  have hRw : w.heap.size ≤ R := by omega
  clear hB hR
  have z0 : w1.cell? ⟨B, 0, none⟩ = some (.string x0) := kB1.cell 0
  have z1 : w1.cell? ⟨B, 1, none⟩ = some (.int .i64 p0) := kB1.cell 1
  have z2 : w1.cell? ⟨B, 2, none⟩ = some (.slice b0 bn0 bc0) := kB1.cell 2
  have z3 : w1.cell? ⟨B, 3, none⟩ = some (.slice g0 gn0 gc0) := kB1.cell 3
  have z4 : w1.cell? ⟨B, 4, none⟩ = some (.string x1) := kB1.cell 4
  have z5 : w1.cell? ⟨B, 5, none⟩ = some (.int .i64 p1) := kB1.cell 5
  have z6 : w1.cell? ⟨B, 6, none⟩ = some (.slice b1 bn1 bc1) := kB1.cell 6
  have z7 : w1.cell? ⟨B, 7, none⟩ = some (.slice g1 gn1 gc1) := kB1.cell 7
  have z8 : w1.cell? ⟨B, 8, none⟩ = some (.bool true) := kB1.cell 8
  replace kB1 := Rg.hid kB1
  replace kR1 := Rg.hid kR1
  replace hb1 := Rg.hid hb1
  go_upto_region 2 with (go_at_call 44; refine (HO.out _ hb1.out).mono ?_; rintro e w2 ⟨b0', bc0', g0', gc0', b1', bc1', g1', gc1', rfl, ⟨r_b0, q_b0, r_g0, q_g0, r_b1, q_b1, r_g1, q_g1⟩, b2⟩; have kB2 := kB1.out.below b2 kB1.out.lt; have y0 := kB2.cell 0; have y1 := kB2.cell 1; have y2 := kB2.cell 2; have y3 := kB2.cell 3; have y4 := kB2.cell 4; have y5 := kB2.cell 5; have y6 := kB2.cell 6; have y7 := kB2.cell 7; have y8 := kB2.cell 8; simp only [List.getElem?_cons_zero, List.getElem?_cons_succ] at y0 y1 y2 y3 y4 y5 y6 y7 y8; have yf := kB2.thaw)
  obtain ⟨kB3, oB⟩ := ret9 kB2 rfl (.string x0) (.int .i64 p0) (.slice b0' bn0 bc0') (.slice g0' gn0 gc0') (.string x1) (.int .i64 p1) (.slice b1' bn1 bc1') (.slice g1' gn1 gc1') (.bool true)
  replace r_b0 := Rg.hid (r_b0.only kB2 line_int oB)
  replace r_g0 := Rg.hid (r_g0.only kB2 line_int oB)
  replace r_b1 := Rg.hid (r_b1.only kB2 line_int oB)
  replace r_g1 := Rg.hid (r_g1.only kB2 line_int oB)
  have kR3 := (kR1.out.below b2 kR1.out.lt).same (oB.block _ (Ne.symm hBR))
  have hb3 := Rg.hid ((Rg.chain hb1.out b2).trans (oB.bel hBw))
  clear kB1 kR1 hb1 kB2 oB b2 yf y0 y1 y2 y3 y4 y5 y6 y7 y8 z0 z1 z2 z3 z4 z5 z6 z7 z8 HO
  generalize World.setCell _ _ _ = w3 at *
  have d0 : decide ((a : Int) < 0) = false := by simp only [decide_eq_false_iff_not]; omega
  have d1 : decide ((x1.size : Int) < (a : Int)) = false := by simp only [decide_eq_false_iff_not]; have := hz1.out; omega
  have d2 : decide ((40000 : Int) ≤ (x1.size : Int)) = false := by simp only [decide_eq_false_iff_not]; have := hz2.out; omega
  have d1n : decide (x1.size < a) = false := by simp only [decide_eq_false_iff_not]; have := hz1.out; omega
  have d2n : decide (40000 ≤ x1.size) = false := by simp only [decide_eq_false_iff_not]; have := hz2.out; omega
  have u8 : w3.cell? ⟨B, 8, none⟩ = some (.bool true) := kB3.cell 8
  have u4 : w3.cell? ⟨B, 4, none⟩ = some (.string x1) := kB3.cell 4
  have u5 : w3.cell? ⟨B, 5, none⟩ = some (.int .i64 p1) := kB3.cell 5
  have u6 : w3.cell? ⟨B, 6, none⟩ = some (.slice b1' bn1 bc1') := kB3.cell 6
  have u7 : w3.cell? ⟨B, 7, none⟩ = some (.slice g1' gn1 gc1') := kB3.cell 7
  have hBl := kB3.lt
  have kD5 : Rg.Bk w3.heap.size [.string x1, .int .i64 p1, .slice b1' bn1 bc1', .slice g1' gn1 gc1'] 27 (w3.alloc (.cells #[.string x1, .int .i64 p1, .slice b1' bn1 bc1', .slice g1' gn1 gc1'] 27)) := Rg.Bk.new rfl
  have kB5 := Rg.hid (kB3.old (.cells #[.string x1, .int .i64 p1, .slice b1' bn1 bc1', .slice g1' gn1 gc1'] 27))
  have kR5 := Rg.hid (kR3.old (.cells #[.string x1, .int .i64 p1, .slice b1' bn1 bc1', .slice g1' gn1 gc1'] 27))
  have hb5 := Rg.hid (Rg.chain hb3.out (Rg.al1 w3 (.cells #[.string x1, .int .i64 p1, .slice b1' bn1 bc1', .slice g1' gn1 gc1'] 27)))
  replace r_b0 := Rg.hid (r_b0.out.below (Rg.al1 w3 (.cells #[.string x1, .int .i64 p1, .slice b1' bn1 bc1', .slice g1' gn1 gc1'] 27)))
  replace r_g0 := Rg.hid (r_g0.out.below (Rg.al1 w3 (.cells #[.string x1, .int .i64 p1, .slice b1' bn1 bc1', .slice g1' gn1 gc1'] 27)))
  replace r_b1 := Rg.hid (r_b1.out.below (Rg.al1 w3 (.cells #[.string x1, .int .i64 p1, .slice b1' bn1 bc1', .slice g1' gn1 gc1'] 27)))
  replace r_g1 := Rg.hid (r_g1.out.below (Rg.al1 w3 (.cells #[.string x1, .int .i64 p1, .slice b1' bn1 bc1', .slice g1' gn1 gc1'] 27)))
  have hDB : w3.heap.size ≠ B := by omega
  have hDR : w3.heap.size ≠ R := by have := kR3.lt; omega
  have hDw : w.heap.size ≤ w3.heap.size := hb3.out.size
  clear kB3 kR3 hb3
  go_upto_region 6 with (go_at_call 37; refine (HWy.out _).mono ?_; rintro e w9 ⟨rfl, rfl⟩)
  go_upto_region 7 with fail
  clear u4 u5 u6 u7 u8 hBl HWy d0 d1 d2 d1n d2n
  generalize World.alloc _ _ = w5 at *
  generalize w3.heap.size = D at *
  have t1 : w5.cell? ⟨D, 1, none⟩ = some (.int .i64 p1) := kD5.cell 1
  have hw1' := hw1.out
  clear hw1
  go_upto_region 8 with fail
  clear t1 hw1'
  have t0 : w5.cell? ⟨D, 0, none⟩ = some (.string x1) := kD5.cell 0
  have tf := kD5.thaw
  have hDl := kD5.lt
  have hDn : ¬ D = w5.heap.size := by omega
  have hDn' : ¬ w5.heap.size = D := by omega
  have hz0 : (0 : Int) ≤ (a : Int) := by omega
  have hz1' : (a : Int) ≤ (x1.size : Int) := hz1.out
  have hcv : (convert 67 9 (.slice (some ⟨w5.heap.size, 0, none⟩) 1 1)).run Try.prog (w5.alloc (.cells #[.int .u8 (c.toNat : Int)] 5)).drew = .ok (.string CB) (w5.alloc (.cells #[.int .u8 (c.toNat : Int)] 5)).drew := by
    have hat : Rg.At (w5.alloc (.cells #[.int .u8 (c.toNat : Int)] 5)).drew w5.heap.size 0 (byteE.flat [c]) := fun t u ht => by
      rw [byte_flat] at ht
      have kk : Rg.Bk w5.heap.size [.int .u8 (c.toNat : Int)] 5 (w5.alloc (.cells #[.int .u8 (c.toNat : Int)] 5)).drew := Rg.Bk.new rfl
      rw [Nat.zero_add, kk.cell]; exact ht
    have := conv_bytes (cap := 1) hat
    rw [← hCB.out]; exact this
  have hE1' := hE1.out
  have hE2' := hE2.out
  have hE3' := hE3.out
  have hXs1' := hXs1.out
  have hXs2' := hXs2.out
  clear hz1 hz2 hE1 hE2 hE3 hXs1 hXs2 hCB
  have oD6 := Rg.Only.setCell w5 D 0 (.string (E3 ++ E2))
  have kD6 : Rg.Bk D [.string (E3 ++ E2), .int .i64 p1, .slice b1' bn1 bc1', .slice g1' gn1 gc1'] 27 ((w5.setCell ⟨D, 0, none⟩ (.string (E3 ++ E2))).alloc (.cells #[.int .u8 (c.toNat : Int)] 5)).drew := (kD5.set 0 (.string (E3 ++ E2))).old (.cells #[.int .u8 (c.toNat : Int)] 5)
  have kB6 : Hid (Rg.Bk B [.string x0, .int .i64 p0, .slice b0' bn0 bc0', .slice g0' gn0 gc0', .string x1, .int .i64 p1, .slice b1' bn1 bc1', .slice g1' gn1 gc1', .bool true] 30 ((w5.setCell ⟨D, 0, none⟩ (.string (E3 ++ E2))).alloc (.cells #[.int .u8 (c.toNat : Int)] 5)).drew) := (kB5.out.same (oD6.block B (Ne.symm hDB))).old (.cells #[.int .u8 (c.toNat : Int)] 5)
  have kR6 : Hid (Rg.Bk R [.string ⟨#[]⟩, .int .i64 0, .slice none 0 0, .slice none 0 0, .string ⟨#[]⟩, .int .i64 0, .slice none 0 0, .slice none 0 0, .bool false] 30 ((w5.setCell ⟨D, 0, none⟩ (.string (E3 ++ E2))).alloc (.cells #[.int .u8 (c.toNat : Int)] 5)).drew) := (kR5.out.same (oD6.block R (Ne.symm hDR))).old (.cells #[.int .u8 (c.toNat : Int)] 5)
  have hb6 : Hid (Below w.heap.size w ((w5.setCell ⟨D, 0, none⟩ (.string (E3 ++ E2))).alloc (.cells #[.int .u8 (c.toNat : Int)] 5)).drew) := (Rg.chain (hb5.out.trans (oD6.bel hDw)) (Rg.al1 _ (.cells #[.int .u8 (c.toNat : Int)] 5))).drew
  replace r_b0 : Hid (IRow ((w5.setCell ⟨D, 0, none⟩ (.string (E3 ++ E2))).alloc (.cells #[.int .u8 (c.toNat : Int)] 5)).drew b0' bad0) := ((r_b0.out.only kD5 way_int oD6).below (Rg.al1 _ (.cells #[.int .u8 (c.toNat : Int)] 5))).drew
  replace r_g0 : Hid (IRow ((w5.setCell ⟨D, 0, none⟩ (.string (E3 ++ E2))).alloc (.cells #[.int .u8 (c.toNat : Int)] 5)).drew g0' gap0) := ((r_g0.out.only kD5 way_int oD6).below (Rg.al1 _ (.cells #[.int .u8 (c.toNat : Int)] 5))).drew
  replace r_b1 : Hid (IRow ((w5.setCell ⟨D, 0, none⟩ (.string (E3 ++ E2))).alloc (.cells #[.int .u8 (c.toNat : Int)] 5)).drew b1' bad1) := ((r_b1.out.only kD5 way_int oD6).below (Rg.al1 _ (.cells #[.int .u8 (c.toNat : Int)] 5))).drew
  replace r_g1 : Hid (IRow ((w5.setCell ⟨D, 0, none⟩ (.string (E3 ++ E2))).alloc (.cells #[.int .u8 (c.toNat : Int)] 5)).drew g1' gap1) := ((r_g1.out.only kD5 way_int oD6).below (Rg.al1 _ (.cells #[.int .u8 (c.toNat : Int)] 5))).drew
  replace kD6 := Rg.hid kD6
  clear kD5 oD6 kB5 kR5 hb5
  go_region
  clear hcv
  generalize World.drew (World.alloc _ _) = w7 at *
  clear t0 tf hz0 hz1' hE1' hE2' hE3' hXs1' hXs2' hDl hDn hDn'
  have t2 : w7.cell? ⟨D, 2, none⟩ = some (.slice b1' bn1 bc1') := kD6.out.cell 2
  go_wp2
  clear t2
  go_loopw [12, 78] (fun va vi wr => ∃ (i M : Nat) (ya : Option Addr) (yc : Nat), i ≤ bn1 ∧ vi = .int .i64 i ∧ va = .slice ya M yc ∧ Hid (M = ((bad1.take i).map (Ln.addB P)).length) ∧ Hid (SI w7.heap.size wr ya yc ((bad1.take i).map (Ln.addB P))) ∧ Below w7.heap.size w7 wr) (fun _ vi _ => bn1 - (intOf vi).toNat)
  case atStart => exact ⟨0, 0, none, 0, Nat.zero_le _, rfl, rfl, rfl, .inl ⟨rfl, rfl, rfl⟩, Below.refl _ _⟩
  case round =>
    obtain ⟨i, M, ya, yc, hin, rfl, rfl, hM, hS, hbw⟩ := hrel
    by_cases hlt0 : i < bn1
    · have hlt : i < bad1.length := by rw [← h_bn1.out]; exact hlt0
      obtain ⟨ba, bo, hbe, -, -⟩ : ∃ b o, b1' = some ⟨b, o, none⟩ ∧ b < w7.heap.size ∧ Rg.At w7 b o (intE.flat bad1) := by
        rcases r_b1.out.1 with ⟨h, h'⟩ | h
        · rw [h'] at hlt; simp at hlt
        · exact h
      subst hbe
      have c1 : wr.cell? ⟨ba, bo + i, none⟩ = some (.int .i64 bad1[i]) := (r_b1.out.below hbw).cell hlt
      have hx := hbb.out bad1[i] (List.getElem_mem hlt)
      have hst : Hid (((bad1.take (i + 1)).map (Ln.addB P)) = ((bad1.take i).map (Ln.addB P)) ++ [Ln.addB P bad1[i]]) := by show _ = _; rw [List.take_succ_eq_append_getElem hlt, List.map_append]; rfl
      have hMl : M ≤ 1000000000 := by have := hM.out; rw [List.length_map, List.length_take] at this; omega
      have hz0 : (0 : Int) ≤ (i : Int) := by omega
      have hz1 : (i : Int) < (bn1 : Int) := by omega
      generalize bad1[i] = x at *
      clear hlt
      obtain ⟨X1, hX1⟩ : ∃ X1 : Int, X1 = Ln.addB P x := ⟨_, rfl⟩
      obtain ⟨a', c', W', hap, hS', hb'⟩ := app_si (hS.out.below (Rg.al1 wr (.cells #[.int .i64 X1] 3))) (Nat.le_trans hbw.size (Rg.al1 _ _).size) X1 wr.heap.size (Rg.Bk.new rfl) (by rw [← hM.out]; exact hMl)
      by_cases ha : P ≤ x
      · have d1 : decide (P ≤ x) = true := by simp only [decide_eq_true_eq]; exact ha
        have hwx : IntKind.i64.wrap (x + 1) = X1 := by rw [IntKind.wrap_i64, hX1, Ln.addB, if_pos ha]; omega
        have hwx' : wrap64 (x + 1) = X1 := by rw [hX1, Ln.addB, if_pos ha]; unfold wrap64; omega
        have hM' : Hid (M + 1 = ((bad1.take (i + 1)).map (Ln.addB P)).length) := by show _ = _; rw [hst.out, List.length_append, ← hM.out]; rfl
        have hS2 : Hid (SI w7.heap.size W' a' c' ((bad1.take (i + 1)).map (Ln.addB P))) := by show SI _ _ _ _ _; rw [hst.out, ← hX1]; exact hS'
        rw [← hM.out] at hap
        replace hap := Rg.hid hap
        have hbw' := Rg.hid ((hbw.trans ((Rg.al1 _ _).mono hbw.size)).trans hb')
        clear hS' hb' hS hM hst hx hbw hX1 ha

        go_wp2_with (at_builtin; refine Rg.wpList_append_run rfl (.tmp 87) (.tmp 89) 25 rfl _ _ rfl rfl _ _ hap.out ?_)
        go_roundw
        case rel => exact ⟨i + 1, M + 1, a', c', by omega, by go_num, rfl, hM', hS2, hbw'.out⟩
        case measure => simp [intOf]; omega
      · have d1 : decide (P ≤ x) = false := by simp only [decide_eq_false_iff_not]; exact ha
        have hxe : X1 = x := by rw [hX1, Ln.addB, if_neg ha]
        have hM' : Hid (M + 1 = ((bad1.take (i + 1)).map (Ln.addB P)).length) := by show _ = _; rw [hst.out, List.length_append, ← hM.out]; rfl
        have hS2 : Hid (SI w7.heap.size W' a' c' ((bad1.take (i + 1)).map (Ln.addB P))) := by show SI _ _ _ _ _; rw [hst.out, ← hX1]; exact hS'
        rw [← hM.out] at hap
        replace hap := Rg.hid hap
        have hbw' := Rg.hid ((hbw.trans ((Rg.al1 _ _).mono hbw.size)).trans hb')
        clear hS' hb' hS hM hst hx hbw hX1 ha
        subst hxe
        go_wp2_with (at_builtin; refine Rg.wpList_append_run rfl (.tmp 87) (.tmp 89) 25 rfl _ _ rfl rfl _ _ hap.out ?_)
        go_roundw
        case rel => exact ⟨i + 1, M + 1, a', c', by omega, by go_num, rfl, hM', hS2, hbw'.out⟩
        case measure => simp [intOf]; omega
    · have hie : i = bn1 := by omega
      subst i
      have hfull : bad1.take bn1 = bad1 := List.take_of_length_le (by rw [← h_bn1.out]; exact Nat.le_refl _)
      rw [hfull] at hM hS
      have hYc := hS.out.le
      rw [← hM.out] at hYc
      replace hS := Rg.hid hS.out.irow
      obtain ⟨w8, hw8⟩ : ∃ w8, w8 = wr := ⟨_, rfl⟩
      subst hw8
      have kD8 := Rg.hid (kD6.out.below hbw kD6.out.lt)
      have kB8 := Rg.hid (kB6.out.below hbw kB6.out.lt)
      have kR8 := Rg.hid (kR6.out.below hbw kR6.out.lt)
      have hb8 := Rg.hid (hb6.out.trans (hbw.mono hb6.out.size))
      replace r_b0 := Rg.hid (r_b0.out.below hbw)
      replace r_g0 := Rg.hid (r_g0.out.below hbw)
      replace r_b1 := Rg.hid (r_b1.out.below hbw)
      replace r_g1 := Rg.hid (r_g1.out.below hbw)
      obtain ⟨ma, hma⟩ : ∃ ma, ma = ya := ⟨_, rfl⟩
      obtain ⟨mc, hmc⟩ : ∃ mc, mc = yc := ⟨_, rfl⟩
      obtain ⟨mn, hmn⟩ : ∃ mn, mn = M := ⟨_, rfl⟩
      subst hma hmc hmn
      have hMb := hM
      have hSb := hS
      clear hbw hin hlt0 hfull kD6 kB6 kR6 hb6 hM hS
      have t3 : w8.cell? ⟨D, 3, none⟩ = some (.slice g1' gn1 gc1') := kD8.out.cell 3
      go_wp2
      clear t3
      go_loopw [13, 95] (fun va vi wr => ∃ (i M : Nat) (ya : Option Addr) (yc : Nat), i ≤ gn1 ∧ vi = .int .i64 i ∧ va = .slice ya M yc ∧ Hid (M = ((gap1.take i).map (Ln.addG P)).length) ∧ Hid (SI w8.heap.size wr ya yc ((gap1.take i).map (Ln.addG P))) ∧ Below w8.heap.size w8 wr) (fun _ vi _ => gn1 - (intOf vi).toNat)
      case atStart => exact ⟨0, 0, none, 0, Nat.zero_le _, rfl, rfl, rfl, .inl ⟨rfl, rfl, rfl⟩, Below.refl _ _⟩
      case round =>
        obtain ⟨i, M, ya, yc, hin, rfl, rfl, hM, hS, hbw⟩ := hrel
        by_cases hlt0 : i < gn1
        · have hlt : i < gap1.length := by rw [← h_gn1.out]; exact hlt0
          obtain ⟨ba, bo, hbe, -, -⟩ : ∃ b o, g1' = some ⟨b, o, none⟩ ∧ b < w8.heap.size ∧ Rg.At w8 b o (intE.flat gap1) := by
            rcases r_g1.out.1 with ⟨h, h'⟩ | h
            · rw [h'] at hlt; simp at hlt
            · exact h
          subst hbe
          have c1 : wr.cell? ⟨ba, bo + i, none⟩ = some (.int .i64 gap1[i]) := (r_g1.out.below hbw).cell hlt
          have hx := hgb.out gap1[i] (List.getElem_mem hlt)
          have hst : Hid (((gap1.take (i + 1)).map (Ln.addG P)) = ((gap1.take i).map (Ln.addG P)) ++ [Ln.addG P gap1[i]]) := by show _ = _; rw [List.take_succ_eq_append_getElem hlt, List.map_append]; rfl
          have hMl : M ≤ 1000000000 := by have := hM.out; rw [List.length_map, List.length_take] at this; omega
          have hz0 : (0 : Int) ≤ (i : Int) := by omega
          have hz1 : (i : Int) < (gn1 : Int) := by omega
          generalize gap1[i] = x at *
          clear hlt
          obtain ⟨X1, hX1⟩ : ∃ X1 : Int, X1 = Ln.addG P x := ⟨_, rfl⟩
          obtain ⟨a', c', W', hap, hS', hb'⟩ := app_si (hS.out.below (Rg.al1 wr (.cells #[.int .i64 X1] 3))) (Nat.le_trans hbw.size (Rg.al1 _ _).size) X1 wr.heap.size (Rg.Bk.new rfl) (by rw [← hM.out]; exact hMl)
          by_cases ha : P < x
          · have d1 : decide (P < x) = true := by simp only [decide_eq_true_eq]; exact ha
            have hwx : IntKind.i64.wrap (x + 1) = X1 := by rw [IntKind.wrap_i64, hX1, Ln.addG, if_pos ha]; omega
            have hwx' : wrap64 (x + 1) = X1 := by rw [hX1, Ln.addG, if_pos ha]; unfold wrap64; omega
            have hM' : Hid (M + 1 = ((gap1.take (i + 1)).map (Ln.addG P)).length) := by show _ = _; rw [hst.out, List.length_append, ← hM.out]; rfl
            have hS2 : Hid (SI w8.heap.size W' a' c' ((gap1.take (i + 1)).map (Ln.addG P))) := by show SI _ _ _ _ _; rw [hst.out, ← hX1]; exact hS'
            rw [← hM.out] at hap
            replace hap := Rg.hid hap
            have hbw' := Rg.hid ((hbw.trans ((Rg.al1 _ _).mono hbw.size)).trans hb')
            clear hS' hb' hS hM hst hx hbw hX1 ha

            go_wp2_with (at_builtin; refine Rg.wpList_append_run rfl (.tmp 104) (.tmp 106) 25 rfl _ _ rfl rfl _ _ hap.out ?_)
            go_roundw
            case rel => exact ⟨i + 1, M + 1, a', c', by omega, by go_num, rfl, hM', hS2, hbw'.out⟩
            case measure => simp [intOf]; omega
          · have d1 : decide (P < x) = false := by simp only [decide_eq_false_iff_not]; exact ha
            have hxe : X1 = x := by rw [hX1, Ln.addG, if_neg ha]
            have hM' : Hid (M + 1 = ((gap1.take (i + 1)).map (Ln.addG P)).length) := by show _ = _; rw [hst.out, List.length_append, ← hM.out]; rfl
            have hS2 : Hid (SI w8.heap.size W' a' c' ((gap1.take (i + 1)).map (Ln.addG P))) := by show SI _ _ _ _ _; rw [hst.out, ← hX1]; exact hS'
            rw [← hM.out] at hap
            replace hap := Rg.hid hap
            have hbw' := Rg.hid ((hbw.trans ((Rg.al1 _ _).mono hbw.size)).trans hb')
            clear hS' hb' hS hM hst hx hbw hX1 ha
            subst hxe
            go_wp2_with (at_builtin; refine Rg.wpList_append_run rfl (.tmp 104) (.tmp 106) 25 rfl _ _ rfl rfl _ _ hap.out ?_)
            go_roundw
            case rel => exact ⟨i + 1, M + 1, a', c', by omega, by go_num, rfl, hM', hS2, hbw'.out⟩
            case measure => simp [intOf]; omega
        · have hie : i = gn1 := by omega
          subst i
          have hfull : gap1.take gn1 = gap1 := List.take_of_length_le (by rw [← h_gn1.out]; exact Nat.le_refl _)
          rw [hfull] at hM hS
          rw [hLG.out] at hM hS
          have hLGc := hS.out.le
          replace hS := Rg.hid hS.out.irow
          have hMe := hM.out
          subst hMe
          have hFl : (bad1.map (Ln.addB P)).length ≤ 1000000000 := by rw [List.length_map, ← h_bn1.out]; exact l_bn1
          have HMk : Hid (∀ W, IRow W ma (bad1.map (Ln.addB P)) → Calls Try.prog 46 #[.slice ma mn mc, .int .i64 P] W fun e w' => ∃ a9 c9, e = .returned (.slice a9 LB.length c9) ∧ Hid (IRow w' a9 LB) ∧ LB.length ≤ c9 ∧ Below W.heap.size W w') := fun W hW => by
            have := rmark_any ma mc (bad1.map (Ln.addB P)) P W hFl (Ln.up_addB hub.out P) (by rw [← hMb.out]; exact hYc) hW
            rw [← hMb.out, hLB.out] at this
            exact this.mono fun e w' ⟨a9, c9, h1, h2, h3, h4⟩ => ⟨a9, c9, h1, h2, h3, h4⟩
          obtain ⟨za, hza⟩ : ∃ za, za = ya := ⟨_, rfl⟩
          obtain ⟨zc, hzc⟩ : ∃ zc, zc = yc := ⟨_, rfl⟩
          subst hza hzc
          obtain ⟨w10, hw10⟩ : ∃ w10, w10 = wr := ⟨_, rfl⟩
          subst hw10
          have kD10 := Rg.hid (kD8.out.below hbw kD8.out.lt)
          have kB10 := Rg.hid (kB8.out.below hbw kB8.out.lt)
          have kR10 := Rg.hid (kR8.out.below hbw kR8.out.lt)
          have hb10 := Rg.hid (hb8.out.trans (hbw.mono hb8.out.size))
          replace r_b0 := Rg.hid (r_b0.out.below hbw)
          replace r_g0 := Rg.hid (r_g0.out.below hbw)
          replace hSb := Rg.hid (hSb.out.below hbw)
          clear r_b1 r_g1 kD8 kB8 kR8 hb8 hbw hfull hFl hMb hYc hLB hLG hin hlt0 hub hM hbb hgb
          go_upto_region 25 with (go_at_call 46; refine (HMk.out _ hSb.out).mono ?_; rintro e w12 ⟨a9, c9, rfl, hI9, hc9, b9⟩; have kD12 := kD10.out.below b9 kD10.out.lt; have tf := kD12.thaw; have t2 := kD12.cell 2; simp only [List.getElem?_cons_zero, List.getElem?_cons_succ] at t2)
          have oD13 := Rg.Only.setCell w12 D 2 (.slice a9 LB.length c9)
          have kD13 : Rg.Bk D [.string (E3 ++ E2), .int .i64 p1, .slice a9 LB.length c9, .slice g1' gn1 gc1'] 27 (w12.setCell ⟨D, 2, none⟩ (.slice a9 LB.length c9)) := kD12.set 2 _
          have kB13 := Rg.hid ((kB10.out.below b9 kB10.out.lt).same (oD13.block B (Ne.symm hDB)))
          have kR13 := Rg.hid ((kR10.out.below b9 kR10.out.lt).same (oD13.block R (Ne.symm hDR)))
          have hb13 := Rg.hid ((Rg.chain hb10.out b9).trans (oD13.bel hDw))
          replace r_b0 := Rg.hid ((r_b0.out.below b9).only kD12 way_int oD13)
          replace r_g0 := Rg.hid ((r_g0.out.below b9).only kD12 way_int oD13)
          have r_b1 := Rg.hid (hI9.out.only kD12 way_int oD13)
          have r_g1 := Rg.hid ((hS.out.below b9).only kD12 way_int oD13)
          clear kD12 tf t2 oD13 kB10 kR10 hb10 hI9 hS hSb b9 HMk kD10
          generalize World.setCell _ _ _ = w13 at *
          have t3 : w13.cell? ⟨D, 3, none⟩ = some (.slice g1' gn1 gc1') := kD13.cell 3
          have tf := kD13.thaw
          have oD14 := Rg.Only.setCell w13 D 3 (.slice za LG.length zc)
          have kD14 : Rg.Bk D [.string (E3 ++ E2), .int .i64 p1, .slice a9 LB.length c9, .slice za LG.length zc] 27 (w13.setCell ⟨D, 3, none⟩ (.slice za LG.length zc)) := kD13.set 3 _
          have kB14 := kB13.out.same (oD14.block B (Ne.symm hDB))
          have kR14 := Rg.hid (kR13.out.same (oD14.block R (Ne.symm hDR)))
          have hb14 := Rg.hid (hb13.out.trans (oD14.bel hDw))
          replace r_b0 := Rg.hid (r_b0.out.only kD13 way_int oD14)
          replace r_g0 := Rg.hid (r_g0.out.only kD13 way_int oD14)
          replace r_b1 := Rg.hid (r_b1.out.only kD13 way_int oD14)
          replace r_g1 := Rg.hid (r_g1.out.only kD13 way_int oD14)
          replace kD14 := Rg.hid kD14
          replace kB14 := Rg.hid kB14
          clear oD14 kB13 kR13 hb13 kD13
          go_upto_region 26 with fail
          clear t3 tf
          generalize World.setCell _ _ _ = w14 at *
          have kDx := kD14.out
          have kBx := kB14.out
          clear kD14 kB14
          have t0 : w14.cell? ⟨D, 0, none⟩ = some (.string (E3 ++ E2)) := kDx.cell 0
          have t1 : w14.cell? ⟨D, 1, none⟩ = some (.int .i64 p1) := kDx.cell 1
          have t2 : w14.cell? ⟨D, 2, none⟩ = some (.slice a9 LB.length c9) := kDx.cell 2
          have t3 : w14.cell? ⟨D, 3, none⟩ = some (.slice za LG.length zc) := kDx.cell 3
          have u4 : w14.cell? ⟨B, 4, none⟩ = some (.string x1) := kBx.cell 4
          have u5 : w14.cell? ⟨B, 5, none⟩ = some (.int .i64 p1) := kBx.cell 5
          have u6 : w14.cell? ⟨B, 6, none⟩ = some (.slice b1' bn1 bc1') := kBx.cell 6
          have u7 : w14.cell? ⟨B, 7, none⟩ = some (.slice g1' gn1 gc1') := kBx.cell 7
          have uf := kBx.thaw
          have oB15 := (((Rg.Only.setCell w14 B 4 (.string (E3 ++ E2))).trans (Rg.Only.setCell _ B 5 (.int .i64 p1))).trans (Rg.Only.setCell _ B 6 (.slice a9 LB.length c9))).trans (Rg.Only.setCell _ B 7 (.slice za LG.length zc))
          have kB15 : Rg.Bk B [.string x0, .int .i64 p0, .slice b0' bn0 bc0', .slice g0' gn0 gc0', .string (E3 ++ E2), .int .i64 p1, .slice a9 LB.length c9, .slice za LG.length zc, .bool true] 30 ((((w14.setCell ⟨B, 4, none⟩ (.string (E3 ++ E2))).setCell ⟨B, 5, none⟩ (.int .i64 p1)).setCell ⟨B, 6, none⟩ (.slice a9 LB.length c9)).setCell ⟨B, 7, none⟩ (.slice za LG.length zc)) := (((kBx.set 4 (.string (E3 ++ E2))).set 5 (.int .i64 p1)).set 6 (.slice a9 LB.length c9)).set 7 (.slice za LG.length zc)
          have kR15 := kR14.out.same (oB15.block R (Ne.symm hBR))
          have hb15 := Rg.hid (hb14.out.trans (oB15.bel hBw))
          replace r_b0 := Rg.hid (r_b0.out.only kBx line_int oB15)
          replace r_g0 := Rg.hid (r_g0.out.only kBx line_int oB15)
          replace r_b1 := Rg.hid (r_b1.out.only kBx line_int oB15)
          replace r_g1 := Rg.hid (r_g1.out.only kBx line_int oB15)
          replace kB15 := Rg.hid kB15
          replace kR15 := Rg.hid kR15
          clear oB15 kR14 hb14 kBx kDx
          go_upto_region 27 with fail
          clear t0 t1 t2 t3 u4 u5 u6 u7 uf
          generalize World.setCell _ _ _ = w15 at *
          replace kB15 := kB15.out
          replace kR15 := kR15.out
          obtain ⟨kE, oE⟩ := ret9 kR15 rfl (.string x0) (.int .i64 p0) (.slice b0' bn0 bc0') (.slice g0' gn0 gc0') (.string (E3 ++ E2)) (.int .i64 p1) (.slice a9 LB.length c9) (.slice za LG.length zc) (.bool true)
          have post := Rg.hid ((⟨_, _, _, _, _, _, _, _, rfl, ⟨r_b0.out.only kR15 line_int oE, q_b0, r_g0.out.only kR15 line_int oE, q_g0, r_b1.out.only kR15 line_int oE, hc9, r_g1.out.only kR15 line_int oE, hLGc⟩, hb15.out.trans (oE.bel hRw)⟩ : RPost (x0) (p0) (bn0) (gn0) (E3 ++ E2) (p1) (LB.length) (LG.length) (true) (bad0) (gap0) (LB) (LG) (.int .i64 0) w (.returned (.tuple #[.agg #[.string x0, .int .i64 p0, .slice b0' bn0 bc0', .slice g0' gn0 gc0', .string (E3 ++ E2), .int .i64 p1, .slice a9 LB.length c9, .slice za LG.length zc, .bool true], .int .i64 0])) _))
          replace kE := Rg.hid kE
          have d0' : w15.cell? ⟨B, 0, none⟩ = some (.string x0) := kB15.cell 0
          have d1' : w15.cell? ⟨B, 1, none⟩ = some (.int .i64 p0) := kB15.cell 1
          have d2' : w15.cell? ⟨B, 2, none⟩ = some (.slice b0' bn0 bc0') := kB15.cell 2
          have d3' : w15.cell? ⟨B, 3, none⟩ = some (.slice g0' gn0 gc0') := kB15.cell 3
          have d4' : w15.cell? ⟨B, 4, none⟩ = some (.string (E3 ++ E2)) := kB15.cell 4
          have d5' : w15.cell? ⟨B, 5, none⟩ = some (.int .i64 p1) := kB15.cell 5
          have d6' : w15.cell? ⟨B, 6, none⟩ = some (.slice a9 LB.length c9) := kB15.cell 6
          have d7' : w15.cell? ⟨B, 7, none⟩ = some (.slice za LG.length zc) := kB15.cell 7
          have d8' : w15.cell? ⟨B, 8, none⟩ = some (.bool true) := kB15.cell 8
          have r0 : w15.cell? ⟨R, 0, none⟩ = some (.string ⟨#[]⟩) := kR15.cell 0
          have r1 : w15.cell? ⟨R, 1, none⟩ = some (.int .i64 0) := kR15.cell 1
          have r2 : w15.cell? ⟨R, 2, none⟩ = some (.slice none 0 0) := kR15.cell 2
          have r3 : w15.cell? ⟨R, 3, none⟩ = some (.slice none 0 0) := kR15.cell 3
          have r4 : w15.cell? ⟨R, 4, none⟩ = some (.string ⟨#[]⟩) := kR15.cell 4
          have r5 : w15.cell? ⟨R, 5, none⟩ = some (.int .i64 0) := kR15.cell 5
          have r6 : w15.cell? ⟨R, 6, none⟩ = some (.slice none 0 0) := kR15.cell 6
          have r7 : w15.cell? ⟨R, 7, none⟩ = some (.slice none 0 0) := kR15.cell 7
          have r8 : w15.cell? ⟨R, 8, none⟩ = some (.bool false) := kR15.cell 8
          have rf := kR15.thaw
          clear oE kR15 kB15 hb15
          go_wp2
          replace kE := kE.out
          replace post := post.out
          generalize World.setCell _ _ _ = WE at *
          exact bodyPost_ret (v := .tuple #[.agg #[.string x0, .int .i64 p0, .slice b0' bn0 bc0', .slice g0' gn0 gc0', .string (E3 ++ E2), .int .i64 p1, .slice a9 LB.length c9, .slice za LG.length zc, .bool true], .int .i64 0]) (by simp [results, Try.results29, go_sem, kE.cell]) rfl post
end Go.Proofs.Ytalleocmnnnchaa
