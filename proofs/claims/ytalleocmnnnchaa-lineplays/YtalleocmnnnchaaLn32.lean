/-
  Layer 7: the document's Lose.
-/
import Derived.Test.YtalleocmnnnchaaLn31
namespace Go.Proofs.Ytalleocmnnnchaa
open Go.RowKit

theorem Ln.loseB_step (q : Int) {l : List Int} {i : Nat} (hi : i < l.length) : (l.take (i + 1)).flatMap (Ln.loseB q) = (l.take i).flatMap (Ln.loseB q) ++ Ln.loseB q l[i] := by
  rw [List.take_succ_eq_append_getElem hi, List.flatMap_append]; simp
theorem Ln.loseB_len (q : Int) : ∀ l : List Int, (l.flatMap (Ln.loseB q)).length ≤ l.length
  | [] => Nat.le_refl _
  | x :: l => by
    have := Ln.loseB_len q l
    rw [List.flatMap_cons, List.length_append, List.length_cons]
    unfold Ln.loseB at *
    split
    · simp only [List.length_singleton]; omega
    · split
      · simp only [List.length_singleton]; omega
      · simp only [List.length_nil]; omega
theorem SI.below {base cap : Nat} {W W' : World} {a : Option Addr} {l : List Int} (h : SI base W a cap l) (hb : Below W.heap.size W W') : SI base W' a cap l := by
  rcases h with h | ⟨g, rest, e, h⟩
  · exact .inl h
  · exact .inr ⟨g, rest, e, h.below hb⟩
theorem way_int : 27 ≠ 3 := by decide
/-- append of one place to a row of one's own, or to nothing -/
theorem app_si {base cap : Nat} {W : World} {a : Option Addr} {l : List Int} (h : SI base W a cap l) (hB : base ≤ W.heap.size) (x : Int) (ad : Nat) (hk : Rg.Bk ad [.int .i64 x] 3 W) (hlen : l.length ≤ 1000000000) :
    ∃ a' cap' W', (Builtin.append_ #[25, 25] 25 #[.slice a l.length cap, .slice (some ⟨ad, 0, none⟩) 1 1]).run Try.prog W = .ok (.slice a' (l.length + 1) cap') W' ∧ SI base W' a' cap' (l ++ [x]) ∧ Below base W W' := by
  rcases h with ⟨rfl, rfl, rfl⟩ | ⟨g, rest, rfl, h⟩
  · obtain ⟨i0, hi, hz0, hz1, hz2⟩ := infoI'
    obtain ⟨g', cap', rest', W', h1, h2, h3, -⟩ := intE.append0 (P := Try.prog) W base x 25 25 i0 _ 8 Try.underlying25 hi hz0 hz1 hz2 rfl ⟨ad, 0, none⟩ 1 (fun j u hj => by cases j with
      | zero => simp [intE] at hj; subst hj; exact hk.cell 0
      | succ j => simp [intE] at hj) hB (by decide)
    exact ⟨_, cap', W', h1, .inr ⟨g', rest', rfl, h2⟩, h3.mono hB⟩
  · have hr : IRow W (some ⟨ad, 0, none⟩) [x] := IRow.of hk (fun j hj => by simp at hj; subst hj; exact hk.cell 0)
    obtain ⟨g', cap', rest', W', h1, h2, h3, -⟩ := app_irow h hB (ca := 1) hr (by simp; omega)
    exact ⟨_, cap', W', h1, .inr ⟨g', rest', rfl, h2⟩, h3⟩

set_option maxHeartbeats 1000000 in
set_option maxRecDepth 100000 in
theorem rlose_ok0 (x0 : ByteArray) (p0 : Int) (b0 : Option Addr) (bn0 bc0 : Nat) (g0 : Option Addr) (gn0 gc0 : Nat) (x1 : ByteArray) (p1 : Int) (b1 : Option Addr) (bn1 bc1 : Nat) (g1 : Option Addr) (gn1 gc1 : Nat) (bad0 gap0 bad1 gap1 : List Int) (h_bn0 : Hid (bn0 = bad0.length)) (h_gn0 : Hid (gn0 = gap0.length)) (h_bn1 : Hid (bn1 = bad1.length)) (h_gn1 : Hid (gn1 = gap1.length)) (l_bn0 : bn0 ≤ 1000000000) (l_gn0 : gn0 ≤ 1000000000) (l_bn1 : bn1 ≤ 1000000000) (l_gn1 : gn1 ≤ 1000000000) (w : World) (hR0 : IRow w b0 bad0 ∧ bn0 ≤ bc0 ∧ IRow w g0 gap0 ∧ gn0 ≤ gc0 ∧ IRow w b1 bad1 ∧ bn1 ≤ bc1 ∧ IRow w g1 gap1 ∧ gn1 ≤ gc1) (a a1 : Nat) (P : Int) (E1 E2 : ByteArray) (hw1 : Hid (IntKind.i64.wrap (p0 + (a : Int)) = P)) (hw2 : Hid (IntKind.i64.wrap ((a : Int) + 1) = (a1 : Int))) (hz1 : Hid ((a : Int) < (x0.size : Int))) (hz2 : Hid ((a1 : Int) ≤ (x0.size : Int))) (hE1 : Hid (x0.extract 0 a = E1)) (hE2 : Hid (x0.extract a1 x0.size = E2)) (hXs : Hid (¬ 9223372036854775807 < E1.size + E2.size)) (LB LG : List Int) (hLB : Hid (bad0.flatMap (Ln.loseB P) = LB)) (hLG : Hid (Ln.mark (Ln.loseF P gap0) P = LG))
    (hbb : Hid (∀ y ∈ bad0, 0 ≤ y ∧ y ≤ 10000000000)) (hgb : Hid (∀ y ∈ gap0, 0 ≤ y ∧ y ≤ 10000000000)) :
    Calls Try.prog 28 #[.agg #[.string x0, .int .i64 p0, .slice b0 bn0 bc0, .slice g0 gn0 gc0, .string x1, .int .i64 p1, .slice b1 bn1 bc1, .slice g1 gn1 gc1, .bool true], .int .i64 0, .int .i64 a] w fun e w' => RPost ((E1 ++ E2)) (p0) (LB.length) (LG.length) (x1) (p1) (bn1) (gn1) (true) (LB) (LG) (bad1) (gap1) (.int .i64 0) w e w' := by
  obtain ⟨s_b0, q_b0, s_g0, q_g0, s_b1, q_b1, s_g1, q_g1⟩ := hR0
  have HO : Hid (∀ W, Below w.heap.size w W → Calls Try.prog 44 #[.agg #[.string x0, .int .i64 p0, .slice b0 bn0 bc0, .slice g0 gn0 gc0, .string x1, .int .i64 p1, .slice b1 bn1 bc1, .slice g1 gn1 gc1, .bool true]] W fun e w' => OwnPost x0 p0 bn0 gn0 x1 p1 bn1 gn1 true bad0 gap0 bad1 gap1 W e w') := fun W hW => rown_cells x0 p0 b0 bn0 bc0 g0 gn0 gc0 x1 p1 b1 bn1 bc1 g1 gn1 gc1 true bad0 gap0 bad1 gap1 W h_bn0 h_gn0 h_bn1 h_gn1 l_bn0 l_gn0 l_bn1 l_gn1 ⟨s_b0.below hW, q_b0, s_g0.below hW, q_g0, s_b1.below hW, q_b1, s_g1.below hW, q_g1⟩
  clear s_b0 q_b0 s_g0 q_g0 s_b1 q_b1 s_g1 q_g1
  have kB1 : Rg.Bk w.heap.size [.string x0, .int .i64 p0, .slice b0 bn0 bc0, .slice g0 gn0 gc0, .string x1, .int .i64 p1, .slice b1 bn1 bc1, .slice g1 gn1 gc1, .bool true] 30 ((w.alloc (.cells #[.string x0, .int .i64 p0, .slice b0 bn0 bc0, .slice g0 gn0 gc0, .string x1, .int .i64 p1, .slice b1 bn1 bc1, .slice g1 gn1 gc1, .bool true] 30)).alloc (.cells #[.string ⟨#[]⟩, .int .i64 0, .slice none 0 0, .slice none 0 0, .string ⟨#[]⟩, .int .i64 0, .slice none 0 0, .slice none 0 0, .bool false] 30)) := (Rg.Bk.new rfl).old _
  have kR1 : Rg.Bk (w.heap.size + 1) [.string ⟨#[]⟩, .int .i64 0, .slice none 0 0, .slice none 0 0, .string ⟨#[]⟩, .int .i64 0, .slice none 0 0, .slice none 0 0, .bool false] 30 ((w.alloc (.cells #[.string x0, .int .i64 p0, .slice b0 bn0 bc0, .slice g0 gn0 gc0, .string x1, .int .i64 p1, .slice b1 bn1 bc1, .slice g1 gn1 gc1, .bool true] 30)).alloc (.cells #[.string ⟨#[]⟩, .int .i64 0, .slice none 0 0, .slice none 0 0, .string ⟨#[]⟩, .int .i64 0, .slice none 0 0, .slice none 0 0, .bool false] 30)) := Rg.Bk.new (by simp)
  have hb1 := Rg.al2 w (.cells #[.string x0, .int .i64 p0, .slice b0 bn0 bc0, .slice g0 gn0 gc0, .string x1, .int .i64 p1, .slice b1 bn1 bc1, .slice g1 gn1 gc1, .bool true] 30) (.cells #[.string ⟨#[]⟩, .int .i64 0, .slice none 0 0, .slice none 0 0, .string ⟨#[]⟩, .int .i64 0, .slice none 0 0, .slice none 0 0, .bool false] 30)
  go_enter Try.func28, Try.ntmps28
  go_upto_region 1 with fail
  generalize World.alloc _ _ = w1 at *
  obtain ⟨B, hB⟩ : ∃ B, B = w.heap.size := ⟨_, rfl⟩
  obtain ⟨R, hR⟩ : ∃ R, R = w.heap.size + 1 := ⟨_, rfl⟩
  rw [← hR] at kR1 ⊢
  rw [← hB] at kB1 ⊢
  have hBR : B ≠ R := by omega
  have hBw : w.heap.size ≤ B := by omega
  have hRw : w.heap.size ≤ R := by omega
  clear hB hR
  have z0 : w1.cell? ⟨B, 0, none⟩ = some (.string x0) := kB1.cell 0
  have z1 : w1.cell? ⟨B, 1, none⟩ = some (.int .i64 p0) := kB1.cell 1
  have z2 : w1.cell? ⟨B, 2, none⟩ = some (.slice b0 bn0 bc0) := kB1.cell 2
  have z3 : w1.cell? ⟨B, 3, none⟩ = some (.slice g0 gn0 gc0) := kB1.cell 3
  have z4 : w1.cell? ⟨B, 4, none⟩ = some (.string x1) := kB1.cell 4
  have z5 : w1.cell? ⟨B, 5, none⟩ = some (.int .i64 p1) := kB1.cell 5
  have z6 : w1.cell? ⟨B, 6, none⟩ = some (.slice b1 bn1 bc1) := kB1.cell 6
  have z7 : w1.cell? ⟨B, 7, none⟩ = some (.slice g1 gn1 gc1) := kB1.cell 7
  have z8 : w1.cell? ⟨B, 8, none⟩ = some (.bool true) := kB1.cell 8
  replace kB1 := Rg.hid kB1
  replace kR1 := Rg.hid kR1
  replace hb1 := Rg.hid hb1
  go_upto_region 2 with (go_at_call 44; refine (HO.out _ hb1.out).mono ?_; rintro e w2 ⟨b0', bc0', g0', gc0', b1', bc1', g1', gc1', rfl, ⟨r_b0, q_b0, r_g0, q_g0, r_b1, q_b1, r_g1, q_g1⟩, b2⟩; have kB2 := kB1.out.below b2 kB1.out.lt; have y0 := kB2.cell 0; have y1 := kB2.cell 1; have y2 := kB2.cell 2; have y3 := kB2.cell 3; have y4 := kB2.cell 4; have y5 := kB2.cell 5; have y6 := kB2.cell 6; have y7 := kB2.cell 7; have y8 := kB2.cell 8; simp only [List.getElem?_cons_zero, List.getElem?_cons_succ] at y0 y1 y2 y3 y4 y5 y6 y7 y8; have yf := kB2.thaw)
  obtain ⟨kB3, oB⟩ := ret9 kB2 rfl (.string x0) (.int .i64 p0) (.slice b0' bn0 bc0') (.slice g0' gn0 gc0') (.string x1) (.int .i64 p1) (.slice b1' bn1 bc1') (.slice g1' gn1 gc1') (.bool true)
  replace r_b0 := Rg.hid (r_b0.only kB2 line_int oB)
  replace r_g0 := Rg.hid (r_g0.only kB2 line_int oB)
  replace r_b1 := Rg.hid (r_b1.only kB2 line_int oB)
  replace r_g1 := Rg.hid (r_g1.only kB2 line_int oB)
  have kR3 := (kR1.out.below b2 kR1.out.lt).same (oB.block _ (Ne.symm hBR))
  have hb3 := Rg.hid ((Rg.chain hb1.out b2).trans (oB.bel hBw))
  clear kB1 kR1 hb1 kB2 oB b2 yf y0 y1 y2 y3 y4 y5 y6 y7 y8 z0 z1 z2 z3 z4 z5 z6 z7 z8 HO
  generalize World.setCell _ _ _ = w3 at *
  have HT : Hid (∀ W, Calls Try.prog 45 #[.agg #[.string x0, .int .i64 p0, .slice b0' bn0 bc0', .slice g0' gn0 gc0', .string x1, .int .i64 p1, .slice b1' bn1 bc1', .slice g1' gn1 gc1', .bool true], .int .i64 0, .int .i64 a] W fun e w' => e = .returned (.bool true) ∧ Below W.heap.size W w') := fun W => by
    have := rthere_up0 x0 p0 b0' bn0 bc0' g0' gn0 gc0' x1 p1 b1' bn1 bc1' g1' gn1 gc1' (a : Int) W
    rw [show decide (0 ≤ (a : Int) ∧ (a : Int) < (x0.size : Int)) = true by simp only [decide_eq_true_eq]; have := hz1.out; omega] at this
    exact this
  have u0 : w3.cell? ⟨B, 0, none⟩ = some (.string x0) := kB3.cell 0
  have u1 : w3.cell? ⟨B, 1, none⟩ = some (.int .i64 p0) := kB3.cell 1
  have u2 : w3.cell? ⟨B, 2, none⟩ = some (.slice b0' bn0 bc0') := kB3.cell 2
  have u3 : w3.cell? ⟨B, 3, none⟩ = some (.slice g0' gn0 gc0') := kB3.cell 3
  have u4 : w3.cell? ⟨B, 4, none⟩ = some (.string x1) := kB3.cell 4
  have u5 : w3.cell? ⟨B, 5, none⟩ = some (.int .i64 p1) := kB3.cell 5
  have u6 : w3.cell? ⟨B, 6, none⟩ = some (.slice b1' bn1 bc1') := kB3.cell 6
  have u7 : w3.cell? ⟨B, 7, none⟩ = some (.slice g1' gn1 gc1') := kB3.cell 7
  have u8 : w3.cell? ⟨B, 8, none⟩ = some (.bool true) := kB3.cell 8
  replace kB3 := Rg.hid kB3
  replace kR3 := Rg.hid kR3
  go_upto_region 4 with (go_at_call 45; refine (HT.out _).mono ?_; rintro e w4 ⟨rfl, b4⟩)
  have kB4 := kB3.out.below b4 kB3.out.lt
  have kR4 := Rg.hid (kR3.out.below b4 kR3.out.lt)
  have hb4 := Rg.hid (Rg.chain hb3.out b4)
  replace r_b0 := Rg.hid (r_b0.out.below b4)
  replace r_g0 := Rg.hid (r_g0.out.below b4)
  replace r_b1 := Rg.hid (r_b1.out.below b4)
  replace r_g1 := Rg.hid (r_g1.out.below b4)
  clear kB3 kR3 hb3 b4 HT u0 u1 u2 u3 u4 u5 u6 u7 u8
  have u0 : w4.cell? ⟨B, 0, none⟩ = some (.string x0) := kB4.cell 0
  have u1 : w4.cell? ⟨B, 1, none⟩ = some (.int .i64 p0) := kB4.cell 1
  have u2 : w4.cell? ⟨B, 2, none⟩ = some (.slice b0' bn0 bc0') := kB4.cell 2
  have u3 : w4.cell? ⟨B, 3, none⟩ = some (.slice g0' gn0 gc0') := kB4.cell 3
  have hBl := kB4.lt
  have kD5 : Rg.Bk w4.heap.size [.string x0, .int .i64 p0, .slice b0' bn0 bc0', .slice g0' gn0 gc0'] 27 (w4.alloc (.cells #[.string x0, .int .i64 p0, .slice b0' bn0 bc0', .slice g0' gn0 gc0'] 27)) := Rg.Bk.new rfl
  have kB5 := Rg.hid (kB4.old (.cells #[.string x0, .int .i64 p0, .slice b0' bn0 bc0', .slice g0' gn0 gc0'] 27))
  have kR5 := Rg.hid (kR4.out.old (.cells #[.string x0, .int .i64 p0, .slice b0' bn0 bc0', .slice g0' gn0 gc0'] 27))
  have hb5 := Rg.hid (Rg.chain hb4.out (Rg.al1 w4 (.cells #[.string x0, .int .i64 p0, .slice b0' bn0 bc0', .slice g0' gn0 gc0'] 27)))
  replace r_b0 := Rg.hid (r_b0.out.below (Rg.al1 w4 (.cells #[.string x0, .int .i64 p0, .slice b0' bn0 bc0', .slice g0' gn0 gc0'] 27)))
  replace r_g0 := Rg.hid (r_g0.out.below (Rg.al1 w4 (.cells #[.string x0, .int .i64 p0, .slice b0' bn0 bc0', .slice g0' gn0 gc0'] 27)))
  replace r_b1 := Rg.hid (r_b1.out.below (Rg.al1 w4 (.cells #[.string x0, .int .i64 p0, .slice b0' bn0 bc0', .slice g0' gn0 gc0'] 27)))
  replace r_g1 := Rg.hid (r_g1.out.below (Rg.al1 w4 (.cells #[.string x0, .int .i64 p0, .slice b0' bn0 bc0', .slice g0' gn0 gc0'] 27)))
  have hDB : w4.heap.size ≠ B := by omega
  have hDR : w4.heap.size ≠ R := by have := kR4.out.lt; omega
  have hDw : w.heap.size ≤ w4.heap.size := hb4.out.size
  clear kB4 kR4 hb4 hBl
  go_upto_region 5 with fail
  clear u0 u1 u2 u3
  generalize World.alloc _ _ = w5 at *
  generalize w4.heap.size = D at *
  have t1 : w5.cell? ⟨D, 1, none⟩ = some (.int .i64 p0) := kD5.cell 1
  have hw1' := hw1.out
  clear hw1
  go_upto_region 6 with fail
  clear t1 hw1'
  have t0 : w5.cell? ⟨D, 0, none⟩ = some (.string x0) := kD5.cell 0
  have tf := kD5.thaw
  have hw2' := hw2.out
  have hz0 : (0 : Int) ≤ (a : Int) := by omega
  have hz1' : (a : Int) ≤ (x0.size : Int) := by have := hz1.out; omega
  have hz2' : (a1 : Int) ≤ (x0.size : Int) := hz2.out
  have hz3 : (0 : Int) ≤ (a1 : Int) := by omega
  have hE1' := hE1.out
  have hE2' := hE2.out
  have hXs' := hXs.out
  clear hw2 hz1 hz2 hE1 hE2 hXs
  have kD6 : Rg.Bk D [.string (E1 ++ E2), .int .i64 p0, .slice b0' bn0 bc0', .slice g0' gn0 gc0'] 27 (w5.setCell ⟨D, 0, none⟩ (.string (E1 ++ E2))).drew := kD5.set 0 (.string (E1 ++ E2))
  have oD6 : Rg.Only D w5 (w5.setCell ⟨D, 0, none⟩ (.string (E1 ++ E2))).drew := (Rg.Only.setCell w5 D 0 (.string (E1 ++ E2))).trans (Rg.Only.drew _ _)
  have kB6 := Rg.hid (kB5.out.same (oD6.block B (Ne.symm hDB)))
  have kR6 := Rg.hid (kR5.out.same (oD6.block R (Ne.symm hDR)))
  have hb6 := Rg.hid (hb5.out.trans (oD6.bel hDw))
  replace r_b0 := Rg.hid (r_b0.out.only kD5 way_int oD6)
  replace r_g0 := Rg.hid (r_g0.out.only kD5 way_int oD6)
  replace r_b1 := Rg.hid (r_b1.out.only kD5 way_int oD6)
  replace r_g1 := Rg.hid (r_g1.out.only kD5 way_int oD6)
  replace kD6 := Rg.hid kD6
  clear kD5 oD6 kB5 kR5 hb5
  go_region
  generalize World.drew _ = w7 at *
  clear t0 tf hw2' hz0 hz1' hz2' hz3 hE1' hE2' hXs'
  have t2 : w7.cell? ⟨D, 2, none⟩ = some (.slice b0' bn0 bc0') := kD6.out.cell 2
  go_wp2
  clear t2
  go_loopw [10, 46] (fun va vi wr => ∃ (i M : Nat) (ya : Option Addr) (yc : Nat), i ≤ bn0 ∧ vi = .int .i64 i ∧ va = .slice ya M yc ∧ Hid (M = ((bad0.take i).flatMap (Ln.loseB P)).length) ∧ Hid (SI w7.heap.size wr ya yc ((bad0.take i).flatMap (Ln.loseB P))) ∧ Below w7.heap.size w7 wr) (fun _ vi _ => bn0 - (intOf vi).toNat)
  case atStart => exact ⟨0, 0, none, 0, Nat.zero_le _, rfl, rfl, rfl, .inl ⟨rfl, rfl, rfl⟩, Below.refl _ _⟩
  case round =>
    obtain ⟨i, M, ya, yc, hin, rfl, rfl, hM, hS, hbw⟩ := hrel
    by_cases hlt0 : i < bn0
    · have hlt : i < bad0.length := by rw [← h_bn0.out]; exact hlt0
      obtain ⟨ba, bo, hbe, -, -⟩ : ∃ b o, b0' = some ⟨b, o, none⟩ ∧ b < w7.heap.size ∧ Rg.At w7 b o (intE.flat bad0) := by
        rcases r_b0.out.1 with ⟨h, h'⟩ | h
        · rw [h'] at hlt; simp at hlt
        · exact h
      subst hbe
      have c1 : wr.cell? ⟨ba, bo + i, none⟩ = some (.int .i64 bad0[i]) := (r_b0.out.below hbw).cell hlt
      have hx := hbb.out bad0[i] (List.getElem_mem hlt)
      have hst := Rg.hid (Ln.loseB_step P hlt)
      have hMl : M ≤ 1000000000 := by have := Ln.loseB_len P (bad0.take i); rw [← hM.out, List.length_take] at this; omega
      have hz0 : (0 : Int) ≤ (i : Int) := by omega
      have hz1 : (i : Int) < (bn0 : Int) := by omega
      generalize bad0[i] = x at *
      clear hlt
      by_cases ha : x < P
      · have d1 : decide (x < P) = true := by simp only [decide_eq_true_eq]; exact ha
        have d2 : decide (P < x) = false := by simp only [decide_eq_false_iff_not]; omega
        obtain ⟨a', c', W', hap, hS', hb'⟩ := app_si (hS.out.below (Rg.al1 wr (.cells #[.int .i64 x] 3))) (Nat.le_trans hbw.size (Rg.al1 _ _).size) x wr.heap.size (Rg.Bk.new rfl) (by rw [← hM.out]; exact hMl)
        have hM' : Hid (M + 1 = ((bad0.take (i + 1)).flatMap (Ln.loseB P)).length) := by show _ = _; rw [hst.out, List.length_append, Ln.loseB, if_pos ha, ← hM.out]; rfl
        have hS2 : Hid (SI w7.heap.size W' a' c' ((bad0.take (i + 1)).flatMap (Ln.loseB P))) := by show SI _ _ _ _ _; rw [hst.out, Ln.loseB, if_pos ha]; exact hS'
        rw [← hM.out] at hap
        replace hap := Rg.hid hap
        have hbw' := Rg.hid ((hbw.trans ((Rg.al1 _ _).mono hbw.size)).trans hb')
        clear hS' hb' hS hM hst ha hx hbw
        go_wp2_with (at_builtin; refine Rg.wpList_append_run rfl (.tmp 53) (.tmp 55) 25 rfl _ _ rfl rfl _ _ hap.out ?_)
        go_roundw
        case rel => exact ⟨i + 1, M + 1, a', c', by omega, by go_num, rfl, hM', hS2, hbw'.out⟩
        case measure => simp [intOf]; omega
      · have d1 : decide (x < P) = false := by simp only [decide_eq_false_iff_not]; exact ha
        by_cases hgt : P < x
        · have d2 : decide (P < x) = true := by simp only [decide_eq_true_eq]; exact hgt
          obtain ⟨X1, hX1⟩ : ∃ X1 : Int, X1 = x - 1 := ⟨_, rfl⟩
          have hwx : IntKind.i64.wrap (x - 1) = X1 := by rw [IntKind.wrap_i64]; omega
          have hwx' : wrap64 (x - 1) = X1 := by unfold wrap64; omega
          obtain ⟨a', c', W', hap, hS', hb'⟩ := app_si (hS.out.below (Rg.al1 wr (.cells #[.int .i64 X1] 3))) (Nat.le_trans hbw.size (Rg.al1 _ _).size) X1 wr.heap.size (Rg.Bk.new rfl) (by rw [← hM.out]; exact hMl)
          have hM' : Hid (M + 1 = ((bad0.take (i + 1)).flatMap (Ln.loseB P)).length) := by show _ = _; rw [hst.out, List.length_append, Ln.loseB, if_neg ha, if_pos hgt, ← hM.out]; rfl
          have hS2 : Hid (SI w7.heap.size W' a' c' ((bad0.take (i + 1)).flatMap (Ln.loseB P))) := by show SI _ _ _ _ _; rw [hst.out, Ln.loseB, if_neg ha, if_pos hgt, ← hX1]; exact hS'
          rw [← hM.out] at hap
          replace hap := Rg.hid hap
          have hbw' := Rg.hid ((hbw.trans ((Rg.al1 _ _).mono hbw.size)).trans hb')
          clear hS' hb' hS hM hst ha hx hbw hX1 hgt
          go_wp2_with (at_builtin; refine Rg.wpList_append_run rfl (.tmp 60) (.tmp 63) 25 rfl _ _ rfl rfl _ _ hap.out ?_)
          go_roundw
          case rel => exact ⟨i + 1, M + 1, a', c', by omega, by go_num, rfl, hM', hS2, hbw'.out⟩
          case measure => simp [intOf]; omega
        · have d2 : decide (P < x) = false := by simp only [decide_eq_false_iff_not]; exact hgt
          have hM' : Hid (M = ((bad0.take (i + 1)).flatMap (Ln.loseB P)).length) := by show _ = _; rw [hst.out, List.length_append, Ln.loseB, if_neg ha, if_neg hgt, ← hM.out]; rfl
          have hS2 : Hid (SI w7.heap.size wr ya yc ((bad0.take (i + 1)).flatMap (Ln.loseB P))) := by show SI _ _ _ _ _; rw [hst.out, Ln.loseB, if_neg ha, if_neg hgt, List.append_nil]; exact hS.out
          clear hS hM hst ha hx hgt
          go_wp2
          go_roundw
          case rel => exact ⟨i + 1, M, ya, yc, by omega, by go_num, rfl, hM', hS2, hbw⟩
          case measure => simp [intOf]; omega
    · have hie : i = bn0 := by omega
      subst i
      have hfull : bad0.take bn0 = bad0 := List.take_of_length_le (by rw [← h_bn0.out]; exact Nat.le_refl _)
      rw [hfull, hLB.out] at hM hS
      have hLBc := hS.out.le
      rw [← hM.out] at hLBc
      replace hS := Rg.hid hS.out.irow
      obtain ⟨w8, hw8⟩ : ∃ w8, w8 = wr := ⟨_, rfl⟩
      subst hw8
      have kD8 := Rg.hid (kD6.out.below hbw kD6.out.lt)
      have kB8 := Rg.hid (kB6.out.below hbw kB6.out.lt)
      have kR8 := Rg.hid (kR6.out.below hbw kR6.out.lt)
      have hb8 := Rg.hid (hb6.out.trans (hbw.mono hb6.out.size))
      replace r_b0 := Rg.hid (r_b0.out.below hbw)
      replace r_g0 := Rg.hid (r_g0.out.below hbw)
      replace r_b1 := Rg.hid (r_b1.out.below hbw)
      replace r_g1 := Rg.hid (r_g1.out.below hbw)
      clear hbw hin hlt0 hfull kD6 kB6 kR6 hb6
      have t3 : w8.cell? ⟨D, 3, none⟩ = some (.slice g0' gn0 gc0') := kD8.out.cell 3
      go_wp2
      clear t3
      go_loopw [11, 69] (fun va vi wr => ∃ (i M2 : Nat) (za : Option Addr) (zc : Nat), i ≤ gn0 ∧ vi = .int .i64 i ∧ va = .slice za M2 zc ∧ Hid (M2 = (Ln.loseF P (gap0.take i)).length) ∧ M2 ≤ zc ∧ Hid (IRow wr za (Ln.loseF P (gap0.take i))) ∧ Below w8.heap.size w8 wr) (fun _ vi _ => gn0 - (intOf vi).toNat)
      case atStart => exact ⟨0, 0, none, 0, Nat.zero_le _, rfl, rfl, rfl, Nat.le_refl _, IRow.nil, Below.refl _ _⟩
      case round =>
        obtain ⟨i, M2, za, zc, hin, rfl, rfl, hM2, hzc, hI, hbw⟩ := hrel
        by_cases hlt0 : i < gn0
        · have hlt : i < gap0.length := by rw [← h_gn0.out]; exact hlt0
          obtain ⟨ba, bo, hbe, -, -⟩ : ∃ b o, g0' = some ⟨b, o, none⟩ ∧ b < w8.heap.size ∧ Rg.At w8 b o (intE.flat gap0) := by
            rcases r_g0.out.1 with ⟨h, h'⟩ | h
            · rw [h'] at hlt; simp at hlt
            · exact h
          subst hbe
          have c1 : wr.cell? ⟨ba, bo + i, none⟩ = some (.int .i64 gap0[i]) := (r_g0.out.below hbw).cell hlt
          have hx := hgb.out gap0[i] (List.getElem_mem hlt)
          have hst := Rg.hid (Ln.loseF_step P hlt)
          have hMl : (Ln.loseF P (gap0.take i)).length ≤ 1000000000 := by have := Ln.loseF_len P (gap0.take i); rw [List.length_take] at this; omega
          have hz0 : (0 : Int) ≤ (i : Int) := by omega
          have hz1 : (i : Int) < (gn0 : Int) := by omega
          generalize gap0[i] = x at *
          clear hlt
          obtain ⟨X1, hX1⟩ : ∃ X1 : Int, X1 = Ln.loseG P x := ⟨_, rfl⟩
          obtain ⟨M3, hM3⟩ : ∃ M3, M3 = (Ln.mark (Ln.loseF P (gap0.take i)) X1).length := ⟨_, rfl⟩
          have HMk : Hid (∀ W, Below wr.heap.size wr W → Calls Try.prog 46 #[.slice za M2 zc, .int .i64 X1] W fun e w' => ∃ a9 c9, e = .returned (.slice a9 M3 c9) ∧ Hid (IRow w' a9 (Ln.loseF P (gap0.take (i + 1)))) ∧ M3 ≤ c9 ∧ Below w8.heap.size w8 w') := fun W hW => by
            have := rmark_any za zc (Ln.loseF P (gap0.take i)) X1 W hMl (Ln.loseF_up _ _) (by rw [← hM2.out]; exact hzc) (hI.out.below hW)
            rw [← hM2.out] at this
            refine this.mono fun e w' ⟨a9, c9, h1, h2, h3, h4⟩ => ⟨a9, c9, by rw [hM3]; exact h1, ?_, by rw [hM3]; exact h3, (hbw.trans (hW.mono hbw.size)).trans (h4.mono (Nat.le_trans hbw.size hW.size))⟩
            show IRow _ _ _
            rw [hst.out, ← hX1]; exact h2
          have hM3' : Hid (M3 = (Ln.loseF P (gap0.take (i + 1))).length) := by show _ = _; rw [hM3, hst.out, hX1]
          clear hM3 hMl hst hI hM2
          by_cases hgt : P < x
          · have d2 : decide (P < x) = true := by simp only [decide_eq_true_eq]; exact hgt
            have hwx : IntKind.i64.wrap (x - 1) = X1 := by rw [IntKind.wrap_i64, hX1, Ln.loseG, if_pos hgt]; omega
            have hwx' : wrap64 (x - 1) = X1 := by rw [hX1, Ln.loseG, if_pos hgt]; unfold wrap64; omega
            clear hX1 hgt hx
            go_wp2_with (go_at_call 46; refine (HMk.out _ (Below.refl _ _)).mono ?_; rintro e w9 ⟨a9, c9, rfl, hI9, hc9, b9⟩)
            go_roundw
            case rel => exact ⟨i + 1, M3, a9, c9, by omega, by go_num, rfl, hM3', hc9, hI9, b9⟩
            case measure => simp [intOf]; omega
          · have d2 : decide (P < x) = false := by simp only [decide_eq_false_iff_not]; exact hgt
            have hxe : X1 = x := by rw [hX1, Ln.loseG, if_neg hgt]
            clear hX1 hgt hx
            subst hxe
            go_wp2_with (go_at_call 46; refine (HMk.out _ (Below.refl _ _)).mono ?_; rintro e w9 ⟨a9, c9, rfl, hI9, hc9, b9⟩)
            go_roundw
            case rel => exact ⟨i + 1, M3, a9, c9, by omega, by go_num, rfl, hM3', hc9, hI9, b9⟩
            case measure => simp [intOf]; omega
        · have hie : i = gn0 := by omega
          subst i
          have hfull : gap0.take gn0 = gap0 := List.take_of_length_le (by rw [← h_gn0.out]; exact Nat.le_refl _)
          rw [hfull] at hM2 hI
          have HMk : Hid (∀ W, IRow W za (Ln.loseF P gap0) → Calls Try.prog 46 #[.slice za M2 zc, .int .i64 P] W fun e w' => ∃ a9 c9, e = .returned (.slice a9 LG.length c9) ∧ Hid (IRow w' a9 LG) ∧ LG.length ≤ c9 ∧ Below W.heap.size W w') := fun W hW => by
            have := rmark_any za zc (Ln.loseF P gap0) P W (by have := Ln.loseF_len P gap0; rw [← h_gn0.out] at this; omega) (Ln.loseF_up _ _) (by rw [← hM2.out]; exact hzc) hW
            rw [← hM2.out, hLG.out] at this
            exact this.mono fun e w' ⟨a9, c9, h1, h2, h3, h4⟩ => ⟨a9, c9, h1, h2, h3, h4⟩
          have hMe := hM.out
          subst hMe
          clear hM hM2 hzc hfull hLB hLG hin hlt0 hgb hbb
          obtain ⟨w10, hw10⟩ : ∃ w10, w10 = wr := ⟨_, rfl⟩
          subst hw10
          have kD10 := kD8.out.below hbw kD8.out.lt
          have kB10 := kB8.out.below hbw kB8.out.lt
          have kR10 := kR8.out.below hbw kR8.out.lt
          have hb10 := hb8.out.trans (hbw.mono hb8.out.size)
          have oD11 := Rg.Only.setCell w10 D 2 (.slice ya LB.length yc)
          have kD11 : Rg.Bk D [.string (E1 ++ E2), .int .i64 p0, .slice ya LB.length yc, .slice g0' gn0 gc0'] 27 (w10.setCell ⟨D, 2, none⟩ (.slice ya LB.length yc)) := kD10.set 2 _
          have kB11 := Rg.hid (kB10.same (oD11.block B (Ne.symm hDB)))
          have kR11 := Rg.hid (kR10.same (oD11.block R (Ne.symm hDR)))
          have hb11 := Rg.hid (hb10.trans (oD11.bel hDw))
          replace r_b1 := Rg.hid ((r_b1.out.below hbw).only kD10 way_int oD11)
          replace r_g1 := Rg.hid ((r_g1.out.below hbw).only kD10 way_int oD11)
          replace r_b0 := Rg.hid ((hS.out.below hbw).only kD10 way_int oD11)
          replace hI := Rg.hid (hI.out.only kD10 way_int oD11)
          have t2 : w10.cell? ⟨D, 2, none⟩ = some (.slice b0' bn0 bc0') := kD10.cell 2
          have tf := kD10.thaw
          replace kD11 := Rg.hid kD11
          clear r_g0 hS kD8 kB8 kR8 hb8 kD10 kB10 kR10 hb10 oD11 hbw
          go_upto_region 24 with fail
          clear t2 tf
          generalize World.setCell _ _ _ = w11 at *
          go_upto_region 25 with (go_at_call 46; refine (HMk.out _ hI.out).mono ?_; rintro e w12 ⟨a9, c9, rfl, hI9, hc9, b9⟩; have kD12 := kD11.out.below b9 kD11.out.lt; have tf := kD12.thaw; have t3 := kD12.cell 3; simp only [List.getElem?_cons_zero, List.getElem?_cons_succ] at t3)
          have oD13 := Rg.Only.setCell w12 D 3 (.slice a9 LG.length c9)
          have kD13 : Rg.Bk D [.string (E1 ++ E2), .int .i64 p0, .slice ya LB.length yc, .slice a9 LG.length c9] 27 (w12.setCell ⟨D, 3, none⟩ (.slice a9 LG.length c9)) := kD12.set 3 _
          have kB13 := (kB11.out.below b9 kB11.out.lt).same (oD13.block B (Ne.symm hDB))
          have kR13 := Rg.hid ((kR11.out.below b9 kR11.out.lt).same (oD13.block R (Ne.symm hDR)))
          have hb13 := Rg.hid ((Rg.chain hb11.out b9).trans (oD13.bel hDw))
          replace r_b1 := Rg.hid ((r_b1.out.below b9).only kD12 way_int oD13)
          replace r_g1 := Rg.hid ((r_g1.out.below b9).only kD12 way_int oD13)
          replace r_b0 := Rg.hid ((r_b0.out.below b9).only kD12 way_int oD13)
          have r_g0 := Rg.hid (hI9.out.only kD12 way_int oD13)
          clear kD12 tf t3 oD13 kB11 kR11 hb11 hI hI9 b9 HMk kD11
          generalize World.setCell _ _ _ = w13 at *
          have t0 : w13.cell? ⟨D, 0, none⟩ = some (.string (E1 ++ E2)) := kD13.cell 0
          have t1 : w13.cell? ⟨D, 1, none⟩ = some (.int .i64 p0) := kD13.cell 1
          have t2 : w13.cell? ⟨D, 2, none⟩ = some (.slice ya LB.length yc) := kD13.cell 2
          have t3 : w13.cell? ⟨D, 3, none⟩ = some (.slice a9 LG.length c9) := kD13.cell 3
          have u0 : w13.cell? ⟨B, 0, none⟩ = some (.string x0) := kB13.cell 0
          have u1 : w13.cell? ⟨B, 1, none⟩ = some (.int .i64 p0) := kB13.cell 1
          have u2 : w13.cell? ⟨B, 2, none⟩ = some (.slice b0' bn0 bc0') := kB13.cell 2
          have u3 : w13.cell? ⟨B, 3, none⟩ = some (.slice g0' gn0 gc0') := kB13.cell 3
          have uf := kB13.thaw
          have oB14 := (((Rg.Only.setCell w13 B 0 (.string (E1 ++ E2))).trans (Rg.Only.setCell _ B 1 (.int .i64 p0))).trans (Rg.Only.setCell _ B 2 (.slice ya LB.length yc))).trans (Rg.Only.setCell _ B 3 (.slice a9 LG.length c9))
          have kB14 : Rg.Bk B [.string (E1 ++ E2), .int .i64 p0, .slice ya LB.length yc, .slice a9 LG.length c9, .string x1, .int .i64 p1, .slice b1' bn1 bc1', .slice g1' gn1 gc1', .bool true] 30 ((((w13.setCell ⟨B, 0, none⟩ (.string (E1 ++ E2))).setCell ⟨B, 1, none⟩ (.int .i64 p0)).setCell ⟨B, 2, none⟩ (.slice ya LB.length yc)).setCell ⟨B, 3, none⟩ (.slice a9 LG.length c9)) := (((kB13.set 0 (.string (E1 ++ E2))).set 1 (.int .i64 p0)).set 2 (.slice ya LB.length yc)).set 3 (.slice a9 LG.length c9)
          have kR14 := kR13.out.same (oB14.block R (Ne.symm hBR))
          have hb14 := Rg.hid (hb13.out.trans (oB14.bel hBw))
          replace r_b0 := Rg.hid (r_b0.out.only kB13 line_int oB14)
          replace r_g0 := Rg.hid (r_g0.out.only kB13 line_int oB14)
          replace r_b1 := Rg.hid (r_b1.out.only kB13 line_int oB14)
          replace r_g1 := Rg.hid (r_g1.out.only kB13 line_int oB14)
          replace kB14 := Rg.hid kB14
          replace kR14 := Rg.hid kR14
          clear oB14 kR13 hb13 kB13 kD13
          go_upto_region 26 with fail
          clear t0 t1 t2 t3 u0 u1 u2 u3 uf
          generalize World.setCell _ _ _ = w14 at *
          replace kB14 := kB14.out
          replace kR14 := kR14.out
          obtain ⟨kE, oE⟩ := ret9 kR14 rfl (.string (E1 ++ E2)) (.int .i64 p0) (.slice ya LB.length yc) (.slice a9 LG.length c9) (.string x1) (.int .i64 p1) (.slice b1' bn1 bc1') (.slice g1' gn1 gc1') (.bool true)
          have post := Rg.hid ((⟨_, _, _, _, _, _, _, _, rfl, ⟨r_b0.out.only kR14 line_int oE, hLBc, r_g0.out.only kR14 line_int oE, hc9, r_b1.out.only kR14 line_int oE, q_b1, r_g1.out.only kR14 line_int oE, q_g1⟩, hb14.out.trans (oE.bel hRw)⟩ : RPost (E1 ++ E2) (p0) (LB.length) (LG.length) (x1) (p1) (bn1) (gn1) (true) (LB) (LG) (bad1) (gap1) (.int .i64 0) w (.returned (.tuple #[.agg #[.string (E1 ++ E2), .int .i64 p0, .slice ya LB.length yc, .slice a9 LG.length c9, .string x1, .int .i64 p1, .slice b1' bn1 bc1', .slice g1' gn1 gc1', .bool true], .int .i64 0])) _))
          replace kE := Rg.hid kE
          have d0' : w14.cell? ⟨B, 0, none⟩ = some (.string (E1 ++ E2)) := kB14.cell 0
          have d1' : w14.cell? ⟨B, 1, none⟩ = some (.int .i64 p0) := kB14.cell 1
          have d2' : w14.cell? ⟨B, 2, none⟩ = some (.slice ya LB.length yc) := kB14.cell 2
          have d3' : w14.cell? ⟨B, 3, none⟩ = some (.slice a9 LG.length c9) := kB14.cell 3
          have d4' : w14.cell? ⟨B, 4, none⟩ = some (.string x1) := kB14.cell 4
          have d5' : w14.cell? ⟨B, 5, none⟩ = some (.int .i64 p1) := kB14.cell 5
          have d6' : w14.cell? ⟨B, 6, none⟩ = some (.slice b1' bn1 bc1') := kB14.cell 6
          have d7' : w14.cell? ⟨B, 7, none⟩ = some (.slice g1' gn1 gc1') := kB14.cell 7
          have d8' : w14.cell? ⟨B, 8, none⟩ = some (.bool true) := kB14.cell 8
          have r0 : w14.cell? ⟨R, 0, none⟩ = some (.string ⟨#[]⟩) := kR14.cell 0
          have r1 : w14.cell? ⟨R, 1, none⟩ = some (.int .i64 0) := kR14.cell 1
          have r2 : w14.cell? ⟨R, 2, none⟩ = some (.slice none 0 0) := kR14.cell 2
          have r3 : w14.cell? ⟨R, 3, none⟩ = some (.slice none 0 0) := kR14.cell 3
          have r4 : w14.cell? ⟨R, 4, none⟩ = some (.string ⟨#[]⟩) := kR14.cell 4
          have r5 : w14.cell? ⟨R, 5, none⟩ = some (.int .i64 0) := kR14.cell 5
          have r6 : w14.cell? ⟨R, 6, none⟩ = some (.slice none 0 0) := kR14.cell 6
          have r7 : w14.cell? ⟨R, 7, none⟩ = some (.slice none 0 0) := kR14.cell 7
          have r8 : w14.cell? ⟨R, 8, none⟩ = some (.bool false) := kR14.cell 8
          have rf := kR14.thaw
          clear oE kR14 kB14 hb14
          go_wp2
          replace kE := kE.out
          replace post := post.out
          generalize World.setCell _ _ _ = WE at *
          exact bodyPost_ret (v := .tuple #[.agg #[.string (E1 ++ E2), .int .i64 p0, .slice ya LB.length yc, .slice a9 LG.length c9, .string x1, .int .i64 p1, .slice b1' bn1 bc1', .slice g1' gn1 gc1', .bool true], .int .i64 0]) (by simp [results, Try.results28, go_sem, kE.cell]) rfl post

set_option maxHeartbeats 1000000 in
set_option maxRecDepth 100000 in
theorem rlose_ok1 (x0 : ByteArray) (p0 : Int) (b0 : Option Addr) (bn0 bc0 : Nat) (g0 : Option Addr) (gn0 gc0 : Nat) (x1 : ByteArray) (p1 : Int) (b1 : Option Addr) (bn1 bc1 : Nat) (g1 : Option Addr) (gn1 gc1 : Nat) (bad0 gap0 bad1 gap1 : List Int) (h_bn0 : Hid (bn0 = bad0.length)) (h_gn0 : Hid (gn0 = gap0.length)) (h_bn1 : Hid (bn1 = bad1.length)) (h_gn1 : Hid (gn1 = gap1.length)) (l_bn0 : bn0 ≤ 1000000000) (l_gn0 : gn0 ≤ 1000000000) (l_bn1 : bn1 ≤ 1000000000) (l_gn1 : gn1 ≤ 1000000000) (w : World) (hR0 : IRow w b0 bad0 ∧ bn0 ≤ bc0 ∧ IRow w g0 gap0 ∧ gn0 ≤ gc0 ∧ IRow w b1 bad1 ∧ bn1 ≤ bc1 ∧ IRow w g1 gap1 ∧ gn1 ≤ gc1) (a a1 : Nat) (P : Int) (E1 E2 : ByteArray) (hw1 : Hid (IntKind.i64.wrap (p1 + (a : Int)) = P)) (hw2 : Hid (IntKind.i64.wrap ((a : Int) + 1) = (a1 : Int))) (hz1 : Hid ((a : Int) < (x1.size : Int))) (hz2 : Hid ((a1 : Int) ≤ (x1.size : Int))) (hE1 : Hid (x1.extract 0 a = E1)) (hE2 : Hid (x1.extract a1 x1.size = E2)) (hXs : Hid (¬ 9223372036854775807 < E1.size + E2.size)) (LB LG : List Int) (hLB : Hid (bad1.flatMap (Ln.loseB P) = LB)) (hLG : Hid (Ln.mark (Ln.loseF P gap1) P = LG))
    (hbb : Hid (∀ y ∈ bad1, 0 ≤ y ∧ y ≤ 10000000000)) (hgb : Hid (∀ y ∈ gap1, 0 ≤ y ∧ y ≤ 10000000000)) :
    Calls Try.prog 28 #[.agg #[.string x0, .int .i64 p0, .slice b0 bn0 bc0, .slice g0 gn0 gc0, .string x1, .int .i64 p1, .slice b1 bn1 bc1, .slice g1 gn1 gc1, .bool true], .int .i64 1, .int .i64 a] w fun e w' => RPost (x0) (p0) (bn0) (gn0) ((E1 ++ E2)) (p1) (LB.length) (LG.length) (true) (bad0) (gap0) (LB) (LG) (.int .i64 0) w e w' := by
  obtain ⟨s_b0, q_b0, s_g0, q_g0, s_b1, q_b1, s_g1, q_g1⟩ := hR0
  have HO : Hid (∀ W, Below w.heap.size w W → Calls Try.prog 44 #[.agg #[.string x0, .int .i64 p0, .slice b0 bn0 bc0, .slice g0 gn0 gc0, .string x1, .int .i64 p1, .slice b1 bn1 bc1, .slice g1 gn1 gc1, .bool true]] W fun e w' => OwnPost x0 p0 bn0 gn0 x1 p1 bn1 gn1 true bad0 gap0 bad1 gap1 W e w') := fun W hW => rown_cells x0 p0 b0 bn0 bc0 g0 gn0 gc0 x1 p1 b1 bn1 bc1 g1 gn1 gc1 true bad0 gap0 bad1 gap1 W h_bn0 h_gn0 h_bn1 h_gn1 l_bn0 l_gn0 l_bn1 l_gn1 ⟨s_b0.below hW, q_b0, s_g0.below hW, q_g0, s_b1.below hW, q_b1, s_g1.below hW, q_g1⟩
  clear s_b0 q_b0 s_g0 q_g0 s_b1 q_b1 s_g1 q_g1
  have kB1 : Rg.Bk w.heap.size [.string x0, .int .i64 p0, .slice b0 bn0 bc0, .slice g0 gn0 gc0, .string x1, .int .i64 p1, .slice b1 bn1 bc1, .slice g1 gn1 gc1, .bool true] 30 ((w.alloc (.cells #[.string x0, .int .i64 p0, .slice b0 bn0 bc0, .slice g0 gn0 gc0, .string x1, .int .i64 p1, .slice b1 bn1 bc1, .slice g1 gn1 gc1, .bool true] 30)).alloc (.cells #[.string ⟨#[]⟩, .int .i64 0, .slice none 0 0, .slice none 0 0, .string ⟨#[]⟩, .int .i64 0, .slice none 0 0, .slice none 0 0, .bool false] 30)) := (Rg.Bk.new rfl).old _
  have kR1 : Rg.Bk (w.heap.size + 1) [.string ⟨#[]⟩, .int .i64 0, .slice none 0 0, .slice none 0 0, .string ⟨#[]⟩, .int .i64 0, .slice none 0 0, .slice none 0 0, .bool false] 30 ((w.alloc (.cells #[.string x0, .int .i64 p0, .slice b0 bn0 bc0, .slice g0 gn0 gc0, .string x1, .int .i64 p1, .slice b1 bn1 bc1, .slice g1 gn1 gc1, .bool true] 30)).alloc (.cells #[.string ⟨#[]⟩, .int .i64 0, .slice none 0 0, .slice none 0 0, .string ⟨#[]⟩, .int .i64 0, .slice none 0 0, .slice none 0 0, .bool false] 30)) := Rg.Bk.new (by simp)
  have hb1 := Rg.al2 w (.cells #[.string x0, .int .i64 p0, .slice b0 bn0 bc0, .slice g0 gn0 gc0, .string x1, .int .i64 p1, .slice b1 bn1 bc1, .slice g1 gn1 gc1, .bool true] 30) (.cells #[.string ⟨#[]⟩, .int .i64 0, .slice none 0 0, .slice none 0 0, .string ⟨#[]⟩, .int .i64 0, .slice none 0 0, .slice none 0 0, .bool false] 30)
  go_enter Try.func28, Try.ntmps28
  go_upto_region 1 with fail
  generalize World.alloc _ _ = w1 at *
  obtain ⟨B, hB⟩ : ∃ B, B = w.heap.size := ⟨_, rfl⟩
  obtain ⟨R, hR⟩ : ∃ R, R = w.heap.size + 1 := ⟨_, rfl⟩
  rw [← hR] at kR1 ⊢
  rw [← hB] at kB1 ⊢
  have hBR : B ≠ R := by omega
  have hBw : w.heap.size ≤ B := by omega
  have hRw : w.heap.size ≤ R := by omega
  clear hB hR
  have z0 : w1.cell? ⟨B, 0, none⟩ = some (.string x0) := kB1.cell 0
  have z1 : w1.cell? ⟨B, 1, none⟩ = some (.int .i64 p0) := kB1.cell 1
  have z2 : w1.cell? ⟨B, 2, none⟩ = some (.slice b0 bn0 bc0) := kB1.cell 2
  have z3 : w1.cell? ⟨B, 3, none⟩ = some (.slice g0 gn0 gc0) := kB1.cell 3
  have z4 : w1.cell? ⟨B, 4, none⟩ = some (.string x1) := kB1.cell 4
  have z5 : w1.cell? ⟨B, 5, none⟩ = some (.int .i64 p1) := kB1.cell 5
  have z6 : w1.cell? ⟨B, 6, none⟩ = some (.slice b1 bn1 bc1) := kB1.cell 6
  have z7 : w1.cell? ⟨B, 7, none⟩ = some (.slice g1 gn1 gc1) := kB1.cell 7
  have z8 : w1.cell? ⟨B, 8, none⟩ = some (.bool true) := kB1.cell 8
  replace kB1 := Rg.hid kB1
  replace kR1 := Rg.hid kR1
  replace hb1 := Rg.hid hb1
  go_upto_region 2 with (go_at_call 44; refine (HO.out _ hb1.out).mono ?_; rintro e w2 ⟨b0', bc0', g0', gc0', b1', bc1', g1', gc1', rfl, ⟨r_b0, q_b0, r_g0, q_g0, r_b1, q_b1, r_g1, q_g1⟩, b2⟩; have kB2 := kB1.out.below b2 kB1.out.lt; have y0 := kB2.cell 0; have y1 := kB2.cell 1; have y2 := kB2.cell 2; have y3 := kB2.cell 3; have y4 := kB2.cell 4; have y5 := kB2.cell 5; have y6 := kB2.cell 6; have y7 := kB2.cell 7; have y8 := kB2.cell 8; simp only [List.getElem?_cons_zero, List.getElem?_cons_succ] at y0 y1 y2 y3 y4 y5 y6 y7 y8; have yf := kB2.thaw)
  obtain ⟨kB3, oB⟩ := ret9 kB2 rfl (.string x0) (.int .i64 p0) (.slice b0' bn0 bc0') (.slice g0' gn0 gc0') (.string x1) (.int .i64 p1) (.slice b1' bn1 bc1') (.slice g1' gn1 gc1') (.bool true)
  replace r_b0 := Rg.hid (r_b0.only kB2 line_int oB)
  replace r_g0 := Rg.hid (r_g0.only kB2 line_int oB)
  replace r_b1 := Rg.hid (r_b1.only kB2 line_int oB)
  replace r_g1 := Rg.hid (r_g1.only kB2 line_int oB)
  have kR3 := (kR1.out.below b2 kR1.out.lt).same (oB.block _ (Ne.symm hBR))
  have hb3 := Rg.hid ((Rg.chain hb1.out b2).trans (oB.bel hBw))
  clear kB1 kR1 hb1 kB2 oB b2 yf y0 y1 y2 y3 y4 y5 y6 y7 y8 z0 z1 z2 z3 z4 z5 z6 z7 z8 HO
  generalize World.setCell _ _ _ = w3 at *
  have HT : Hid (∀ W, Calls Try.prog 45 #[.agg #[.string x0, .int .i64 p0, .slice b0' bn0 bc0', .slice g0' gn0 gc0', .string x1, .int .i64 p1, .slice b1' bn1 bc1', .slice g1' gn1 gc1', .bool true], .int .i64 1, .int .i64 a] W fun e w' => e = .returned (.bool true) ∧ Below W.heap.size W w') := fun W => by
    have := rthere_up1 x0 p0 b0' bn0 bc0' g0' gn0 gc0' x1 p1 b1' bn1 bc1' g1' gn1 gc1' (a : Int) W
    rw [show decide (0 ≤ (a : Int) ∧ (a : Int) < (x1.size : Int)) = true by simp only [decide_eq_true_eq]; have := hz1.out; omega] at this
    exact this
  have u0 : w3.cell? ⟨B, 0, none⟩ = some (.string x0) := kB3.cell 0
  have u1 : w3.cell? ⟨B, 1, none⟩ = some (.int .i64 p0) := kB3.cell 1
  have u2 : w3.cell? ⟨B, 2, none⟩ = some (.slice b0' bn0 bc0') := kB3.cell 2
  have u3 : w3.cell? ⟨B, 3, none⟩ = some (.slice g0' gn0 gc0') := kB3.cell 3
  have u4 : w3.cell? ⟨B, 4, none⟩ = some (.string x1) := kB3.cell 4
  have u5 : w3.cell? ⟨B, 5, none⟩ = some (.int .i64 p1) := kB3.cell 5
  have u6 : w3.cell? ⟨B, 6, none⟩ = some (.slice b1' bn1 bc1') := kB3.cell 6
  have u7 : w3.cell? ⟨B, 7, none⟩ = some (.slice g1' gn1 gc1') := kB3.cell 7
  have u8 : w3.cell? ⟨B, 8, none⟩ = some (.bool true) := kB3.cell 8
  replace kB3 := Rg.hid kB3
  replace kR3 := Rg.hid kR3
  go_upto_region 4 with (go_at_call 45; refine (HT.out _).mono ?_; rintro e w4 ⟨rfl, b4⟩)
  have kB4 := kB3.out.below b4 kB3.out.lt
  have kR4 := Rg.hid (kR3.out.below b4 kR3.out.lt)
  have hb4 := Rg.hid (Rg.chain hb3.out b4)
  replace r_b0 := Rg.hid (r_b0.out.below b4)
  replace r_g0 := Rg.hid (r_g0.out.below b4)
  replace r_b1 := Rg.hid (r_b1.out.below b4)
  replace r_g1 := Rg.hid (r_g1.out.below b4)
  clear kB3 kR3 hb3 b4 HT u0 u1 u2 u3 u4 u5 u6 u7 u8
  have u4 : w4.cell? ⟨B, 4, none⟩ = some (.string x1) := kB4.cell 4
  have u5 : w4.cell? ⟨B, 5, none⟩ = some (.int .i64 p1) := kB4.cell 5
  have u6 : w4.cell? ⟨B, 6, none⟩ = some (.slice b1' bn1 bc1') := kB4.cell 6
  have u7 : w4.cell? ⟨B, 7, none⟩ = some (.slice g1' gn1 gc1') := kB4.cell 7
  have hBl := kB4.lt
  have kD5 : Rg.Bk w4.heap.size [.string x1, .int .i64 p1, .slice b1' bn1 bc1', .slice g1' gn1 gc1'] 27 (w4.alloc (.cells #[.string x1, .int .i64 p1, .slice b1' bn1 bc1', .slice g1' gn1 gc1'] 27)) := Rg.Bk.new rfl
  have kB5 := Rg.hid (kB4.old (.cells #[.string x1, .int .i64 p1, .slice b1' bn1 bc1', .slice g1' gn1 gc1'] 27))
  have kR5 := Rg.hid (kR4.out.old (.cells #[.string x1, .int .i64 p1, .slice b1' bn1 bc1', .slice g1' gn1 gc1'] 27))
  have hb5 := Rg.hid (Rg.chain hb4.out (Rg.al1 w4 (.cells #[.string x1, .int .i64 p1, .slice b1' bn1 bc1', .slice g1' gn1 gc1'] 27)))
  replace r_b0 := Rg.hid (r_b0.out.below (Rg.al1 w4 (.cells #[.string x1, .int .i64 p1, .slice b1' bn1 bc1', .slice g1' gn1 gc1'] 27)))
  replace r_g0 := Rg.hid (r_g0.out.below (Rg.al1 w4 (.cells #[.string x1, .int .i64 p1, .slice b1' bn1 bc1', .slice g1' gn1 gc1'] 27)))
  replace r_b1 := Rg.hid (r_b1.out.below (Rg.al1 w4 (.cells #[.string x1, .int .i64 p1, .slice b1' bn1 bc1', .slice g1' gn1 gc1'] 27)))
  replace r_g1 := Rg.hid (r_g1.out.below (Rg.al1 w4 (.cells #[.string x1, .int .i64 p1, .slice b1' bn1 bc1', .slice g1' gn1 gc1'] 27)))
  have hDB : w4.heap.size ≠ B := by omega
  have hDR : w4.heap.size ≠ R := by have := kR4.out.lt; omega
  have hDw : w.heap.size ≤ w4.heap.size := hb4.out.size
  clear kB4 kR4 hb4 hBl
  go_upto_region 5 with fail
  clear u4 u5 u6 u7
  generalize World.alloc _ _ = w5 at *
  generalize w4.heap.size = D at *
  have t1 : w5.cell? ⟨D, 1, none⟩ = some (.int .i64 p1) := kD5.cell 1
  have hw1' := hw1.out
  clear hw1
  go_upto_region 6 with fail
  clear t1 hw1'
  have t0 : w5.cell? ⟨D, 0, none⟩ = some (.string x1) := kD5.cell 0
  have tf := kD5.thaw
  have hw2' := hw2.out
  have hz0 : (0 : Int) ≤ (a : Int) := by omega
  have hz1' : (a : Int) ≤ (x1.size : Int) := by have := hz1.out; omega
  have hz2' : (a1 : Int) ≤ (x1.size : Int) := hz2.out
  have hz3 : (0 : Int) ≤ (a1 : Int) := by omega
  have hE1' := hE1.out
  have hE2' := hE2.out
  have hXs' := hXs.out
  clear hw2 hz1 hz2 hE1 hE2 hXs
  have kD6 : Rg.Bk D [.string (E1 ++ E2), .int .i64 p1, .slice b1' bn1 bc1', .slice g1' gn1 gc1'] 27 (w5.setCell ⟨D, 0, none⟩ (.string (E1 ++ E2))).drew := kD5.set 0 (.string (E1 ++ E2))
  have oD6 : Rg.Only D w5 (w5.setCell ⟨D, 0, none⟩ (.string (E1 ++ E2))).drew := (Rg.Only.setCell w5 D 0 (.string (E1 ++ E2))).trans (Rg.Only.drew _ _)
  have kB6 := Rg.hid (kB5.out.same (oD6.block B (Ne.symm hDB)))
  have kR6 := Rg.hid (kR5.out.same (oD6.block R (Ne.symm hDR)))
  have hb6 := Rg.hid (hb5.out.trans (oD6.bel hDw))
  replace r_b0 := Rg.hid (r_b0.out.only kD5 way_int oD6)
  replace r_g0 := Rg.hid (r_g0.out.only kD5 way_int oD6)
  replace r_b1 := Rg.hid (r_b1.out.only kD5 way_int oD6)
  replace r_g1 := Rg.hid (r_g1.out.only kD5 way_int oD6)
  replace kD6 := Rg.hid kD6
  clear kD5 oD6 kB5 kR5 hb5
  go_region
  generalize World.drew _ = w7 at *
  clear t0 tf hw2' hz0 hz1' hz2' hz3 hE1' hE2' hXs'
  have t2 : w7.cell? ⟨D, 2, none⟩ = some (.slice b1' bn1 bc1') := kD6.out.cell 2
  go_wp2
  clear t2
  go_loopw [10, 46] (fun va vi wr => ∃ (i M : Nat) (ya : Option Addr) (yc : Nat), i ≤ bn1 ∧ vi = .int .i64 i ∧ va = .slice ya M yc ∧ Hid (M = ((bad1.take i).flatMap (Ln.loseB P)).length) ∧ Hid (SI w7.heap.size wr ya yc ((bad1.take i).flatMap (Ln.loseB P))) ∧ Below w7.heap.size w7 wr) (fun _ vi _ => bn1 - (intOf vi).toNat)
  case atStart => exact ⟨0, 0, none, 0, Nat.zero_le _, rfl, rfl, rfl, .inl ⟨rfl, rfl, rfl⟩, Below.refl _ _⟩
  case round =>
    obtain ⟨i, M, ya, yc, hin, rfl, rfl, hM, hS, hbw⟩ := hrel
    by_cases hlt0 : i < bn1
    · have hlt : i < bad1.length := by rw [← h_bn1.out]; exact hlt0
      obtain ⟨ba, bo, hbe, -, -⟩ : ∃ b o, b1' = some ⟨b, o, none⟩ ∧ b < w7.heap.size ∧ Rg.At w7 b o (intE.flat bad1) := by
        rcases r_b1.out.1 with ⟨h, h'⟩ | h
        · rw [h'] at hlt; simp at hlt
        · exact h
      subst hbe
      have c1 : wr.cell? ⟨ba, bo + i, none⟩ = some (.int .i64 bad1[i]) := (r_b1.out.below hbw).cell hlt
      have hx := hbb.out bad1[i] (List.getElem_mem hlt)
      have hst := Rg.hid (Ln.loseB_step P hlt)
      have hMl : M ≤ 1000000000 := by have := Ln.loseB_len P (bad1.take i); rw [← hM.out, List.length_take] at this; omega
      have hz0 : (0 : Int) ≤ (i : Int) := by omega
      have hz1 : (i : Int) < (bn1 : Int) := by omega
      generalize bad1[i] = x at *
      clear hlt
      by_cases ha : x < P
      · have d1 : decide (x < P) = true := by simp only [decide_eq_true_eq]; exact ha
        have d2 : decide (P < x) = false := by simp only [decide_eq_false_iff_not]; omega
        obtain ⟨a', c', W', hap, hS', hb'⟩ := app_si (hS.out.below (Rg.al1 wr (.cells #[.int .i64 x] 3))) (Nat.le_trans hbw.size (Rg.al1 _ _).size) x wr.heap.size (Rg.Bk.new rfl) (by rw [← hM.out]; exact hMl)
        have hM' : Hid (M + 1 = ((bad1.take (i + 1)).flatMap (Ln.loseB P)).length) := by show _ = _; rw [hst.out, List.length_append, Ln.loseB, if_pos ha, ← hM.out]; rfl
        have hS2 : Hid (SI w7.heap.size W' a' c' ((bad1.take (i + 1)).flatMap (Ln.loseB P))) := by show SI _ _ _ _ _; rw [hst.out, Ln.loseB, if_pos ha]; exact hS'
        rw [← hM.out] at hap
        replace hap := Rg.hid hap
        have hbw' := Rg.hid ((hbw.trans ((Rg.al1 _ _).mono hbw.size)).trans hb')
        clear hS' hb' hS hM hst ha hx hbw
        go_wp2_with (at_builtin; refine Rg.wpList_append_run rfl (.tmp 53) (.tmp 55) 25 rfl _ _ rfl rfl _ _ hap.out ?_)
        go_roundw
        case rel => exact ⟨i + 1, M + 1, a', c', by omega, by go_num, rfl, hM', hS2, hbw'.out⟩
        case measure => simp [intOf]; omega
      · have d1 : decide (x < P) = false := by simp only [decide_eq_false_iff_not]; exact ha
        by_cases hgt : P < x
        · have d2 : decide (P < x) = true := by simp only [decide_eq_true_eq]; exact hgt
          obtain ⟨X1, hX1⟩ : ∃ X1 : Int, X1 = x - 1 := ⟨_, rfl⟩
          have hwx : IntKind.i64.wrap (x - 1) = X1 := by rw [IntKind.wrap_i64]; omega
          have hwx' : wrap64 (x - 1) = X1 := by unfold wrap64; omega
          obtain ⟨a', c', W', hap, hS', hb'⟩ := app_si (hS.out.below (Rg.al1 wr (.cells #[.int .i64 X1] 3))) (Nat.le_trans hbw.size (Rg.al1 _ _).size) X1 wr.heap.size (Rg.Bk.new rfl) (by rw [← hM.out]; exact hMl)
          have hM' : Hid (M + 1 = ((bad1.take (i + 1)).flatMap (Ln.loseB P)).length) := by show _ = _; rw [hst.out, List.length_append, Ln.loseB, if_neg ha, if_pos hgt, ← hM.out]; rfl
          have hS2 : Hid (SI w7.heap.size W' a' c' ((bad1.take (i + 1)).flatMap (Ln.loseB P))) := by show SI _ _ _ _ _; rw [hst.out, Ln.loseB, if_neg ha, if_pos hgt, ← hX1]; exact hS'
          rw [← hM.out] at hap
          replace hap := Rg.hid hap
          have hbw' := Rg.hid ((hbw.trans ((Rg.al1 _ _).mono hbw.size)).trans hb')
          clear hS' hb' hS hM hst ha hx hbw hX1 hgt
          go_wp2_with (at_builtin; refine Rg.wpList_append_run rfl (.tmp 60) (.tmp 63) 25 rfl _ _ rfl rfl _ _ hap.out ?_)
          go_roundw
          case rel => exact ⟨i + 1, M + 1, a', c', by omega, by go_num, rfl, hM', hS2, hbw'.out⟩
          case measure => simp [intOf]; omega
        · have d2 : decide (P < x) = false := by simp only [decide_eq_false_iff_not]; exact hgt
          have hM' : Hid (M = ((bad1.take (i + 1)).flatMap (Ln.loseB P)).length) := by show _ = _; rw [hst.out, List.length_append, Ln.loseB, if_neg ha, if_neg hgt, ← hM.out]; rfl
          have hS2 : Hid (SI w7.heap.size wr ya yc ((bad1.take (i + 1)).flatMap (Ln.loseB P))) := by show SI _ _ _ _ _; rw [hst.out, Ln.loseB, if_neg ha, if_neg hgt, List.append_nil]; exact hS.out
          clear hS hM hst ha hx hgt
          go_wp2
          go_roundw
          case rel => exact ⟨i + 1, M, ya, yc, by omega, by go_num, rfl, hM', hS2, hbw⟩
          case measure => simp [intOf]; omega
    · have hie : i = bn1 := by omega
      subst i
      have hfull : bad1.take bn1 = bad1 := List.take_of_length_le (by rw [← h_bn1.out]; exact Nat.le_refl _)
      rw [hfull, hLB.out] at hM hS
      have hLBc := hS.out.le
      rw [← hM.out] at hLBc
      replace hS := Rg.hid hS.out.irow
      obtain ⟨w8, hw8⟩ : ∃ w8, w8 = wr := ⟨_, rfl⟩
      subst hw8
      have kD8 := Rg.hid (kD6.out.below hbw kD6.out.lt)
      have kB8 := Rg.hid (kB6.out.below hbw kB6.out.lt)
      have kR8 := Rg.hid (kR6.out.below hbw kR6.out.lt)
      have hb8 := Rg.hid (hb6.out.trans (hbw.mono hb6.out.size))
      replace r_b0 := Rg.hid (r_b0.out.below hbw)
      replace r_g0 := Rg.hid (r_g0.out.below hbw)
      replace r_b1 := Rg.hid (r_b1.out.below hbw)
      replace r_g1 := Rg.hid (r_g1.out.below hbw)
      clear hbw hin hlt0 hfull kD6 kB6 kR6 hb6
      have t3 : w8.cell? ⟨D, 3, none⟩ = some (.slice g1' gn1 gc1') := kD8.out.cell 3
      go_wp2
      clear t3
      go_loopw [11, 69] (fun va vi wr => ∃ (i M2 : Nat) (za : Option Addr) (zc : Nat), i ≤ gn1 ∧ vi = .int .i64 i ∧ va = .slice za M2 zc ∧ Hid (M2 = (Ln.loseF P (gap1.take i)).length) ∧ M2 ≤ zc ∧ Hid (IRow wr za (Ln.loseF P (gap1.take i))) ∧ Below w8.heap.size w8 wr) (fun _ vi _ => gn1 - (intOf vi).toNat)
      case atStart => exact ⟨0, 0, none, 0, Nat.zero_le _, rfl, rfl, rfl, Nat.le_refl _, IRow.nil, Below.refl _ _⟩
      case round =>
        obtain ⟨i, M2, za, zc, hin, rfl, rfl, hM2, hzc, hI, hbw⟩ := hrel
        by_cases hlt0 : i < gn1
        · have hlt : i < gap1.length := by rw [← h_gn1.out]; exact hlt0
          obtain ⟨ba, bo, hbe, -, -⟩ : ∃ b o, g1' = some ⟨b, o, none⟩ ∧ b < w8.heap.size ∧ Rg.At w8 b o (intE.flat gap1) := by
            rcases r_g1.out.1 with ⟨h, h'⟩ | h
            · rw [h'] at hlt; simp at hlt
            · exact h
          subst hbe
          have c1 : wr.cell? ⟨ba, bo + i, none⟩ = some (.int .i64 gap1[i]) := (r_g1.out.below hbw).cell hlt
          have hx := hgb.out gap1[i] (List.getElem_mem hlt)
          have hst := Rg.hid (Ln.loseF_step P hlt)
          have hMl : (Ln.loseF P (gap1.take i)).length ≤ 1000000000 := by have := Ln.loseF_len P (gap1.take i); rw [List.length_take] at this; omega
          have hz0 : (0 : Int) ≤ (i : Int) := by omega
          have hz1 : (i : Int) < (gn1 : Int) := by omega
          generalize gap1[i] = x at *
          clear hlt
          obtain ⟨X1, hX1⟩ : ∃ X1 : Int, X1 = Ln.loseG P x := ⟨_, rfl⟩
          obtain ⟨M3, hM3⟩ : ∃ M3, M3 = (Ln.mark (Ln.loseF P (gap1.take i)) X1).length := ⟨_, rfl⟩
          have HMk : Hid (∀ W, Below wr.heap.size wr W → Calls Try.prog 46 #[.slice za M2 zc, .int .i64 X1] W fun e w' => ∃ a9 c9, e = .returned (.slice a9 M3 c9) ∧ Hid (IRow w' a9 (Ln.loseF P (gap1.take (i + 1)))) ∧ M3 ≤ c9 ∧ Below w8.heap.size w8 w') := fun W hW => by
            have := rmark_any za zc (Ln.loseF P (gap1.take i)) X1 W hMl (Ln.loseF_up _ _) (by rw [← hM2.out]; exact hzc) (hI.out.below hW)
            rw [← hM2.out] at this
            refine this.mono fun e w' ⟨a9, c9, h1, h2, h3, h4⟩ => ⟨a9, c9, by rw [hM3]; exact h1, ?_, by rw [hM3]; exact h3, (hbw.trans (hW.mono hbw.size)).trans (h4.mono (Nat.le_trans hbw.size hW.size))⟩
            show IRow _ _ _
            rw [hst.out, ← hX1]; exact h2
          have hM3' : Hid (M3 = (Ln.loseF P (gap1.take (i + 1))).length) := by show _ = _; rw [hM3, hst.out, hX1]
          clear hM3 hMl hst hI hM2
          by_cases hgt : P < x
          · have d2 : decide (P < x) = true := by simp only [decide_eq_true_eq]; exact hgt
            have hwx : IntKind.i64.wrap (x - 1) = X1 := by rw [IntKind.wrap_i64, hX1, Ln.loseG, if_pos hgt]; omega
            have hwx' : wrap64 (x - 1) = X1 := by rw [hX1, Ln.loseG, if_pos hgt]; unfold wrap64; omega
            clear hX1 hgt hx
            go_wp2_with (go_at_call 46; refine (HMk.out _ (Below.refl _ _)).mono ?_; rintro e w9 ⟨a9, c9, rfl, hI9, hc9, b9⟩)
            go_roundw
            case rel => exact ⟨i + 1, M3, a9, c9, by omega, by go_num, rfl, hM3', hc9, hI9, b9⟩
            case measure => simp [intOf]; omega
          · have d2 : decide (P < x) = false := by simp only [decide_eq_false_iff_not]; exact hgt
            have hxe : X1 = x := by rw [hX1, Ln.loseG, if_neg hgt]
            clear hX1 hgt hx
            subst hxe
            go_wp2_with (go_at_call 46; refine (HMk.out _ (Below.refl _ _)).mono ?_; rintro e w9 ⟨a9, c9, rfl, hI9, hc9, b9⟩)
            go_roundw
            case rel => exact ⟨i + 1, M3, a9, c9, by omega, by go_num, rfl, hM3', hc9, hI9, b9⟩
            case measure => simp [intOf]; omega
        · have hie : i = gn1 := by omega
          subst i
          have hfull : gap1.take gn1 = gap1 := List.take_of_length_le (by rw [← h_gn1.out]; exact Nat.le_refl _)
          rw [hfull] at hM2 hI
          have HMk : Hid (∀ W, IRow W za (Ln.loseF P gap1) → Calls Try.prog 46 #[.slice za M2 zc, .int .i64 P] W fun e w' => ∃ a9 c9, e = .returned (.slice a9 LG.length c9) ∧ Hid (IRow w' a9 LG) ∧ LG.length ≤ c9 ∧ Below W.heap.size W w') := fun W hW => by
            have := rmark_any za zc (Ln.loseF P gap1) P W (by have := Ln.loseF_len P gap1; rw [← h_gn1.out] at this; omega) (Ln.loseF_up _ _) (by rw [← hM2.out]; exact hzc) hW
            rw [← hM2.out, hLG.out] at this
            exact this.mono fun e w' ⟨a9, c9, h1, h2, h3, h4⟩ => ⟨a9, c9, h1, h2, h3, h4⟩
          have hMe := hM.out
          subst hMe
          clear hM hM2 hzc hfull hLB hLG hin hlt0 hgb hbb
          obtain ⟨w10, hw10⟩ : ∃ w10, w10 = wr := ⟨_, rfl⟩
          subst hw10
          have kD10 := kD8.out.below hbw kD8.out.lt
          have kB10 := kB8.out.below hbw kB8.out.lt
          have kR10 := kR8.out.below hbw kR8.out.lt
          have hb10 := hb8.out.trans (hbw.mono hb8.out.size)
          have oD11 := Rg.Only.setCell w10 D 2 (.slice ya LB.length yc)
          have kD11 : Rg.Bk D [.string (E1 ++ E2), .int .i64 p1, .slice ya LB.length yc, .slice g1' gn1 gc1'] 27 (w10.setCell ⟨D, 2, none⟩ (.slice ya LB.length yc)) := kD10.set 2 _
          have kB11 := Rg.hid (kB10.same (oD11.block B (Ne.symm hDB)))
          have kR11 := Rg.hid (kR10.same (oD11.block R (Ne.symm hDR)))
          have hb11 := Rg.hid (hb10.trans (oD11.bel hDw))
          replace r_b0 := Rg.hid ((r_b0.out.below hbw).only kD10 way_int oD11)
          replace r_g0 := Rg.hid ((r_g0.out.below hbw).only kD10 way_int oD11)
          replace r_b1 := Rg.hid ((hS.out.below hbw).only kD10 way_int oD11)
          replace hI := Rg.hid (hI.out.only kD10 way_int oD11)
          have t2 : w10.cell? ⟨D, 2, none⟩ = some (.slice b1' bn1 bc1') := kD10.cell 2
          have tf := kD10.thaw
          replace kD11 := Rg.hid kD11
          clear r_g1 hS kD8 kB8 kR8 hb8 kD10 kB10 kR10 hb10 oD11 hbw
          go_upto_region 24 with fail
          clear t2 tf
          generalize World.setCell _ _ _ = w11 at *
          go_upto_region 25 with (go_at_call 46; refine (HMk.out _ hI.out).mono ?_; rintro e w12 ⟨a9, c9, rfl, hI9, hc9, b9⟩; have kD12 := kD11.out.below b9 kD11.out.lt; have tf := kD12.thaw; have t3 := kD12.cell 3; simp only [List.getElem?_cons_zero, List.getElem?_cons_succ] at t3)
          have oD13 := Rg.Only.setCell w12 D 3 (.slice a9 LG.length c9)
          have kD13 : Rg.Bk D [.string (E1 ++ E2), .int .i64 p1, .slice ya LB.length yc, .slice a9 LG.length c9] 27 (w12.setCell ⟨D, 3, none⟩ (.slice a9 LG.length c9)) := kD12.set 3 _
          have kB13 := (kB11.out.below b9 kB11.out.lt).same (oD13.block B (Ne.symm hDB))
          have kR13 := Rg.hid ((kR11.out.below b9 kR11.out.lt).same (oD13.block R (Ne.symm hDR)))
          have hb13 := Rg.hid ((Rg.chain hb11.out b9).trans (oD13.bel hDw))
          replace r_b0 := Rg.hid ((r_b0.out.below b9).only kD12 way_int oD13)
          replace r_g0 := Rg.hid ((r_g0.out.below b9).only kD12 way_int oD13)
          replace r_b1 := Rg.hid ((r_b1.out.below b9).only kD12 way_int oD13)
          have r_g1 := Rg.hid (hI9.out.only kD12 way_int oD13)
          clear kD12 tf t3 oD13 kB11 kR11 hb11 hI hI9 b9 HMk kD11
          generalize World.setCell _ _ _ = w13 at *
          have t0 : w13.cell? ⟨D, 0, none⟩ = some (.string (E1 ++ E2)) := kD13.cell 0
          have t1 : w13.cell? ⟨D, 1, none⟩ = some (.int .i64 p1) := kD13.cell 1
          have t2 : w13.cell? ⟨D, 2, none⟩ = some (.slice ya LB.length yc) := kD13.cell 2
          have t3 : w13.cell? ⟨D, 3, none⟩ = some (.slice a9 LG.length c9) := kD13.cell 3
          have u4 : w13.cell? ⟨B, 4, none⟩ = some (.string x1) := kB13.cell 4
          have u5 : w13.cell? ⟨B, 5, none⟩ = some (.int .i64 p1) := kB13.cell 5
          have u6 : w13.cell? ⟨B, 6, none⟩ = some (.slice b1' bn1 bc1') := kB13.cell 6
          have u7 : w13.cell? ⟨B, 7, none⟩ = some (.slice g1' gn1 gc1') := kB13.cell 7
          have uf := kB13.thaw
          have oB14 := (((Rg.Only.setCell w13 B 4 (.string (E1 ++ E2))).trans (Rg.Only.setCell _ B 5 (.int .i64 p1))).trans (Rg.Only.setCell _ B 6 (.slice ya LB.length yc))).trans (Rg.Only.setCell _ B 7 (.slice a9 LG.length c9))
          have kB14 : Rg.Bk B [.string x0, .int .i64 p0, .slice b0' bn0 bc0', .slice g0' gn0 gc0', .string (E1 ++ E2), .int .i64 p1, .slice ya LB.length yc, .slice a9 LG.length c9, .bool true] 30 ((((w13.setCell ⟨B, 4, none⟩ (.string (E1 ++ E2))).setCell ⟨B, 5, none⟩ (.int .i64 p1)).setCell ⟨B, 6, none⟩ (.slice ya LB.length yc)).setCell ⟨B, 7, none⟩ (.slice a9 LG.length c9)) := (((kB13.set 4 (.string (E1 ++ E2))).set 5 (.int .i64 p1)).set 6 (.slice ya LB.length yc)).set 7 (.slice a9 LG.length c9)
          have kR14 := kR13.out.same (oB14.block R (Ne.symm hBR))
          have hb14 := Rg.hid (hb13.out.trans (oB14.bel hBw))
          replace r_b0 := Rg.hid (r_b0.out.only kB13 line_int oB14)
          replace r_g0 := Rg.hid (r_g0.out.only kB13 line_int oB14)
          replace r_b1 := Rg.hid (r_b1.out.only kB13 line_int oB14)
          replace r_g1 := Rg.hid (r_g1.out.only kB13 line_int oB14)
          replace kB14 := Rg.hid kB14
          replace kR14 := Rg.hid kR14
          clear oB14 kR13 hb13 kB13 kD13
          go_upto_region 26 with fail
          clear t0 t1 t2 t3 u4 u5 u6 u7 uf
          generalize World.setCell _ _ _ = w14 at *
          replace kB14 := kB14.out
          replace kR14 := kR14.out
          obtain ⟨kE, oE⟩ := ret9 kR14 rfl (.string x0) (.int .i64 p0) (.slice b0' bn0 bc0') (.slice g0' gn0 gc0') (.string (E1 ++ E2)) (.int .i64 p1) (.slice ya LB.length yc) (.slice a9 LG.length c9) (.bool true)
          have post := Rg.hid ((⟨_, _, _, _, _, _, _, _, rfl, ⟨r_b0.out.only kR14 line_int oE, q_b0, r_g0.out.only kR14 line_int oE, q_g0, r_b1.out.only kR14 line_int oE, hLBc, r_g1.out.only kR14 line_int oE, hc9⟩, hb14.out.trans (oE.bel hRw)⟩ : RPost (x0) (p0) (bn0) (gn0) (E1 ++ E2) (p1) (LB.length) (LG.length) (true) (bad0) (gap0) (LB) (LG) (.int .i64 0) w (.returned (.tuple #[.agg #[.string x0, .int .i64 p0, .slice b0' bn0 bc0', .slice g0' gn0 gc0', .string (E1 ++ E2), .int .i64 p1, .slice ya LB.length yc, .slice a9 LG.length c9, .bool true], .int .i64 0])) _))
          replace kE := Rg.hid kE
          have d0' : w14.cell? ⟨B, 0, none⟩ = some (.string x0) := kB14.cell 0
          have d1' : w14.cell? ⟨B, 1, none⟩ = some (.int .i64 p0) := kB14.cell 1
          have d2' : w14.cell? ⟨B, 2, none⟩ = some (.slice b0' bn0 bc0') := kB14.cell 2
          have d3' : w14.cell? ⟨B, 3, none⟩ = some (.slice g0' gn0 gc0') := kB14.cell 3
          have d4' : w14.cell? ⟨B, 4, none⟩ = some (.string (E1 ++ E2)) := kB14.cell 4
          have d5' : w14.cell? ⟨B, 5, none⟩ = some (.int .i64 p1) := kB14.cell 5
          have d6' : w14.cell? ⟨B, 6, none⟩ = some (.slice ya LB.length yc) := kB14.cell 6
          have d7' : w14.cell? ⟨B, 7, none⟩ = some (.slice a9 LG.length c9) := kB14.cell 7
          have d8' : w14.cell? ⟨B, 8, none⟩ = some (.bool true) := kB14.cell 8
          have r0 : w14.cell? ⟨R, 0, none⟩ = some (.string ⟨#[]⟩) := kR14.cell 0
          have r1 : w14.cell? ⟨R, 1, none⟩ = some (.int .i64 0) := kR14.cell 1
          have r2 : w14.cell? ⟨R, 2, none⟩ = some (.slice none 0 0) := kR14.cell 2
          have r3 : w14.cell? ⟨R, 3, none⟩ = some (.slice none 0 0) := kR14.cell 3
          have r4 : w14.cell? ⟨R, 4, none⟩ = some (.string ⟨#[]⟩) := kR14.cell 4
          have r5 : w14.cell? ⟨R, 5, none⟩ = some (.int .i64 0) := kR14.cell 5
          have r6 : w14.cell? ⟨R, 6, none⟩ = some (.slice none 0 0) := kR14.cell 6
          have r7 : w14.cell? ⟨R, 7, none⟩ = some (.slice none 0 0) := kR14.cell 7
          have r8 : w14.cell? ⟨R, 8, none⟩ = some (.bool false) := kR14.cell 8
          have rf := kR14.thaw
          clear oE kR14 kB14 hb14
          go_wp2
          replace kE := kE.out
          replace post := post.out
          generalize World.setCell _ _ _ = WE at *
          exact bodyPost_ret (v := .tuple #[.agg #[.string x0, .int .i64 p0, .slice b0' bn0 bc0', .slice g0' gn0 gc0', .string (E1 ++ E2), .int .i64 p1, .slice ya LB.length yc, .slice a9 LG.length c9, .bool true], .int .i64 0]) (by simp [results, Try.results28, go_sem, kE.cell]) rfl post
end Go.Proofs.Ytalleocmnnnchaa
