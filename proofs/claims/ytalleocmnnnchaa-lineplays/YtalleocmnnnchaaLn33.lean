/-
  Layer 7: the document's Flip.
-/
import Derived.Test.YtalleocmnnnchaaLn32
import Derived.Laws.IdiomStrings
import Derived.Lib.Builder
import Derived.Lib.BufferMore
namespace Go.Proofs.Ytalleocmnnnchaa
open Go.RowKit

def rowOf (l : List UInt8) (z : Nat) : Array Value := (l.map fun b => Value.int .u8 b.toNat).toArray ++ Array.replicate z (.int .u8 0)
theorem rowOf_get (l : List UInt8) (z i : Nat) (h : i < l.length) : (rowOf l z)[i]? = some (.int .u8 (l[i].toNat : Int)) := by
  unfold rowOf
  rw [Array.getElem?_append_left (by simpa using h)]
  simp [h]
theorem rowOf_set (l : List UInt8) (z i : Nat) (h : i < l.length) (c : UInt8) : (rowOf l z).setIfInBounds i (.int .u8 (c.toNat : Int)) = rowOf (l.set i c) z := by
  apply Array.ext
  · simp [rowOf]
  · intro j h1 h2
    rw [← Option.some_inj, ← Array.getElem?_eq_getElem, ← Array.getElem?_eq_getElem, Array.getElem?_setIfInBounds]
    unfold rowOf
    by_cases hj : j < l.length
    · rw [Array.getElem?_append_left (by simpa using hj), Array.getElem?_append_left (by simpa using hj)]
      by_cases hij : i = j
      · subst hij; simp [h]; omega
      · simp [hij, hj]
    · rw [if_neg (by omega), Array.getElem?_append_right (by simp; omega), Array.getElem?_append_right (by simp; omega)]
      simp
theorem bytesRow_eq (s : ByteArray) (cap : Nat) : bytesRow s cap = rowOf s.data.toList (cap - s.size) := by
  unfold bytesRow rowOf
  congr 1
  apply Array.ext'
  simp
theorem rowOf_size (l : List UInt8) (z : Nat) : (rowOf l z).size = l.length + z := by simp [rowOf]
theorem frozen_row {w : World} {b : Nat} {cs : Array Value} {T : TypeId} {n : Nat} (hb : w.heap[b]? = some (.cells cs T (n, n + 1))) (j : Nat) (hj : j < n) : w.frozen? ⟨b, j, none⟩ = false := by
  simp [World.frozen?, hb]; omega
theorem conv_row {w : World} {b z cap : Nat} {fr : Nat × Nat} {L : List UInt8} (hb : w.heap[b]? = some (.cells (rowOf L z) 5 fr)) :
    (convert 67 9 (.slice (some ⟨b, 0, none⟩) L.length cap)).run Try.prog w = .ok (.string ⟨L.toArray⟩) w :=
  run_convert_bytes_back w 67 9 5 ⟨b, 0, none⟩ cap L Try.underlying67 Try.underlying5 Try.underlying9 (fun j hj => by
    have e : (⟨b, 0, none⟩ : Addr).add j = ⟨b, j, none⟩ := by cases j <;> simp [Addr.add]
    rw [e, Lib.cell_of_heap hb j, rowOf_get L z j hj])
theorem bytes_set (W : World) (x : ByteArray) (a : Nat) (hk : a < x.size) (TB : UInt8) : ∃ CP w5, (convert 9 67 (.string x)).run Try.prog W = .ok (.slice (some ⟨W.heap.size, 0, none⟩) x.size CP) w5 ∧ Below W.heap.size W w5 ∧ w5.cell? ⟨W.heap.size, a, none⟩ = some (.int .u8 (x[a].toNat : Int)) ∧ w5.frozen? ⟨W.heap.size, a, none⟩ = false ∧
    (convert 67 9 (.slice (some ⟨W.heap.size, 0, none⟩) x.size CP)).run Try.prog (w5.setCell ⟨W.heap.size, a, none⟩ (.int .u8 (TB.toNat : Int))) = .ok (.string ⟨((x.data.toList.take a ++ [TB]) ++ x.data.toList.drop (a + 1)).toArray⟩) (w5.setCell ⟨W.heap.size, a, none⟩ (.int .u8 (TB.toNat : Int))) ∧ Below W.heap.size W (w5.setCell ⟨W.heap.size, a, none⟩ (.int .u8 (TB.toNat : Int))) := by
  have hcv := run_bytes_of_string (P := Try.prog) W 9 67 5 x Try.underlying9 Try.underlying67 Try.underlying5
  have hrow := bytesRow_eq x (grownCap W x.size 0 5)
  rw [hrow, rowOf_size, Array.length_toList] at hcv
  generalize grownCap W x.size 0 5 = cap at *
  generalize cap - x.size = z at *
  have hb : (W.drew.alloc (.cells (rowOf x.data.toList z) 5 (x.data.size + z, x.data.size + z + 1))).heap[W.heap.size]? = some (.cells (rowOf x.data.toList z) 5 (x.data.size + z, x.data.size + z + 1)) := heap_alloc_new W.drew _
  have bl : Below W.heap.size W (W.drew.alloc (.cells (rowOf x.data.toList z) 5 (x.data.size + z, x.data.size + z + 1))) := ((Below.refl _ W).drew).alloc (Nat.le_refl _) _
  have hl : a < x.data.toList.length := hk
  refine ⟨cap, _, hcv, bl, ?_, frozen_row hb a (by show a < x.size + z; omega), ?_, bl.setCell (p := ⟨W.heap.size, a, none⟩) (Nat.le_refl _) _⟩
  · rw [Lib.cell_of_heap hb, rowOf_get _ z a hl]; rfl
  · have hs := (Lib.heap_setCell_same hb (i := a) (.int .u8 (TB.toNat : Int))).trans (by rw [rowOf_set _ z a hl TB])
    have := conv_row (cap := cap) hs
    rw [List.length_set] at this
    rw [show (x.data.toList.take a ++ [TB]) ++ x.data.toList.drop (a + 1) = x.data.toList.set a TB by rw [List.set_eq_take_append_cons_drop, if_pos hl, List.append_assoc]; rfl]
    exact this

set_option maxHeartbeats 1000000 in
set_option maxRecDepth 100000 in
theorem rflip_ok0 (x0 : ByteArray) (p0 : Int) (b0 : Option Addr) (bn0 bc0 : Nat) (g0 : Option Addr) (gn0 gc0 : Nat) (x1 : ByteArray) (p1 : Int) (b1 : Option Addr) (bn1 bc1 : Nat) (g1 : Option Addr) (gn1 gc1 : Nat) (bad0 gap0 bad1 gap1 : List Int) (h_bn0 : Hid (bn0 = bad0.length)) (h_gn0 : Hid (gn0 = gap0.length)) (h_bn1 : Hid (bn1 = bad1.length)) (h_gn1 : Hid (gn1 = gap1.length)) (l_bn0 : bn0 ≤ 1000000000) (l_gn0 : gn0 ≤ 1000000000) (l_bn1 : bn1 ≤ 1000000000) (l_gn1 : gn1 ≤ 1000000000) (w : World) (hR0 : IRow w b0 bad0 ∧ bn0 ≤ bc0 ∧ IRow w g0 gap0 ∧ gn0 ≤ gc0 ∧ IRow w b1 bad1 ∧ bn1 ≤ bc1 ∧ IRow w g1 gap1 ∧ gn1 ≤ gc1) (a : Nat) (bit : Int) (hk : a < x0.size) (P TWo : Int) (TB : UInt8) (XN : ByteArray) (LB : List Int) (hw1 : Hid (IntKind.i64.wrap (p0 + (a : Int)) = P)) (hsh : Hid (∀ W, (Op.shift .shl .u8 1 .u64 ((IntKind.u64.wrap bit).tmod 8)).run Try.prog W = .ok (.int .u8 TWo) W)) (hxo : Hid (bits .xor .u8 (x0[a].toNat : Int) TWo = (TB.toNat : Int)))
    (hXN : Hid ((⟨((x0.data.toList.take a ++ [TB]) ++ x0.data.toList.drop (a + 1)).toArray⟩ : ByteArray) = XN)) (hLB : Hid (Ln.mark bad0 P = LB)) (hub : Hid (Ln.Up bad0)) :
    Calls Try.prog 27 #[.agg #[.string x0, .int .i64 p0, .slice b0 bn0 bc0, .slice g0 gn0 gc0, .string x1, .int .i64 p1, .slice b1 bn1 bc1, .slice g1 gn1 gc1, .bool true], .int .i64 0, .int .i64 a, .int .i64 bit] w fun e w' => RPost (XN) (p0) (LB.length) (gn0) (x1) (p1) (bn1) (gn1) (true) (LB) (gap0) (bad1) (gap1) (.int .i64 0) w e w' := by
  obtain ⟨s_b0, q_b0, s_g0, q_g0, s_b1, q_b1, s_g1, q_g1⟩ := hR0
  have HO : Hid (∀ W, Below w.heap.size w W → Calls Try.prog 44 #[.agg #[.string x0, .int .i64 p0, .slice b0 bn0 bc0, .slice g0 gn0 gc0, .string x1, .int .i64 p1, .slice b1 bn1 bc1, .slice g1 gn1 gc1, .bool true]] W fun e w' => OwnPost x0 p0 bn0 gn0 x1 p1 bn1 gn1 true bad0 gap0 bad1 gap1 W e w') := fun W hW => rown_cells x0 p0 b0 bn0 bc0 g0 gn0 gc0 x1 p1 b1 bn1 bc1 g1 gn1 gc1 true bad0 gap0 bad1 gap1 W h_bn0 h_gn0 h_bn1 h_gn1 l_bn0 l_gn0 l_bn1 l_gn1 ⟨s_b0.below hW, q_b0, s_g0.below hW, q_g0, s_b1.below hW, q_b1, s_g1.below hW, q_g1⟩
  clear s_b0 q_b0 s_g0 q_g0 s_b1 q_b1 s_g1 q_g1
  have kB1 : Rg.Bk w.heap.size [.string x0, .int .i64 p0, .slice b0 bn0 bc0, .slice g0 gn0 gc0, .string x1, .int .i64 p1, .slice b1 bn1 bc1, .slice g1 gn1 gc1, .bool true] 30 ((w.alloc (.cells #[.string x0, .int .i64 p0, .slice b0 bn0 bc0, .slice g0 gn0 gc0, .string x1, .int .i64 p1, .slice b1 bn1 bc1, .slice g1 gn1 gc1, .bool true] 30)).alloc (.cells #[.string ⟨#[]⟩, .int .i64 0, .slice none 0 0, .slice none 0 0, .string ⟨#[]⟩, .int .i64 0, .slice none 0 0, .slice none 0 0, .bool false] 30)) := (Rg.Bk.new rfl).old _
  have kR1 : Rg.Bk (w.heap.size + 1) [.string ⟨#[]⟩, .int .i64 0, .slice none 0 0, .slice none 0 0, .string ⟨#[]⟩, .int .i64 0, .slice none 0 0, .slice none 0 0, .bool false] 30 ((w.alloc (.cells #[.string x0, .int .i64 p0, .slice b0 bn0 bc0, .slice g0 gn0 gc0, .string x1, .int .i64 p1, .slice b1 bn1 bc1, .slice g1 gn1 gc1, .bool true] 30)).alloc (.cells #[.string ⟨#[]⟩, .int .i64 0, .slice none 0 0, .slice none 0 0, .string ⟨#[]⟩, .int .i64 0, .slice none 0 0, .slice none 0 0, .bool false] 30)) := Rg.Bk.new (by simp)
  have hb1 := Rg.al2 w (.cells #[.string x0, .int .i64 p0, .slice b0 bn0 bc0, .slice g0 gn0 gc0, .string x1, .int .i64 p1, .slice b1 bn1 bc1, .slice g1 gn1 gc1, .bool true] 30) (.cells #[.string ⟨#[]⟩, .int .i64 0, .slice none 0 0, .slice none 0 0, .string ⟨#[]⟩, .int .i64 0, .slice none 0 0, .slice none 0 0, .bool false] 30)
  go_enter Try.func27, Try.ntmps27
  go_upto_region 1 with fail
  generalize World.alloc _ _ = w1 at *
  obtain ⟨B, hB⟩ : ∃ B, B = w.heap.size := ⟨_, rfl⟩
  obtain ⟨R, hR⟩ : ∃ R, R = w.heap.size + 1 := ⟨_, rfl⟩
  rw [← hR] at kR1 ⊢
  rw [← hB] at kB1 ⊢
  have hBR : B ≠ R := by omega
  have hBw : w.heap.size ≤ B := by omega
  have hRw : w.heap.size ≤ R := by omega
  clear hB hR
  have z0 : w1.cell? ⟨B, 0, none⟩ = some (.string x0) := kB1.cell 0
  have z1 : w1.cell? ⟨B, 1, none⟩ = some (.int .i64 p0) := kB1.cell 1
  have z2 : w1.cell? ⟨B, 2, none⟩ = some (.slice b0 bn0 bc0) := kB1.cell 2
  have z3 : w1.cell? ⟨B, 3, none⟩ = some (.slice g0 gn0 gc0) := kB1.cell 3
  have z4 : w1.cell? ⟨B, 4, none⟩ = some (.string x1) := kB1.cell 4
  have z5 : w1.cell? ⟨B, 5, none⟩ = some (.int .i64 p1) := kB1.cell 5
  have z6 : w1.cell? ⟨B, 6, none⟩ = some (.slice b1 bn1 bc1) := kB1.cell 6
  have z7 : w1.cell? ⟨B, 7, none⟩ = some (.slice g1 gn1 gc1) := kB1.cell 7
  have z8 : w1.cell? ⟨B, 8, none⟩ = some (.bool true) := kB1.cell 8
  replace kB1 := Rg.hid kB1
  replace kR1 := Rg.hid kR1
  replace hb1 := Rg.hid hb1
  go_upto_region 2 with (go_at_call 44; refine (HO.out _ hb1.out).mono ?_; rintro e w2 ⟨b0', bc0', g0', gc0', b1', bc1', g1', gc1', rfl, ⟨r_b0, q_b0, r_g0, q_g0, r_b1, q_b1, r_g1, q_g1⟩, b2⟩; have kB2 := kB1.out.below b2 kB1.out.lt; have y0 := kB2.cell 0; have y1 := kB2.cell 1; have y2 := kB2.cell 2; have y3 := kB2.cell 3; have y4 := kB2.cell 4; have y5 := kB2.cell 5; have y6 := kB2.cell 6; have y7 := kB2.cell 7; have y8 := kB2.cell 8; simp only [List.getElem?_cons_zero, List.getElem?_cons_succ] at y0 y1 y2 y3 y4 y5 y6 y7 y8; have yf := kB2.thaw)
  obtain ⟨kB3, oB⟩ := ret9 kB2 rfl (.string x0) (.int .i64 p0) (.slice b0' bn0 bc0') (.slice g0' gn0 gc0') (.string x1) (.int .i64 p1) (.slice b1' bn1 bc1') (.slice g1' gn1 gc1') (.bool true)
  replace r_b0 := Rg.hid (r_b0.only kB2 line_int oB)
  replace r_g0 := Rg.hid (r_g0.only kB2 line_int oB)
  replace r_b1 := Rg.hid (r_b1.only kB2 line_int oB)
  replace r_g1 := Rg.hid (r_g1.only kB2 line_int oB)
  have kR3 := (kR1.out.below b2 kR1.out.lt).same (oB.block _ (Ne.symm hBR))
  have hb3 := Rg.hid ((Rg.chain hb1.out b2).trans (oB.bel hBw))
  clear kB1 kR1 hb1 kB2 oB b2 yf y0 y1 y2 y3 y4 y5 y6 y7 y8 z0 z1 z2 z3 z4 z5 z6 z7 z8 HO
  generalize World.setCell _ _ _ = w3 at *
  have HT : Hid (∀ W, Calls Try.prog 45 #[.agg #[.string x0, .int .i64 p0, .slice b0' bn0 bc0', .slice g0' gn0 gc0', .string x1, .int .i64 p1, .slice b1' bn1 bc1', .slice g1' gn1 gc1', .bool true], .int .i64 0, .int .i64 a] W fun e w' => e = .returned (.bool true) ∧ Below W.heap.size W w') := fun W => by
    have := rthere_up0 x0 p0 b0' bn0 bc0' g0' gn0 gc0' x1 p1 b1' bn1 bc1' g1' gn1 gc1' (a : Int) W
    rw [show decide (0 ≤ (a : Int) ∧ (a : Int) < (x0.size : Int)) = true by simp only [decide_eq_true_eq]; omega] at this
    exact this
  have u0 : w3.cell? ⟨B, 0, none⟩ = some (.string x0) := kB3.cell 0
  have u1 : w3.cell? ⟨B, 1, none⟩ = some (.int .i64 p0) := kB3.cell 1
  have u2 : w3.cell? ⟨B, 2, none⟩ = some (.slice b0' bn0 bc0') := kB3.cell 2
  have u3 : w3.cell? ⟨B, 3, none⟩ = some (.slice g0' gn0 gc0') := kB3.cell 3
  have u4 : w3.cell? ⟨B, 4, none⟩ = some (.string x1) := kB3.cell 4
  have u5 : w3.cell? ⟨B, 5, none⟩ = some (.int .i64 p1) := kB3.cell 5
  have u6 : w3.cell? ⟨B, 6, none⟩ = some (.slice b1' bn1 bc1') := kB3.cell 6
  have u7 : w3.cell? ⟨B, 7, none⟩ = some (.slice g1' gn1 gc1') := kB3.cell 7
  have u8 : w3.cell? ⟨B, 8, none⟩ = some (.bool true) := kB3.cell 8
  replace kB3 := Rg.hid kB3
  replace kR3 := Rg.hid kR3
  go_upto_region 4 with (go_at_call 45; refine (HT.out _).mono ?_; rintro e w4 ⟨rfl, b4⟩)
  have kB4 := kB3.out.below b4 kB3.out.lt
  have kR4 := Rg.hid (kR3.out.below b4 kR3.out.lt)
  have hb4 := Rg.hid (Rg.chain hb3.out b4)
  replace r_b0 := Rg.hid (r_b0.out.below b4)
  replace r_g0 := Rg.hid (r_g0.out.below b4)
  replace r_b1 := Rg.hid (r_b1.out.below b4)
  replace r_g1 := Rg.hid (r_g1.out.below b4)
  clear kB3 kR3 hb3 b4 HT u0 u1 u2 u3 u4 u5 u6 u7 u8
  have hYB0 := kB4.lt
  obtain ⟨CP, w5, hcv, b5, y0, yf, hcb, b6⟩ := bytes_set w4 x0 a hk TB
  have hXN' := hXN.out
  rw [hXN'] at hcb
  clear hXN' hXN
  have kB5 := Rg.hid (kB4.below b6 kB4.lt)
  have kR5 := Rg.hid (kR4.out.below b6 kR4.out.lt)
  have hb5 := Rg.hid (Rg.chain hb4.out b6)
  replace r_b0 := Rg.hid (r_b0.out.below b6)
  replace r_g0 := Rg.hid (r_g0.out.below b6)
  replace r_b1 := Rg.hid (r_b1.out.below b6)
  replace r_g1 := Rg.hid (r_g1.out.below b6)
  clear b5 b6 kR4 hb4
  generalize w4.heap.size = Y at *
  have v0 : w4.cell? ⟨B, 0, none⟩ = some (.string x0) := kB4.cell 0
  have e0 : (0 : Int) ≤ (a : Int) := by omega
  have e1 : (a : Int) < (x0.size : Int) := by omega
  have hxo' := hxo.out
  have hYB : ¬ B = Y := by omega
  have hsh' := hsh.out
  have hn5 : B < Y := by omega
  replace kB4 := Rg.hid kB4
  go_upto_region 6 with fail
  have v0' : (w5.setCell ⟨Y, a, none⟩ (.int .u8 (TB.toNat : Int))).cell? ⟨B, 0, none⟩ = some (.string x0) := kB5.out.cell 0
  have vf := kB5.out.thaw
  clear y0 yf hcv v0 hxo' hxo hsh' hsh
  generalize World.setCell _ _ _ = w6 at *
  go_upto_region 7 with fail
  have kB7 : Rg.Bk B [.string XN, .int .i64 p0, .slice b0' bn0 bc0', .slice g0' gn0 gc0', .string x1, .int .i64 p1, .slice b1' bn1 bc1', .slice g1' gn1 gc1', .bool true] 30 (w6.setCell ⟨B, 0, none⟩ (.string XN)) := kB5.out.set 0 (.string XN)
  have o7 := Rg.Only.setCell w6 B 0 (.string XN)
  have kR7 := Rg.hid (kR5.out.same (o7.block R (Ne.symm hBR)))
  have hb7 := Rg.hid (hb5.out.trans (o7.bel hBw))
  replace r_b0 := Rg.hid (r_b0.out.only kB5.out line_int o7)
  replace r_g0 := Rg.hid (r_g0.out.only kB5.out line_int o7)
  replace r_b1 := Rg.hid (r_b1.out.only kB5.out line_int o7)
  replace r_g1 := Rg.hid (r_g1.out.only kB5.out line_int o7)
  clear v0' vf kB5 kB4 kR5 hb5 o7 hcb
  generalize World.setCell _ _ _ = w7 at *
  have z1 : w7.cell? ⟨B, 1, none⟩ = some (.int .i64 p0) := kB7.cell 1
  have z2 : w7.cell? ⟨B, 2, none⟩ = some (.slice b0' bn0 bc0') := kB7.cell 2
  replace kB7 := Rg.hid kB7
  have HM2 : Hid (∀ W, Below w7.heap.size w7 W → Calls Try.prog 46 #[.slice b0' bn0 bc0', .int .i64 P] W fun e w' => ∃ a8 c8 NB, e = .returned (.slice a8 NB c8) ∧ Hid (NB = LB.length) ∧ Hid (IRow w' a8 LB) ∧ NB ≤ c8 ∧ Hid (Below w7.heap.size w7 w') ∧ (∀ i, w'.frozen? ⟨B, i, none⟩ = false) ∧ w'.cell? ⟨B, 1, none⟩ = some (.int .i64 p0) ∧ w'.cell? ⟨B, 2, none⟩ = some (.slice b0' bn0 bc0')) := fun W hW => by
    have := rmark_any b0' bc0' bad0 P W (by rw [← h_bn0.out]; exact l_bn0) hub.out (by rw [← h_bn0.out]; exact q_b0) (r_b0.out.below hW)
    rw [← h_bn0.out, hLB.out] at this
    refine this.mono fun e w' ⟨a8, c8, h1, h2, h3, h4⟩ => ?_
    have kk := kB7.out.below (Rg.chain hW h4) kB7.out.lt
    exact ⟨a8, c8, _, h1, rfl, h2, h3, Rg.chain hW h4, kk.thaw, kk.cell 1, kk.cell 2⟩
  have hw1' := hw1.out
  clear hw1 hLB hub
  go_cut [] (fun wx => ∃ a8 c8 NB, Hid (NB = LB.length) ∧ NB ≤ c8 ∧ Hid (IRow wx a8 LB) ∧ Hid (IRow wx g0' gap0) ∧ Hid (IRow wx b1' bad1) ∧ Hid (IRow wx g1' gap1) ∧ Hid (Rg.Bk B [.string XN, .int .i64 p0, .slice a8 NB c8, .slice g0' gn0 gc0', .string x1, .int .i64 p1, .slice b1' bn1 bc1', .slice g1' gn1 gc1', .bool true] 30 wx) ∧ Hid (Rg.Bk R [.string ⟨#[]⟩, .int .i64 0, .slice none 0 0, .slice none 0 0, .string ⟨#[]⟩, .int .i64 0, .slice none 0 0, .slice none 0 0, .bool false] 30 wx) ∧ Hid (Below w.heap.size w wx))
  case first =>
    go_region_with (first
      | (go_at_call 46; refine (HM2.out _ ?_).mono ?_; (first | exact Below.refl _ _ | exact (Below.refl _ _).drew); rintro e w8 ⟨a8, c8, NB, rfl, hNB, hr8, hc8, b8, yf, y1, y2⟩))
    all_goals go_wp2_with fail
    all_goals go_meet
    all_goals (have kB8 := kB7.out.below b8.out kB7.out.lt; have o8 := Rg.Only.setCell w8 B 2 (.slice a8 NB c8); exact ⟨a8, c8, NB, hNB, hc8, hr8.out.only kB8 line_int o8, (r_g0.out.below b8.out).only kB8 line_int o8, (r_b1.out.below b8.out).only kB8 line_int o8, (r_g1.out.below b8.out).only kB8 line_int o8, kB8.set 2 (.slice a8 NB c8), (kR7.out.below b8.out kR7.out.lt).same (o8.block R (Ne.symm hBR)), (Rg.chain hb7.out b8.out).trans (o8.bel hBw)⟩)
  case rest =>
    clear r_b0 r_g0 r_b1 r_g1
    obtain ⟨a8, c8, NB, hNB, hc8, r_b0, r_g0, r_b1, r_g1, kB10', kR10', hb10⟩ := hcut
    obtain ⟨w10, hw10⟩ : ∃ w10, w10 = wc := ⟨_, rfl⟩
    subst hw10
    have hNe := hNB.out
    subst hNe
    have kB10 := kB10'.out
    have kR10 := kR10'.out
    clear kB10' kR10' HM2 kB7 kR7 hb7 z1 z2 hw1' hNB
    go_upto_region 8 with fail
    obtain ⟨kE, oE⟩ := ret9 kR10 rfl (.string XN) (.int .i64 p0) (.slice a8 LB.length c8) (.slice g0' gn0 gc0') (.string x1) (.int .i64 p1) (.slice b1' bn1 bc1') (.slice g1' gn1 gc1') (.bool true)
    have post := Rg.hid ((⟨_, _, _, _, _, _, _, _, rfl, ⟨r_b0.out.only kR10 line_int oE, hc8, r_g0.out.only kR10 line_int oE, q_g0, r_b1.out.only kR10 line_int oE, q_b1, r_g1.out.only kR10 line_int oE, q_g1⟩, hb10.out.trans (oE.bel hRw)⟩ : RPost (XN) (p0) (LB.length) (gn0) (x1) (p1) (bn1) (gn1) (true) (LB) (gap0) (bad1) (gap1) (.int .i64 0) w (.returned (.tuple #[.agg #[.string XN, .int .i64 p0, .slice a8 LB.length c8, .slice g0' gn0 gc0', .string x1, .int .i64 p1, .slice b1' bn1 bc1', .slice g1' gn1 gc1', .bool true], .int .i64 0])) _))
    replace kE := Rg.hid kE
    have d0' : w10.cell? ⟨B, 0, none⟩ = some (.string XN) := kB10.cell 0
    have d1' : w10.cell? ⟨B, 1, none⟩ = some (.int .i64 p0) := kB10.cell 1
    have d2' : w10.cell? ⟨B, 2, none⟩ = some (.slice a8 LB.length c8) := kB10.cell 2
    have d3' : w10.cell? ⟨B, 3, none⟩ = some (.slice g0' gn0 gc0') := kB10.cell 3
    have d4' : w10.cell? ⟨B, 4, none⟩ = some (.string x1) := kB10.cell 4
    have d5' : w10.cell? ⟨B, 5, none⟩ = some (.int .i64 p1) := kB10.cell 5
    have d6' : w10.cell? ⟨B, 6, none⟩ = some (.slice b1' bn1 bc1') := kB10.cell 6
    have d7' : w10.cell? ⟨B, 7, none⟩ = some (.slice g1' gn1 gc1') := kB10.cell 7
    have d8' : w10.cell? ⟨B, 8, none⟩ = some (.bool true) := kB10.cell 8
    have r0 : w10.cell? ⟨R, 0, none⟩ = some (.string ⟨#[]⟩) := kR10.cell 0
    have r1 : w10.cell? ⟨R, 1, none⟩ = some (.int .i64 0) := kR10.cell 1
    have r2 : w10.cell? ⟨R, 2, none⟩ = some (.slice none 0 0) := kR10.cell 2
    have r3 : w10.cell? ⟨R, 3, none⟩ = some (.slice none 0 0) := kR10.cell 3
    have r4 : w10.cell? ⟨R, 4, none⟩ = some (.string ⟨#[]⟩) := kR10.cell 4
    have r5 : w10.cell? ⟨R, 5, none⟩ = some (.int .i64 0) := kR10.cell 5
    have r6 : w10.cell? ⟨R, 6, none⟩ = some (.slice none 0 0) := kR10.cell 6
    have r7 : w10.cell? ⟨R, 7, none⟩ = some (.slice none 0 0) := kR10.cell 7
    have r8 : w10.cell? ⟨R, 8, none⟩ = some (.bool false) := kR10.cell 8
    have rf := kR10.thaw
    clear oE kR10 kB10 hb10
    go_wp2
    replace kE := kE.out
    replace post := post.out
    generalize World.setCell _ _ _ = WE at *
    exact bodyPost_ret (v := .tuple #[.agg #[.string XN, .int .i64 p0, .slice a8 LB.length c8, .slice g0' gn0 gc0', .string x1, .int .i64 p1, .slice b1' bn1 bc1', .slice g1' gn1 gc1', .bool true], .int .i64 0]) (by simp [results, Try.results27, go_sem, kE.cell]) rfl post

set_option maxHeartbeats 1000000 in
set_option maxRecDepth 100000 in
theorem rflip_ok1 (x0 : ByteArray) (p0 : Int) (b0 : Option Addr) (bn0 bc0 : Nat) (g0 : Option Addr) (gn0 gc0 : Nat) (x1 : ByteArray) (p1 : Int) (b1 : Option Addr) (bn1 bc1 : Nat) (g1 : Option Addr) (gn1 gc1 : Nat) (bad0 gap0 bad1 gap1 : List Int) (h_bn0 : Hid (bn0 = bad0.length)) (h_gn0 : Hid (gn0 = gap0.length)) (h_bn1 : Hid (bn1 = bad1.length)) (h_gn1 : Hid (gn1 = gap1.length)) (l_bn0 : bn0 ≤ 1000000000) (l_gn0 : gn0 ≤ 1000000000) (l_bn1 : bn1 ≤ 1000000000) (l_gn1 : gn1 ≤ 1000000000) (w : World) (hR0 : IRow w b0 bad0 ∧ bn0 ≤ bc0 ∧ IRow w g0 gap0 ∧ gn0 ≤ gc0 ∧ IRow w b1 bad1 ∧ bn1 ≤ bc1 ∧ IRow w g1 gap1 ∧ gn1 ≤ gc1) (a : Nat) (bit : Int) (hk : a < x1.size) (P TWo : Int) (TB : UInt8) (XN : ByteArray) (LB : List Int) (hw1 : Hid (IntKind.i64.wrap (p1 + (a : Int)) = P)) (hsh : Hid (∀ W, (Op.shift .shl .u8 1 .u64 ((IntKind.u64.wrap bit).tmod 8)).run Try.prog W = .ok (.int .u8 TWo) W)) (hxo : Hid (bits .xor .u8 (x1[a].toNat : Int) TWo = (TB.toNat : Int)))
    (hXN : Hid ((⟨((x1.data.toList.take a ++ [TB]) ++ x1.data.toList.drop (a + 1)).toArray⟩ : ByteArray) = XN)) (hLB : Hid (Ln.mark bad1 P = LB)) (hub : Hid (Ln.Up bad1)) :
    Calls Try.prog 27 #[.agg #[.string x0, .int .i64 p0, .slice b0 bn0 bc0, .slice g0 gn0 gc0, .string x1, .int .i64 p1, .slice b1 bn1 bc1, .slice g1 gn1 gc1, .bool true], .int .i64 1, .int .i64 a, .int .i64 bit] w fun e w' => RPost (x0) (p0) (bn0) (gn0) (XN) (p1) (LB.length) (gn1) (true) (bad0) (gap0) (LB) (gap1) (.int .i64 0) w e w' := by
  obtain ⟨s_b0, q_b0, s_g0, q_g0, s_b1, q_b1, s_g1, q_g1⟩ := hR0
  have HO : Hid (∀ W, Below w.heap.size w W → Calls Try.prog 44 #[.agg #[.string x0, .int .i64 p0, .slice b0 bn0 bc0, .slice g0 gn0 gc0, .string x1, .int .i64 p1, .slice b1 bn1 bc1, .slice g1 gn1 gc1, .bool true]] W fun e w' => OwnPost x0 p0 bn0 gn0 x1 p1 bn1 gn1 true bad0 gap0 bad1 gap1 W e w') := fun W hW => rown_cells x0 p0 b0 bn0 bc0 g0 gn0 gc0 x1 p1 b1 bn1 bc1 g1 gn1 gc1 true bad0 gap0 bad1 gap1 W h_bn0 h_gn0 h_bn1 h_gn1 l_bn0 l_gn0 l_bn1 l_gn1 ⟨s_b0.below hW, q_b0, s_g0.below hW, q_g0, s_b1.below hW, q_b1, s_g1.below hW, q_g1⟩
  clear s_b0 q_b0 s_g0 q_g0 s_b1 q_b1 s_g1 q_g1
  have kB1 : Rg.Bk w.heap.size [.string x0, .int .i64 p0, .slice b0 bn0 bc0, .slice g0 gn0 gc0, .string x1, .int .i64 p1, .slice b1 bn1 bc1, .slice g1 gn1 gc1, .bool true] 30 ((w.alloc (.cells #[.string x0, .int .i64 p0, .slice b0 bn0 bc0, .slice g0 gn0 gc0, .string x1, .int .i64 p1, .slice b1 bn1 bc1, .slice g1 gn1 gc1, .bool true] 30)).alloc (.cells #[.string ⟨#[]⟩, .int .i64 0, .slice none 0 0, .slice none 0 0, .string ⟨#[]⟩, .int .i64 0, .slice none 0 0, .slice none 0 0, .bool false] 30)) := (Rg.Bk.new rfl).old _
  have kR1 : Rg.Bk (w.heap.size + 1) [.string ⟨#[]⟩, .int .i64 0, .slice none 0 0, .slice none 0 0, .string ⟨#[]⟩, .int .i64 0, .slice none 0 0, .slice none 0 0, .bool false] 30 ((w.alloc (.cells #[.string x0, .int .i64 p0, .slice b0 bn0 bc0, .slice g0 gn0 gc0, .string x1, .int .i64 p1, .slice b1 bn1 bc1, .slice g1 gn1 gc1, .bool true] 30)).alloc (.cells #[.string ⟨#[]⟩, .int .i64 0, .slice none 0 0, .slice none 0 0, .string ⟨#[]⟩, .int .i64 0, .slice none 0 0, .slice none 0 0, .bool false] 30)) := Rg.Bk.new (by simp)
  have hb1 := Rg.al2 w (.cells #[.string x0, .int .i64 p0, .slice b0 bn0 bc0, .slice g0 gn0 gc0, .string x1, .int .i64 p1, .slice b1 bn1 bc1, .slice g1 gn1 gc1, .bool true] 30) (.cells #[.string ⟨#[]⟩, .int .i64 0, .slice none 0 0, .slice none 0 0, .string ⟨#[]⟩, .int .i64 0, .slice none 0 0, .slice none 0 0, .bool false] 30)
  go_enter Try.func27, Try.ntmps27
  go_upto_region 1 with fail
  generalize World.alloc _ _ = w1 at *
  obtain ⟨B, hB⟩ : ∃ B, B = w.heap.size := ⟨_, rfl⟩
  obtain ⟨R, hR⟩ : ∃ R, R = w.heap.size + 1 := ⟨_, rfl⟩
  rw [← hR] at kR1 ⊢
  rw [← hB] at kB1 ⊢
  have hBR : B ≠ R := by omega
  have hBw : w.heap.size ≤ B := by omega
  have hRw : w.heap.size ≤ R := by omega
  clear hB hR
  have z0 : w1.cell? ⟨B, 0, none⟩ = some (.string x0) := kB1.cell 0
  have z1 : w1.cell? ⟨B, 1, none⟩ = some (.int .i64 p0) := kB1.cell 1
  have z2 : w1.cell? ⟨B, 2, none⟩ = some (.slice b0 bn0 bc0) := kB1.cell 2
  have z3 : w1.cell? ⟨B, 3, none⟩ = some (.slice g0 gn0 gc0) := kB1.cell 3
  have z4 : w1.cell? ⟨B, 4, none⟩ = some (.string x1) := kB1.cell 4
  have z5 : w1.cell? ⟨B, 5, none⟩ = some (.int .i64 p1) := kB1.cell 5
  have z6 : w1.cell? ⟨B, 6, none⟩ = some (.slice b1 bn1 bc1) := kB1.cell 6
  have z7 : w1.cell? ⟨B, 7, none⟩ = some (.slice g1 gn1 gc1) := kB1.cell 7
  have z8 : w1.cell? ⟨B, 8, none⟩ = some (.bool true) := kB1.cell 8
  replace kB1 := Rg.hid kB1
  replace kR1 := Rg.hid kR1
  replace hb1 := Rg.hid hb1
  go_upto_region 2 with (go_at_call 44; refine (HO.out _ hb1.out).mono ?_; rintro e w2 ⟨b0', bc0', g0', gc0', b1', bc1', g1', gc1', rfl, ⟨r_b0, q_b0, r_g0, q_g0, r_b1, q_b1, r_g1, q_g1⟩, b2⟩; have kB2 := kB1.out.below b2 kB1.out.lt; have y0 := kB2.cell 0; have y1 := kB2.cell 1; have y2 := kB2.cell 2; have y3 := kB2.cell 3; have y4 := kB2.cell 4; have y5 := kB2.cell 5; have y6 := kB2.cell 6; have y7 := kB2.cell 7; have y8 := kB2.cell 8; simp only [List.getElem?_cons_zero, List.getElem?_cons_succ] at y0 y1 y2 y3 y4 y5 y6 y7 y8; have yf := kB2.thaw)
  obtain ⟨kB3, oB⟩ := ret9 kB2 rfl (.string x0) (.int .i64 p0) (.slice b0' bn0 bc0') (.slice g0' gn0 gc0') (.string x1) (.int .i64 p1) (.slice b1' bn1 bc1') (.slice g1' gn1 gc1') (.bool true)
  replace r_b0 := Rg.hid (r_b0.only kB2 line_int oB)
  replace r_g0 := Rg.hid (r_g0.only kB2 line_int oB)
  replace r_b1 := Rg.hid (r_b1.only kB2 line_int oB)
  replace r_g1 := Rg.hid (r_g1.only kB2 line_int oB)
  have kR3 := (kR1.out.below b2 kR1.out.lt).same (oB.block _ (Ne.symm hBR))
  have hb3 := Rg.hid ((Rg.chain hb1.out b2).trans (oB.bel hBw))
  clear kB1 kR1 hb1 kB2 oB b2 yf y0 y1 y2 y3 y4 y5 y6 y7 y8 z0 z1 z2 z3 z4 z5 z6 z7 z8 HO
  generalize World.setCell _ _ _ = w3 at *
  have HT : Hid (∀ W, Calls Try.prog 45 #[.agg #[.string x0, .int .i64 p0, .slice b0' bn0 bc0', .slice g0' gn0 gc0', .string x1, .int .i64 p1, .slice b1' bn1 bc1', .slice g1' gn1 gc1', .bool true], .int .i64 1, .int .i64 a] W fun e w' => e = .returned (.bool true) ∧ Below W.heap.size W w') := fun W => by
    have := rthere_up1 x0 p0 b0' bn0 bc0' g0' gn0 gc0' x1 p1 b1' bn1 bc1' g1' gn1 gc1' (a : Int) W
    rw [show decide (0 ≤ (a : Int) ∧ (a : Int) < (x1.size : Int)) = true by simp only [decide_eq_true_eq]; omega] at this
    exact this
  have u0 : w3.cell? ⟨B, 0, none⟩ = some (.string x0) := kB3.cell 0
  have u1 : w3.cell? ⟨B, 1, none⟩ = some (.int .i64 p0) := kB3.cell 1
  have u2 : w3.cell? ⟨B, 2, none⟩ = some (.slice b0' bn0 bc0') := kB3.cell 2
  have u3 : w3.cell? ⟨B, 3, none⟩ = some (.slice g0' gn0 gc0') := kB3.cell 3
  have u4 : w3.cell? ⟨B, 4, none⟩ = some (.string x1) := kB3.cell 4
  have u5 : w3.cell? ⟨B, 5, none⟩ = some (.int .i64 p1) := kB3.cell 5
  have u6 : w3.cell? ⟨B, 6, none⟩ = some (.slice b1' bn1 bc1') := kB3.cell 6
  have u7 : w3.cell? ⟨B, 7, none⟩ = some (.slice g1' gn1 gc1') := kB3.cell 7
  have u8 : w3.cell? ⟨B, 8, none⟩ = some (.bool true) := kB3.cell 8
  replace kB3 := Rg.hid kB3
  replace kR3 := Rg.hid kR3
  go_upto_region 4 with (go_at_call 45; refine (HT.out _).mono ?_; rintro e w4 ⟨rfl, b4⟩)
  have kB4 := kB3.out.below b4 kB3.out.lt
  have kR4 := Rg.hid (kR3.out.below b4 kR3.out.lt)
  have hb4 := Rg.hid (Rg.chain hb3.out b4)
  replace r_b0 := Rg.hid (r_b0.out.below b4)
  replace r_g0 := Rg.hid (r_g0.out.below b4)
  replace r_b1 := Rg.hid (r_b1.out.below b4)
  replace r_g1 := Rg.hid (r_g1.out.below b4)
  clear kB3 kR3 hb3 b4 HT u0 u1 u2 u3 u4 u5 u6 u7 u8
  have hYB0 := kB4.lt
  obtain ⟨CP, w5, hcv, b5, y0, yf, hcb, b6⟩ := bytes_set w4 x1 a hk TB
  have hXN' := hXN.out
  rw [hXN'] at hcb
  clear hXN' hXN
  have kB5 := Rg.hid (kB4.below b6 kB4.lt)
  have kR5 := Rg.hid (kR4.out.below b6 kR4.out.lt)
  have hb5 := Rg.hid (Rg.chain hb4.out b6)
  replace r_b0 := Rg.hid (r_b0.out.below b6)
  replace r_g0 := Rg.hid (r_g0.out.below b6)
  replace r_b1 := Rg.hid (r_b1.out.below b6)
  replace r_g1 := Rg.hid (r_g1.out.below b6)
  clear b5 b6 kR4 hb4
  generalize w4.heap.size = Y at *
  have v0 : w4.cell? ⟨B, 4, none⟩ = some (.string x1) := kB4.cell 4
  have e0 : (0 : Int) ≤ (a : Int) := by omega
  have e1 : (a : Int) < (x1.size : Int) := by omega
  have hxo' := hxo.out
  have hYB : ¬ B = Y := by omega
  have hsh' := hsh.out
  have hn5 : B < Y := by omega
  replace kB4 := Rg.hid kB4
  go_upto_region 6 with fail
  have v0' : (w5.setCell ⟨Y, a, none⟩ (.int .u8 (TB.toNat : Int))).cell? ⟨B, 4, none⟩ = some (.string x1) := kB5.out.cell 4
  have vf := kB5.out.thaw
  clear y0 yf hcv v0 hxo' hxo hsh' hsh
  generalize World.setCell _ _ _ = w6 at *
  go_upto_region 7 with fail
  have kB7 : Rg.Bk B [.string x0, .int .i64 p0, .slice b0' bn0 bc0', .slice g0' gn0 gc0', .string XN, .int .i64 p1, .slice b1' bn1 bc1', .slice g1' gn1 gc1', .bool true] 30 (w6.setCell ⟨B, 4, none⟩ (.string XN)) := kB5.out.set 4 (.string XN)
  have o7 := Rg.Only.setCell w6 B 4 (.string XN)
  have kR7 := Rg.hid (kR5.out.same (o7.block R (Ne.symm hBR)))
  have hb7 := Rg.hid (hb5.out.trans (o7.bel hBw))
  replace r_b0 := Rg.hid (r_b0.out.only kB5.out line_int o7)
  replace r_g0 := Rg.hid (r_g0.out.only kB5.out line_int o7)
  replace r_b1 := Rg.hid (r_b1.out.only kB5.out line_int o7)
  replace r_g1 := Rg.hid (r_g1.out.only kB5.out line_int o7)
  clear v0' vf kB5 kB4 kR5 hb5 o7 hcb
  generalize World.setCell _ _ _ = w7 at *
  have z1 : w7.cell? ⟨B, 5, none⟩ = some (.int .i64 p1) := kB7.cell 5
  have z2 : w7.cell? ⟨B, 6, none⟩ = some (.slice b1' bn1 bc1') := kB7.cell 6
  replace kB7 := Rg.hid kB7
  have HM2 : Hid (∀ W, Below w7.heap.size w7 W → Calls Try.prog 46 #[.slice b1' bn1 bc1', .int .i64 P] W fun e w' => ∃ a8 c8 NB, e = .returned (.slice a8 NB c8) ∧ Hid (NB = LB.length) ∧ Hid (IRow w' a8 LB) ∧ NB ≤ c8 ∧ Hid (Below w7.heap.size w7 w') ∧ (∀ i, w'.frozen? ⟨B, i, none⟩ = false) ∧ w'.cell? ⟨B, 5, none⟩ = some (.int .i64 p1) ∧ w'.cell? ⟨B, 6, none⟩ = some (.slice b1' bn1 bc1')) := fun W hW => by
    have := rmark_any b1' bc1' bad1 P W (by rw [← h_bn1.out]; exact l_bn1) hub.out (by rw [← h_bn1.out]; exact q_b1) (r_b1.out.below hW)
    rw [← h_bn1.out, hLB.out] at this
    refine this.mono fun e w' ⟨a8, c8, h1, h2, h3, h4⟩ => ?_
    have kk := kB7.out.below (Rg.chain hW h4) kB7.out.lt
    exact ⟨a8, c8, _, h1, rfl, h2, h3, Rg.chain hW h4, kk.thaw, kk.cell 5, kk.cell 6⟩
  have hw1' := hw1.out
  clear hw1 hLB hub
  go_cut [] (fun wx => ∃ a8 c8 NB, Hid (NB = LB.length) ∧ NB ≤ c8 ∧ Hid (IRow wx a8 LB) ∧ Hid (IRow wx b0' bad0) ∧ Hid (IRow wx g0' gap0) ∧ Hid (IRow wx g1' gap1) ∧ Hid (Rg.Bk B [.string x0, .int .i64 p0, .slice b0' bn0 bc0', .slice g0' gn0 gc0', .string XN, .int .i64 p1, .slice a8 NB c8, .slice g1' gn1 gc1', .bool true] 30 wx) ∧ Hid (Rg.Bk R [.string ⟨#[]⟩, .int .i64 0, .slice none 0 0, .slice none 0 0, .string ⟨#[]⟩, .int .i64 0, .slice none 0 0, .slice none 0 0, .bool false] 30 wx) ∧ Hid (Below w.heap.size w wx))
  case first =>
    go_region_with (first
      | (go_at_call 46; refine (HM2.out _ ?_).mono ?_; (first | exact Below.refl _ _ | exact (Below.refl _ _).drew); rintro e w8 ⟨a8, c8, NB, rfl, hNB, hr8, hc8, b8, yf, y1, y2⟩))
    all_goals go_wp2_with fail
    all_goals go_meet
    all_goals (have kB8 := kB7.out.below b8.out kB7.out.lt; have o8 := Rg.Only.setCell w8 B 6 (.slice a8 NB c8); exact ⟨a8, c8, NB, hNB, hc8, hr8.out.only kB8 line_int o8, (r_b0.out.below b8.out).only kB8 line_int o8, (r_g0.out.below b8.out).only kB8 line_int o8, (r_g1.out.below b8.out).only kB8 line_int o8, kB8.set 6 (.slice a8 NB c8), (kR7.out.below b8.out kR7.out.lt).same (o8.block R (Ne.symm hBR)), (Rg.chain hb7.out b8.out).trans (o8.bel hBw)⟩)
  case rest =>
    clear r_b0 r_g0 r_b1 r_g1
    obtain ⟨a8, c8, NB, hNB, hc8, r_b1, r_b0, r_g0, r_g1, kB10', kR10', hb10⟩ := hcut
    obtain ⟨w10, hw10⟩ : ∃ w10, w10 = wc := ⟨_, rfl⟩
    subst hw10
    have hNe := hNB.out
    subst hNe
    have kB10 := kB10'.out
    have kR10 := kR10'.out
    clear kB10' kR10' HM2 kB7 kR7 hb7 z1 z2 hw1' hNB
    go_upto_region 8 with fail
    obtain ⟨kE, oE⟩ := ret9 kR10 rfl (.string x0) (.int .i64 p0) (.slice b0' bn0 bc0') (.slice g0' gn0 gc0') (.string XN) (.int .i64 p1) (.slice a8 LB.length c8) (.slice g1' gn1 gc1') (.bool true)
    have post := Rg.hid ((⟨_, _, _, _, _, _, _, _, rfl, ⟨r_b0.out.only kR10 line_int oE, q_b0, r_g0.out.only kR10 line_int oE, q_g0, r_b1.out.only kR10 line_int oE, hc8, r_g1.out.only kR10 line_int oE, q_g1⟩, hb10.out.trans (oE.bel hRw)⟩ : RPost (x0) (p0) (bn0) (gn0) (XN) (p1) (LB.length) (gn1) (true) (bad0) (gap0) (LB) (gap1) (.int .i64 0) w (.returned (.tuple #[.agg #[.string x0, .int .i64 p0, .slice b0' bn0 bc0', .slice g0' gn0 gc0', .string XN, .int .i64 p1, .slice a8 LB.length c8, .slice g1' gn1 gc1', .bool true], .int .i64 0])) _))
    replace kE := Rg.hid kE
    have d0' : w10.cell? ⟨B, 0, none⟩ = some (.string x0) := kB10.cell 0
    have d1' : w10.cell? ⟨B, 1, none⟩ = some (.int .i64 p0) := kB10.cell 1
    have d2' : w10.cell? ⟨B, 2, none⟩ = some (.slice b0' bn0 bc0') := kB10.cell 2
    have d3' : w10.cell? ⟨B, 3, none⟩ = some (.slice g0' gn0 gc0') := kB10.cell 3
    have d4' : w10.cell? ⟨B, 4, none⟩ = some (.string XN) := kB10.cell 4
    have d5' : w10.cell? ⟨B, 5, none⟩ = some (.int .i64 p1) := kB10.cell 5
    have d6' : w10.cell? ⟨B, 6, none⟩ = some (.slice a8 LB.length c8) := kB10.cell 6
    have d7' : w10.cell? ⟨B, 7, none⟩ = some (.slice g1' gn1 gc1') := kB10.cell 7
    have d8' : w10.cell? ⟨B, 8, none⟩ = some (.bool true) := kB10.cell 8
    have r0 : w10.cell? ⟨R, 0, none⟩ = some (.string ⟨#[]⟩) := kR10.cell 0
    have r1 : w10.cell? ⟨R, 1, none⟩ = some (.int .i64 0) := kR10.cell 1
    have r2 : w10.cell? ⟨R, 2, none⟩ = some (.slice none 0 0) := kR10.cell 2
    have r3 : w10.cell? ⟨R, 3, none⟩ = some (.slice none 0 0) := kR10.cell 3
    have r4 : w10.cell? ⟨R, 4, none⟩ = some (.string ⟨#[]⟩) := kR10.cell 4
    have r5 : w10.cell? ⟨R, 5, none⟩ = some (.int .i64 0) := kR10.cell 5
    have r6 : w10.cell? ⟨R, 6, none⟩ = some (.slice none 0 0) := kR10.cell 6
    have r7 : w10.cell? ⟨R, 7, none⟩ = some (.slice none 0 0) := kR10.cell 7
    have r8 : w10.cell? ⟨R, 8, none⟩ = some (.bool false) := kR10.cell 8
    have rf := kR10.thaw
    clear oE kR10 kB10 hb10
    go_wp2
    replace kE := kE.out
    replace post := post.out
    generalize World.setCell _ _ _ = WE at *
    exact bodyPost_ret (v := .tuple #[.agg #[.string x0, .int .i64 p0, .slice b0' bn0 bc0', .slice g0' gn0 gc0', .string XN, .int .i64 p1, .slice a8 LB.length c8, .slice g1' gn1 gc1', .bool true], .int .i64 0]) (by simp [results, Try.results27, go_sem, kE.cell]) rfl post
end Go.Proofs.Ytalleocmnnnchaa
