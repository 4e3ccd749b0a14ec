/-
  Layer 7: Flip.
-/
import Derived.Test.YtalleocmnnnchaaLn12
import Derived.Test.YtalleocmnnnchaaBits2
namespace Go.Proofs.Ytalleocmnnnchaa
open Go.RowKit

namespace Ln
/-- the number of the bit that is turned -/
def bitOf (bit : Int) : Nat := (IntKind.u64.wrap bit % 8).toNat
def turn (c : UInt8) (bit : Int) : UInt8 := UInt8.ofNat (c.toNat ^^^ 2 ^ bitOf bit)
theorem bitOf_lt (bit : Int) : bitOf bit < 8 := by unfold bitOf; omega
theorem bitOf_eq (bit : Int) : (IntKind.u64.wrap bit).tmod 8 = (bitOf bit : Int) := by
  have h : 0 ≤ IntKind.u64.wrap bit := by rw [IntKind.wrap_u64]; omega
  rw [Int.tmod_eq_emod_of_nonneg h]
  unfold bitOf
  omega
theorem two_lt {r : Nat} (h : r < 8) : 2 ^ r < 256 := Nat.lt_of_lt_of_le (Nat.pow_lt_pow_right (by omega) h) (by decide)
theorem turn_toNat (c : UInt8) (bit : Int) : (turn c bit).toNat = c.toNat ^^^ 2 ^ bitOf bit := by
  unfold turn
  have h1 : c.toNat < 2 ^ 8 := c.toNat_lt
  have h2 : 2 ^ bitOf bit < 2 ^ 8 := Nat.pow_lt_pow_right (by omega) (bitOf_lt bit)
  have := Nat.xor_lt_two_pow h1 h2
  simp only [UInt8.toNat_ofNat']
  exact Nat.mod_eq_of_lt this
end Ln
theorem shl_run (bit : Int) (W : World) : (Op.shift .shl .u8 1 .u64 ((IntKind.u64.wrap bit).tmod 8)).run Try.prog W = .ok (.int .u8 ((2 ^ Ln.bitOf bit : Nat) : Int)) W := by
  rw [Ln.bitOf_eq]
  have h := Ln.bitOf_lt bit
  generalize Ln.bitOf bit = r at *
  have : r = 0 ∨ r = 1 ∨ r = 2 ∨ r = 3 ∨ r = 4 ∨ r = 5 ∨ r = 6 ∨ r = 7 := by omega
  rcases this with rfl | rfl | rfl | rfl | rfl | rfl | rfl | rfl <;> rfl

set_option maxHeartbeats 2000000 in
set_option maxRecDepth 100000 in
theorem lflip_ok0 (x0 : ByteArray) (p0 : Int) (b0 : Option Addr) (bn0 bc0 : Nat) (g0 : Option Addr) (gn0 gc0 : Nat) (x1 : ByteArray) (p1 : Int) (b1 : Option Addr) (bn1 bc1 : Nat) (g1 : Option Addr) (gn1 gc1 : Nat) (k : Nat) (bit : Int) (bad : List Int) (w : World) (hk : k < x0.size) (hx : x0.size ≤ 1000000) (hp : 0 ≤ p0) (hp2 : p0 ≤ 1000000000) (hbn : bn0 = bad.length) (hbl : bad.length ≤ 100000000) (hbc : bn0 ≤ bc0) (hub : Ln.Up bad) (hrb : IRow w b0 bad) :
    Calls Try.prog 22 #[.agg #[.string x0, .int .i64 p0, .slice b0 bn0 bc0, .slice g0 gn0 gc0, .string x1, .int .i64 p1, .slice b1 bn1 bc1, .slice g1 gn1 gc1, .bool true], .int .i64 0, .int .i64 k, .int .i64 bit] w fun e w' => ∃ ba bc, e = .returned (.tuple #[.agg #[.string ⟨((x0.data.toList.take k ++ [Ln.turn (x0[k]) bit]) ++ x0.data.toList.drop (k + 1)).toArray⟩, .int .i64 p0, .slice ba (Ln.mark bad (p0 + k)).length bc, .slice g0 gn0 gc0, .string x1, .int .i64 p1, .slice b1 bn1 bc1, .slice g1 gn1 gc1, .bool true], .int .i64 0]) ∧ IRow w' ba (Ln.mark bad (p0 + k)) ∧ (Ln.mark bad (p0 + k)).length ≤ bc ∧ Below w.heap.size w w' := by
  have HC : Hid (∀ W, Calls Try.prog 38 #[.agg #[.string x0, .int .i64 p0, .slice b0 bn0 bc0, .slice g0 gn0 gc0, .string x1, .int .i64 p1, .slice b1 bn1 bc1, .slice g1 gn1 gc1, .bool true], .int .i64 0] W fun e w' => e = .returned (.bool true) ∧ Below W.heap.size W w') := fun W => lcarries0 x0 p0 b0 bn0 bc0 g0 gn0 gc0 x1 p1 b1 bn1 bc1 g1 gn1 gc1 true W
  have HU : Hid (∀ W, Calls Try.prog 39 #[.agg #[.string x0, .int .i64 p0, .slice b0 bn0 bc0, .slice g0 gn0 gc0], .int .i64 k] W fun e w' => e = .returned (.bool true) ∧ Below W.heap.size W w') := fun W => by
    have := lunder_any x0 p0 b0 bn0 bc0 g0 gn0 gc0 (k : Int) W
    rw [show decide (0 ≤ (k : Int) ∧ (k : Int) < (x0.size : Int)) = true by simp; omega] at this
    exact this
  have HM : Hid (∀ W, Below w.heap.size w W → Calls Try.prog 43 #[.slice b0 bn0 bc0, .int .i64 (p0 + k)] W fun e w' => IPost W (Ln.mark bad (p0 + k)) e w') := fun W hW => by rw [hbn]; exact lmark_any b0 bc0 bad (p0 + k) W (by omega) (by omega) hub (hrb.below hW)
  have hw1' : wrap64 (p0 + (k : Int)) = p0 + (k : Int) := by unfold wrap64; omega
  have hw1 : IntKind.i64.wrap (p0 + (k : Int)) = p0 + (k : Int) := by rw [IntKind.wrap_i64]; omega
  obtain ⟨P, hP⟩ : ∃ P : Int, P = p0 + (k : Int) := ⟨_, rfl⟩
  rw [← hP] at HM ⊢
  replace hw1 : IntKind.i64.wrap (p0 + (k : Int)) = P := by rw [hw1, hP]
  replace hw1' : wrap64 (p0 + (k : Int)) = P := by rw [hw1', hP]
  replace hP := Rg.hid hP
  have e0 : (0 : Int) ≤ (k : Int) := by omega
  have e1 : (k : Int) < (x0.size : Int) := by omega
  generalize Ln.mark bad P = LB at *
  clear hbn hbl hbc hub hrb hp hp2
  have hsh : ∀ W, (Op.shift .shl .u8 1 .u64 ((IntKind.u64.wrap bit).tmod 8)).run Try.prog W = .ok (.int .u8 ((2 ^ Ln.bitOf bit : Nat) : Int)) W := fun W => shl_run bit W
  have hxo : bits .xor .u8 (x0[k].toNat : Int) ((2 ^ Ln.bitOf bit : Nat) : Int) = ((Ln.turn x0[k] bit).toNat : Int) := by rw [Bit.xor_u8 _ _ (x0[k].toNat_lt) (Ln.two_lt (Ln.bitOf_lt bit)), Ln.turn_toNat]
  have HSp0 := fun W vb (hv : ∀ W', Below W.heap.size W W' → W'.cell? ⟨vb, 0, none⟩ = some (.int .u8 ((Ln.turn x0[k] bit).toNat : Int))) => splice_in x0 k 1 (Ln.turn x0[k] bit) vb W (by omega) (by omega) hv
  generalize Ln.turn x0[k] bit = TB at *
  generalize ((2 ^ Ln.bitOf bit : Nat) : Int) = TW at *
  have HSp : Hid (∀ W, Calls Try.prog 40 #[.string x0, .int .i64 k, .int .i64 1, .slice (some ⟨W.heap.size, 0, none⟩) 1 1] (W.alloc (.cells #[.int .u8 (TB.toNat : Int)] 5)) fun e w' => e = .returned (.string ⟨((x0.data.toList.take k ++ [TB]) ++ x0.data.toList.drop (k + 1)).toArray⟩) ∧ Below W.heap.size W w') := fun W => (HSp0 (W.alloc (.cells #[.int .u8 (TB.toNat : Int)] 5)) W.heap.size (fun W' hb => Rg.Bk.cell (Rg.Bk.below (Rg.Bk.new rfl) hb (by simp)) 0)).mono fun e w' ⟨h1, h2⟩ => ⟨h1, Rg.chain (Rg.al1 _ _) h2⟩
  clear HSp0
  generalize (⟨((x0.data.toList.take k ++ [TB]) ++ x0.data.toList.drop (k + 1)).toArray⟩ : ByteArray) = XN at *

  have kB1 : Rg.Bk w.heap.size [.string x0, .int .i64 p0, .slice b0 bn0 bc0, .slice g0 gn0 gc0, .string x1, .int .i64 p1, .slice b1 bn1 bc1, .slice g1 gn1 gc1, .bool true] 30 ((w.alloc (.cells #[.string x0, .int .i64 p0, .slice b0 bn0 bc0, .slice g0 gn0 gc0, .string x1, .int .i64 p1, .slice b1 bn1 bc1, .slice g1 gn1 gc1, .bool true] 30)).alloc (.cells #[.string ⟨#[]⟩, .int .i64 0, .slice none 0 0, .slice none 0 0, .string ⟨#[]⟩, .int .i64 0, .slice none 0 0, .slice none 0 0, .bool false] 30)) := (Rg.Bk.new rfl).old _
  have kR1 : Rg.Bk (w.heap.size + 1) [.string ⟨#[]⟩, .int .i64 0, .slice none 0 0, .slice none 0 0, .string ⟨#[]⟩, .int .i64 0, .slice none 0 0, .slice none 0 0, .bool false] 30 ((w.alloc (.cells #[.string x0, .int .i64 p0, .slice b0 bn0 bc0, .slice g0 gn0 gc0, .string x1, .int .i64 p1, .slice b1 bn1 bc1, .slice g1 gn1 gc1, .bool true] 30)).alloc (.cells #[.string ⟨#[]⟩, .int .i64 0, .slice none 0 0, .slice none 0 0, .string ⟨#[]⟩, .int .i64 0, .slice none 0 0, .slice none 0 0, .bool false] 30)) := Rg.Bk.new (by simp)
  have hb1 := Rg.al2 w (.cells #[.string x0, .int .i64 p0, .slice b0 bn0 bc0, .slice g0 gn0 gc0, .string x1, .int .i64 p1, .slice b1 bn1 bc1, .slice g1 gn1 gc1, .bool true] 30) (.cells #[.string ⟨#[]⟩, .int .i64 0, .slice none 0 0, .slice none 0 0, .string ⟨#[]⟩, .int .i64 0, .slice none 0 0, .slice none 0 0, .bool false] 30)
  go_enter Try.func22, Try.ntmps22
  go_upto_region 1 with fail
  generalize World.alloc _ _ = w1 at *
  obtain ⟨B, hB⟩ : ∃ B, B = w.heap.size := ⟨_, rfl⟩
  obtain ⟨R, hR⟩ : ∃ R, R = w.heap.size + 1 := ⟨_, rfl⟩
  rw [← hR] at kR1 ⊢
  rw [← hB] at kB1 ⊢
  have hBR : B ≠ R := by omega
  have hBw : w.heap.size ≤ B := by omega
  have hRw : w.heap.size ≤ R := by omega
  clear hB hR
  have z0 : w1.cell? ⟨B, 0, none⟩ = some (.string x0) := kB1.cell 0
  have z1 : w1.cell? ⟨B, 1, none⟩ = some (.int .i64 p0) := kB1.cell 1
  have z2 : w1.cell? ⟨B, 2, none⟩ = some (.slice b0 bn0 bc0) := kB1.cell 2
  have z3 : w1.cell? ⟨B, 3, none⟩ = some (.slice g0 gn0 gc0) := kB1.cell 3
  have z4 : w1.cell? ⟨B, 4, none⟩ = some (.string x1) := kB1.cell 4
  have z5 : w1.cell? ⟨B, 5, none⟩ = some (.int .i64 p1) := kB1.cell 5
  have z6 : w1.cell? ⟨B, 6, none⟩ = some (.slice b1 bn1 bc1) := kB1.cell 6
  have z7 : w1.cell? ⟨B, 7, none⟩ = some (.slice g1 gn1 gc1) := kB1.cell 7
  have z8 : w1.cell? ⟨B, 8, none⟩ = some (.bool true) := kB1.cell 8
  have kB1' := Rg.hid kB1
  have kR1' := Rg.hid kR1
  have hb1' := Rg.hid hb1
  clear kB1 kR1 hb1
  go_upto_region 3 with (first
    | (go_at_call 38; refine (HC.out _).mono ?_; rintro e w2 ⟨rfl, b2⟩; have kB2 := kB1'.out.below b2 kB1'.out.lt; have y0 := kB2.cell 0; have y1 := kB2.cell 1; have y2 := kB2.cell 2; have y3 := kB2.cell 3; simp only [List.getElem?_cons_zero, List.getElem?_cons_succ] at y0 y1 y2 y3)
    | (go_at_call 39; refine (HU.out _).mono ?_; rintro e w3 ⟨rfl, b3⟩))
  have kB3 := kB2.below b3 kB2.lt
  have kR3 := Rg.hid ((kR1'.out.below b2 kR1'.out.lt).below b3 (kR1'.out.below b2 kR1'.out.lt).lt)
  have hb3 := Rg.hid (Rg.chain (Rg.chain hb1'.out b2) b3)
  clear kB2 kB1' kR1' hb1' b2 b3 HC HU y0 y1 y2 y3 z0 z1 z2 z3 z4 z5 z6 z7 z8
  have z0 : w3.cell? ⟨B, 0, none⟩ = some (.string x0) := kB3.cell 0
  have kB3' := Rg.hid kB3
  clear kB3
  go_upto_region 5 with fail
  go_upto_region 6 with (go_at_call 40; refine (HSp.out _).mono ?_; rintro e w5 ⟨rfl, b5⟩; have kB5 := kB3'.out.below b5 kB3'.out.lt; have y := kB5.cell 0; have yf := kB5.thaw; simp only [List.getElem?_cons_zero] at y)
  have kB6 : Rg.Bk B [.string XN, .int .i64 p0, .slice b0 bn0 bc0, .slice g0 gn0 gc0, .string x1, .int .i64 p1, .slice b1 bn1 bc1, .slice g1 gn1 gc1, .bool true] 30 (w5.setCell ⟨B, 0, none⟩ (.string XN)) := kB5.set 0 (.string XN)
  have o6 := Rg.Only.setCell w5 B 0 (.string XN)
  have kR6 := Rg.hid ((kR3.out.below b5 kR3.out.lt).same (o6.block R (Ne.symm hBR)))
  have hb6 := Rg.hid ((Rg.chain hb3.out b5).trans (o6.bel hBw))
  clear y yf kB5 kB3' kR3 hb3 b5 o6 z0 HSp hsh hxo
  generalize World.setCell _ _ _ = w6 at *
  have z1 : w6.cell? ⟨B, 1, none⟩ = some (.int .i64 p0) := kB6.cell 1
  have z2 : w6.cell? ⟨B, 2, none⟩ = some (.slice b0 bn0 bc0) := kB6.cell 2
  have kB6' := Rg.hid kB6
  clear kB6
  have HM2 : Hid (∀ W, Below w6.heap.size w6 W → Calls Try.prog 43 #[.slice b0 bn0 bc0, .int .i64 P] W fun e w' => ∃ a8 c8 NB, e = .returned (.slice a8 NB c8) ∧ Hid (NB = LB.length) ∧ Hid (IRow w' a8 LB) ∧ NB ≤ c8 ∧ Hid (Below W.heap.size W w') ∧ Hid (Below w6.heap.size w6 w') ∧ (∀ i, w'.frozen? ⟨B, i, none⟩ = false) ∧ w'.cell? ⟨B, 1, none⟩ = some (.int .i64 p0) ∧ w'.cell? ⟨B, 2, none⟩ = some (.slice b0 bn0 bc0)) := fun W hW => (HM.out W (Rg.chain hb6.out hW)).mono fun e w' ⟨a8, c8, h1, h2, h3, h4⟩ => by
    have kk := kB6'.out.below (Rg.chain hW h4) kB6'.out.lt
    exact ⟨a8, c8, _, h1, rfl, h2, h3, h4, Rg.chain hW h4, kk.thaw, kk.cell 1, kk.cell 2⟩
  clear HM
  go_cut [] (fun wx => ∃ a8 c8 NB, Hid (NB = LB.length) ∧ NB ≤ c8 ∧ Hid (IRow wx a8 LB) ∧ Hid (Rg.Bk B [.string XN, .int .i64 p0, .slice a8 NB c8, .slice g0 gn0 gc0, .string x1, .int .i64 p1, .slice b1 bn1 bc1, .slice g1 gn1 gc1, .bool true] 30 wx) ∧ Hid (Rg.Bk R [.string ⟨#[]⟩, .int .i64 0, .slice none 0 0, .slice none 0 0, .string ⟨#[]⟩, .int .i64 0, .slice none 0 0, .slice none 0 0, .bool false] 30 wx) ∧ Below w.heap.size w wx)
  case first =>
    go_region_with (first
      | (go_at_call 43; refine (HM2.out _ ?_).mono ?_; (first | exact Below.refl _ _ | exact (Below.refl _ _).drew); rintro e w8 ⟨a8, c8, NB, rfl, hNB, hr8, hc8, b8, b8', yf, y1, y2⟩))
    all_goals go_wp2_with fail
    all_goals go_meet
    all_goals (have kB8 := kB6'.out.below b8'.out kB6'.out.lt; have o8 := Rg.Only.setCell w8 B 2 (.slice a8 NB c8); exact ⟨a8, c8, NB, hNB, hc8, hr8.out.only kB8 line_int o8, kB8.set 2 (.slice a8 NB c8), (kR6.out.below b8'.out kR6.out.lt).same (o8.block R (Ne.symm hBR)), (Rg.chain hb6.out b8'.out).trans (o8.bel hBw)⟩)
  case rest =>
    obtain ⟨a8, c8, NB, hNB, hc8, hr10', kB10', kR10', hb10⟩ := hcut
    obtain ⟨w10, hw10⟩ : ∃ w10, w10 = wc := ⟨_, rfl⟩
    subst hw10
    have hr10 := hr10'.out
    have kB10 := kB10'.out
    have kR10 := kR10'.out
    clear hr10' kB10' kR10' HM2 kB6' kR6 hb6 z1 z2
    go_upto_region 7 with fail
    obtain ⟨kE, oE⟩ := ret9 kR10 rfl (.string XN) (.int .i64 p0) (.slice a8 NB c8) (.slice g0 gn0 gc0) (.string x1) (.int .i64 p1) (.slice b1 bn1 bc1) (.slice g1 gn1 gc1) (.bool true)
    have post := Rg.hid ((⟨a8, c8, by rw [hNB.out], hr10.only kR10 line_int oE, by rw [← hNB.out]; exact hc8, hb10.trans (oE.bel hRw)⟩ : ∃ ba bc, Ending.returned (.tuple #[.agg #[.string XN, .int .i64 p0, .slice a8 NB c8, .slice g0 gn0 gc0, .string x1, .int .i64 p1, .slice b1 bn1 bc1, .slice g1 gn1 gc1, .bool true], .int .i64 0]) = .returned (.tuple #[.agg #[.string XN, .int .i64 p0, .slice ba LB.length bc, .slice g0 gn0 gc0, .string x1, .int .i64 p1, .slice b1 bn1 bc1, .slice g1 gn1 gc1, .bool true], .int .i64 0]) ∧ IRow _ ba LB ∧ LB.length ≤ bc ∧ Below w.heap.size w _))
    replace kE := Rg.hid kE
    have d0' : w10.cell? ⟨B, 0, none⟩ = some (.string XN) := kB10.cell 0
    have d1' : w10.cell? ⟨B, 1, none⟩ = some (.int .i64 p0) := kB10.cell 1
    have d2' : w10.cell? ⟨B, 2, none⟩ = some (.slice a8 NB c8) := kB10.cell 2
    have d3' : w10.cell? ⟨B, 3, none⟩ = some (.slice g0 gn0 gc0) := kB10.cell 3
    have d4' : w10.cell? ⟨B, 4, none⟩ = some (.string x1) := kB10.cell 4
    have d5' : w10.cell? ⟨B, 5, none⟩ = some (.int .i64 p1) := kB10.cell 5
    have d6' : w10.cell? ⟨B, 6, none⟩ = some (.slice b1 bn1 bc1) := kB10.cell 6
    have d7' : w10.cell? ⟨B, 7, none⟩ = some (.slice g1 gn1 gc1) := kB10.cell 7
    have d8' : w10.cell? ⟨B, 8, none⟩ = some (.bool true) := kB10.cell 8
    have r0 : w10.cell? ⟨R, 0, none⟩ = some (.string ⟨#[]⟩) := kR10.cell 0
    have r1 : w10.cell? ⟨R, 1, none⟩ = some (.int .i64 0) := kR10.cell 1
    have r2 : w10.cell? ⟨R, 2, none⟩ = some (.slice none 0 0) := kR10.cell 2
    have r3 : w10.cell? ⟨R, 3, none⟩ = some (.slice none 0 0) := kR10.cell 3
    have r4 : w10.cell? ⟨R, 4, none⟩ = some (.string ⟨#[]⟩) := kR10.cell 4
    have r5 : w10.cell? ⟨R, 5, none⟩ = some (.int .i64 0) := kR10.cell 5
    have r6 : w10.cell? ⟨R, 6, none⟩ = some (.slice none 0 0) := kR10.cell 6
    have r7 : w10.cell? ⟨R, 7, none⟩ = some (.slice none 0 0) := kR10.cell 7
    have r8 : w10.cell? ⟨R, 8, none⟩ = some (.bool false) := kR10.cell 8
    have rf := kR10.thaw
    clear oE kR10 kB10 hb10 hr10 hNB
    go_wp2
    replace kE := kE.out
    replace post := post.out
    generalize World.setCell _ _ _ = WE at *
    exact bodyPost_ret (v := .tuple #[.agg #[.string XN, .int .i64 p0, .slice a8 NB c8, .slice g0 gn0 gc0, .string x1, .int .i64 p1, .slice b1 bn1 bc1, .slice g1 gn1 gc1, .bool true], .int .i64 0]) (by simp [results, Try.results22, go_sem, kE.cell]) rfl post

set_option maxHeartbeats 2000000 in
set_option maxRecDepth 100000 in
theorem lflip_ok1 (x0 : ByteArray) (p0 : Int) (b0 : Option Addr) (bn0 bc0 : Nat) (g0 : Option Addr) (gn0 gc0 : Nat) (x1 : ByteArray) (p1 : Int) (b1 : Option Addr) (bn1 bc1 : Nat) (g1 : Option Addr) (gn1 gc1 : Nat) (k : Nat) (bit : Int) (bad : List Int) (w : World) (hk : k < x1.size) (hx : x1.size ≤ 1000000) (hp : 0 ≤ p1) (hp2 : p1 ≤ 1000000000) (hbn : bn1 = bad.length) (hbl : bad.length ≤ 100000000) (hbc : bn1 ≤ bc1) (hub : Ln.Up bad) (hrb : IRow w b1 bad) :
    Calls Try.prog 22 #[.agg #[.string x0, .int .i64 p0, .slice b0 bn0 bc0, .slice g0 gn0 gc0, .string x1, .int .i64 p1, .slice b1 bn1 bc1, .slice g1 gn1 gc1, .bool true], .int .i64 1, .int .i64 k, .int .i64 bit] w fun e w' => ∃ ba bc, e = .returned (.tuple #[.agg #[.string x0, .int .i64 p0, .slice b0 bn0 bc0, .slice g0 gn0 gc0, .string ⟨((x1.data.toList.take k ++ [Ln.turn (x1[k]) bit]) ++ x1.data.toList.drop (k + 1)).toArray⟩, .int .i64 p1, .slice ba (Ln.mark bad (p1 + k)).length bc, .slice g1 gn1 gc1, .bool true], .int .i64 0]) ∧ IRow w' ba (Ln.mark bad (p1 + k)) ∧ (Ln.mark bad (p1 + k)).length ≤ bc ∧ Below w.heap.size w w' := by
  have HC : Hid (∀ W, Calls Try.prog 38 #[.agg #[.string x0, .int .i64 p0, .slice b0 bn0 bc0, .slice g0 gn0 gc0, .string x1, .int .i64 p1, .slice b1 bn1 bc1, .slice g1 gn1 gc1, .bool true], .int .i64 1] W fun e w' => e = .returned (.bool true) ∧ Below W.heap.size W w') := fun W => lcarries1 x0 p0 b0 bn0 bc0 g0 gn0 gc0 x1 p1 b1 bn1 bc1 g1 gn1 gc1 true W
  have HU : Hid (∀ W, Calls Try.prog 39 #[.agg #[.string x1, .int .i64 p1, .slice b1 bn1 bc1, .slice g1 gn1 gc1], .int .i64 k] W fun e w' => e = .returned (.bool true) ∧ Below W.heap.size W w') := fun W => by
    have := lunder_any x1 p1 b1 bn1 bc1 g1 gn1 gc1 (k : Int) W
    rw [show decide (0 ≤ (k : Int) ∧ (k : Int) < (x1.size : Int)) = true by simp; omega] at this
    exact this
  have HM : Hid (∀ W, Below w.heap.size w W → Calls Try.prog 43 #[.slice b1 bn1 bc1, .int .i64 (p1 + k)] W fun e w' => IPost W (Ln.mark bad (p1 + k)) e w') := fun W hW => by rw [hbn]; exact lmark_any b1 bc1 bad (p1 + k) W (by omega) (by omega) hub (hrb.below hW)
  have hw1' : wrap64 (p1 + (k : Int)) = p1 + (k : Int) := by unfold wrap64; omega
  have hw1 : IntKind.i64.wrap (p1 + (k : Int)) = p1 + (k : Int) := by rw [IntKind.wrap_i64]; omega
  obtain ⟨P, hP⟩ : ∃ P : Int, P = p1 + (k : Int) := ⟨_, rfl⟩
  rw [← hP] at HM ⊢
  replace hw1 : IntKind.i64.wrap (p1 + (k : Int)) = P := by rw [hw1, hP]
  replace hw1' : wrap64 (p1 + (k : Int)) = P := by rw [hw1', hP]
  replace hP := Rg.hid hP
  have e0 : (0 : Int) ≤ (k : Int) := by omega
  have e1 : (k : Int) < (x1.size : Int) := by omega
  generalize Ln.mark bad P = LB at *
  clear hbn hbl hbc hub hrb hp hp2
  have hsh : ∀ W, (Op.shift .shl .u8 1 .u64 ((IntKind.u64.wrap bit).tmod 8)).run Try.prog W = .ok (.int .u8 ((2 ^ Ln.bitOf bit : Nat) : Int)) W := fun W => shl_run bit W
  have hxo : bits .xor .u8 (x1[k].toNat : Int) ((2 ^ Ln.bitOf bit : Nat) : Int) = ((Ln.turn x1[k] bit).toNat : Int) := by rw [Bit.xor_u8 _ _ (x1[k].toNat_lt) (Ln.two_lt (Ln.bitOf_lt bit)), Ln.turn_toNat]
  have HSp0 := fun W vb (hv : ∀ W', Below W.heap.size W W' → W'.cell? ⟨vb, 0, none⟩ = some (.int .u8 ((Ln.turn x1[k] bit).toNat : Int))) => splice_in x1 k 1 (Ln.turn x1[k] bit) vb W (by omega) (by omega) hv
  generalize Ln.turn x1[k] bit = TB at *
  generalize ((2 ^ Ln.bitOf bit : Nat) : Int) = TW at *
  have HSp : Hid (∀ W, Calls Try.prog 40 #[.string x1, .int .i64 k, .int .i64 1, .slice (some ⟨W.heap.size, 0, none⟩) 1 1] (W.alloc (.cells #[.int .u8 (TB.toNat : Int)] 5)) fun e w' => e = .returned (.string ⟨((x1.data.toList.take k ++ [TB]) ++ x1.data.toList.drop (k + 1)).toArray⟩) ∧ Below W.heap.size W w') := fun W => (HSp0 (W.alloc (.cells #[.int .u8 (TB.toNat : Int)] 5)) W.heap.size (fun W' hb => Rg.Bk.cell (Rg.Bk.below (Rg.Bk.new rfl) hb (by simp)) 0)).mono fun e w' ⟨h1, h2⟩ => ⟨h1, Rg.chain (Rg.al1 _ _) h2⟩
  clear HSp0
  generalize (⟨((x1.data.toList.take k ++ [TB]) ++ x1.data.toList.drop (k + 1)).toArray⟩ : ByteArray) = XN at *

  have kB1 : Rg.Bk w.heap.size [.string x0, .int .i64 p0, .slice b0 bn0 bc0, .slice g0 gn0 gc0, .string x1, .int .i64 p1, .slice b1 bn1 bc1, .slice g1 gn1 gc1, .bool true] 30 ((w.alloc (.cells #[.string x0, .int .i64 p0, .slice b0 bn0 bc0, .slice g0 gn0 gc0, .string x1, .int .i64 p1, .slice b1 bn1 bc1, .slice g1 gn1 gc1, .bool true] 30)).alloc (.cells #[.string ⟨#[]⟩, .int .i64 0, .slice none 0 0, .slice none 0 0, .string ⟨#[]⟩, .int .i64 0, .slice none 0 0, .slice none 0 0, .bool false] 30)) := (Rg.Bk.new rfl).old _
  have kR1 : Rg.Bk (w.heap.size + 1) [.string ⟨#[]⟩, .int .i64 0, .slice none 0 0, .slice none 0 0, .string ⟨#[]⟩, .int .i64 0, .slice none 0 0, .slice none 0 0, .bool false] 30 ((w.alloc (.cells #[.string x0, .int .i64 p0, .slice b0 bn0 bc0, .slice g0 gn0 gc0, .string x1, .int .i64 p1, .slice b1 bn1 bc1, .slice g1 gn1 gc1, .bool true] 30)).alloc (.cells #[.string ⟨#[]⟩, .int .i64 0, .slice none 0 0, .slice none 0 0, .string ⟨#[]⟩, .int .i64 0, .slice none 0 0, .slice none 0 0, .bool false] 30)) := Rg.Bk.new (by simp)
  have hb1 := Rg.al2 w (.cells #[.string x0, .int .i64 p0, .slice b0 bn0 bc0, .slice g0 gn0 gc0, .string x1, .int .i64 p1, .slice b1 bn1 bc1, .slice g1 gn1 gc1, .bool true] 30) (.cells #[.string ⟨#[]⟩, .int .i64 0, .slice none 0 0, .slice none 0 0, .string ⟨#[]⟩, .int .i64 0, .slice none 0 0, .slice none 0 0, .bool false] 30)
  go_enter Try.func22, Try.ntmps22
  go_upto_region 1 with fail
  generalize World.alloc _ _ = w1 at *
  obtain ⟨B, hB⟩ : ∃ B, B = w.heap.size := ⟨_, rfl⟩
  obtain ⟨R, hR⟩ : ∃ R, R = w.heap.size + 1 := ⟨_, rfl⟩
  rw [← hR] at kR1 ⊢
  rw [← hB] at kB1 ⊢
  have hBR : B ≠ R := by omega
  have hBw : w.heap.size ≤ B := by omega
  have hRw : w.heap.size ≤ R := by omega
  clear hB hR
  have z0 : w1.cell? ⟨B, 0, none⟩ = some (.string x0) := kB1.cell 0
  have z1 : w1.cell? ⟨B, 1, none⟩ = some (.int .i64 p0) := kB1.cell 1
  have z2 : w1.cell? ⟨B, 2, none⟩ = some (.slice b0 bn0 bc0) := kB1.cell 2
  have z3 : w1.cell? ⟨B, 3, none⟩ = some (.slice g0 gn0 gc0) := kB1.cell 3
  have z4 : w1.cell? ⟨B, 4, none⟩ = some (.string x1) := kB1.cell 4
  have z5 : w1.cell? ⟨B, 5, none⟩ = some (.int .i64 p1) := kB1.cell 5
  have z6 : w1.cell? ⟨B, 6, none⟩ = some (.slice b1 bn1 bc1) := kB1.cell 6
  have z7 : w1.cell? ⟨B, 7, none⟩ = some (.slice g1 gn1 gc1) := kB1.cell 7
  have z8 : w1.cell? ⟨B, 8, none⟩ = some (.bool true) := kB1.cell 8
  have kB1' := Rg.hid kB1
  have kR1' := Rg.hid kR1
  have hb1' := Rg.hid hb1
  clear kB1 kR1 hb1
  go_upto_region 3 with (first
    | (go_at_call 38; refine (HC.out _).mono ?_; rintro e w2 ⟨rfl, b2⟩; have kB2 := kB1'.out.below b2 kB1'.out.lt; have y4 := kB2.cell 4; have y5 := kB2.cell 5; have y6 := kB2.cell 6; have y7 := kB2.cell 7; simp only [List.getElem?_cons_zero, List.getElem?_cons_succ] at y4 y5 y6 y7)
    | (go_at_call 39; refine (HU.out _).mono ?_; rintro e w3 ⟨rfl, b3⟩))
  have kB3 := kB2.below b3 kB2.lt
  have kR3 := Rg.hid ((kR1'.out.below b2 kR1'.out.lt).below b3 (kR1'.out.below b2 kR1'.out.lt).lt)
  have hb3 := Rg.hid (Rg.chain (Rg.chain hb1'.out b2) b3)
  clear kB2 kB1' kR1' hb1' b2 b3 HC HU y4 y5 y6 y7 z0 z1 z2 z3 z4 z5 z6 z7 z8
  have z4 : w3.cell? ⟨B, 4, none⟩ = some (.string x1) := kB3.cell 4
  have kB3' := Rg.hid kB3
  clear kB3
  go_upto_region 5 with fail
  go_upto_region 6 with (go_at_call 40; refine (HSp.out _).mono ?_; rintro e w5 ⟨rfl, b5⟩; have kB5 := kB3'.out.below b5 kB3'.out.lt; have y := kB5.cell 4; have yf := kB5.thaw; simp only [List.getElem?_cons_zero, List.getElem?_cons_succ] at y)
  have kB6 : Rg.Bk B [.string x0, .int .i64 p0, .slice b0 bn0 bc0, .slice g0 gn0 gc0, .string XN, .int .i64 p1, .slice b1 bn1 bc1, .slice g1 gn1 gc1, .bool true] 30 (w5.setCell ⟨B, 4, none⟩ (.string XN)) := kB5.set 4 (.string XN)
  have o6 := Rg.Only.setCell w5 B 4 (.string XN)
  have kR6 := Rg.hid ((kR3.out.below b5 kR3.out.lt).same (o6.block R (Ne.symm hBR)))
  have hb6 := Rg.hid ((Rg.chain hb3.out b5).trans (o6.bel hBw))
  clear y yf kB5 kB3' kR3 hb3 b5 o6 z4 HSp hsh hxo
  generalize World.setCell _ _ _ = w6 at *
  have z1 : w6.cell? ⟨B, 5, none⟩ = some (.int .i64 p1) := kB6.cell 5
  have z2 : w6.cell? ⟨B, 6, none⟩ = some (.slice b1 bn1 bc1) := kB6.cell 6
  have kB6' := Rg.hid kB6
  clear kB6
  have HM2 : Hid (∀ W, Below w6.heap.size w6 W → Calls Try.prog 43 #[.slice b1 bn1 bc1, .int .i64 P] W fun e w' => ∃ a8 c8 NB, e = .returned (.slice a8 NB c8) ∧ Hid (NB = LB.length) ∧ Hid (IRow w' a8 LB) ∧ NB ≤ c8 ∧ Hid (Below W.heap.size W w') ∧ Hid (Below w6.heap.size w6 w') ∧ (∀ i, w'.frozen? ⟨B, i, none⟩ = false) ∧ w'.cell? ⟨B, 5, none⟩ = some (.int .i64 p1) ∧ w'.cell? ⟨B, 6, none⟩ = some (.slice b1 bn1 bc1)) := fun W hW => (HM.out W (Rg.chain hb6.out hW)).mono fun e w' ⟨a8, c8, h1, h2, h3, h4⟩ => by
    have kk := kB6'.out.below (Rg.chain hW h4) kB6'.out.lt
    exact ⟨a8, c8, _, h1, rfl, h2, h3, h4, Rg.chain hW h4, kk.thaw, kk.cell 5, kk.cell 6⟩
  clear HM
  go_cut [] (fun wx => ∃ a8 c8 NB, Hid (NB = LB.length) ∧ NB ≤ c8 ∧ Hid (IRow wx a8 LB) ∧ Hid (Rg.Bk B [.string x0, .int .i64 p0, .slice b0 bn0 bc0, .slice g0 gn0 gc0, .string XN, .int .i64 p1, .slice a8 NB c8, .slice g1 gn1 gc1, .bool true] 30 wx) ∧ Hid (Rg.Bk R [.string ⟨#[]⟩, .int .i64 0, .slice none 0 0, .slice none 0 0, .string ⟨#[]⟩, .int .i64 0, .slice none 0 0, .slice none 0 0, .bool false] 30 wx) ∧ Below w.heap.size w wx)
  case first =>
    go_region_with (first
      | (go_at_call 43; refine (HM2.out _ ?_).mono ?_; (first | exact Below.refl _ _ | exact (Below.refl _ _).drew); rintro e w8 ⟨a8, c8, NB, rfl, hNB, hr8, hc8, b8, b8', yf, y1, y2⟩))
    all_goals go_wp2_with fail
    all_goals go_meet
    all_goals (have kB8 := kB6'.out.below b8'.out kB6'.out.lt; have o8 := Rg.Only.setCell w8 B 6 (.slice a8 NB c8); exact ⟨a8, c8, NB, hNB, hc8, hr8.out.only kB8 line_int o8, kB8.set 6 (.slice a8 NB c8), (kR6.out.below b8'.out kR6.out.lt).same (o8.block R (Ne.symm hBR)), (Rg.chain hb6.out b8'.out).trans (o8.bel hBw)⟩)
  case rest =>
    obtain ⟨a8, c8, NB, hNB, hc8, hr10', kB10', kR10', hb10⟩ := hcut
    obtain ⟨w10, hw10⟩ : ∃ w10, w10 = wc := ⟨_, rfl⟩
    subst hw10
    have hr10 := hr10'.out
    have kB10 := kB10'.out
    have kR10 := kR10'.out
    clear hr10' kB10' kR10' HM2 kB6' kR6 hb6 z1 z2
    go_upto_region 7 with fail
    obtain ⟨kE, oE⟩ := ret9 kR10 rfl (.string x0) (.int .i64 p0) (.slice b0 bn0 bc0) (.slice g0 gn0 gc0) (.string XN) (.int .i64 p1) (.slice a8 NB c8) (.slice g1 gn1 gc1) (.bool true)
    have post := Rg.hid ((⟨a8, c8, by rw [hNB.out], hr10.only kR10 line_int oE, by rw [← hNB.out]; exact hc8, hb10.trans (oE.bel hRw)⟩ : ∃ ba bc, Ending.returned (.tuple #[.agg #[.string x0, .int .i64 p0, .slice b0 bn0 bc0, .slice g0 gn0 gc0, .string XN, .int .i64 p1, .slice a8 NB c8, .slice g1 gn1 gc1, .bool true], .int .i64 0]) = .returned (.tuple #[.agg #[.string x0, .int .i64 p0, .slice b0 bn0 bc0, .slice g0 gn0 gc0, .string XN, .int .i64 p1, .slice ba LB.length bc, .slice g1 gn1 gc1, .bool true], .int .i64 0]) ∧ IRow _ ba LB ∧ LB.length ≤ bc ∧ Below w.heap.size w _))
    replace kE := Rg.hid kE
    have d0' : w10.cell? ⟨B, 0, none⟩ = some (.string x0) := kB10.cell 0
    have d1' : w10.cell? ⟨B, 1, none⟩ = some (.int .i64 p0) := kB10.cell 1
    have d2' : w10.cell? ⟨B, 2, none⟩ = some (.slice b0 bn0 bc0) := kB10.cell 2
    have d3' : w10.cell? ⟨B, 3, none⟩ = some (.slice g0 gn0 gc0) := kB10.cell 3
    have d4' : w10.cell? ⟨B, 4, none⟩ = some (.string XN) := kB10.cell 4
    have d5' : w10.cell? ⟨B, 5, none⟩ = some (.int .i64 p1) := kB10.cell 5
    have d6' : w10.cell? ⟨B, 6, none⟩ = some (.slice a8 NB c8) := kB10.cell 6
    have d7' : w10.cell? ⟨B, 7, none⟩ = some (.slice g1 gn1 gc1) := kB10.cell 7
    have d8' : w10.cell? ⟨B, 8, none⟩ = some (.bool true) := kB10.cell 8
    have r0 : w10.cell? ⟨R, 0, none⟩ = some (.string ⟨#[]⟩) := kR10.cell 0
    have r1 : w10.cell? ⟨R, 1, none⟩ = some (.int .i64 0) := kR10.cell 1
    have r2 : w10.cell? ⟨R, 2, none⟩ = some (.slice none 0 0) := kR10.cell 2
    have r3 : w10.cell? ⟨R, 3, none⟩ = some (.slice none 0 0) := kR10.cell 3
    have r4 : w10.cell? ⟨R, 4, none⟩ = some (.string ⟨#[]⟩) := kR10.cell 4
    have r5 : w10.cell? ⟨R, 5, none⟩ = some (.int .i64 0) := kR10.cell 5
    have r6 : w10.cell? ⟨R, 6, none⟩ = some (.slice none 0 0) := kR10.cell 6
    have r7 : w10.cell? ⟨R, 7, none⟩ = some (.slice none 0 0) := kR10.cell 7
    have r8 : w10.cell? ⟨R, 8, none⟩ = some (.bool false) := kR10.cell 8
    have rf := kR10.thaw
    clear oE kR10 kB10 hb10 hr10 hNB
    go_wp2
    replace kE := kE.out
    replace post := post.out
    generalize World.setCell _ _ _ = WE at *
    exact bodyPost_ret (v := .tuple #[.agg #[.string x0, .int .i64 p0, .slice b0 bn0 bc0, .slice g0 gn0 gc0, .string XN, .int .i64 p1, .slice a8 NB c8, .slice g1 gn1 gc1, .bool true], .int .i64 0]) (by simp [results, Try.results22, go_sem, kE.cell]) rfl post
end Go.Proofs.Ytalleocmnnnchaa
