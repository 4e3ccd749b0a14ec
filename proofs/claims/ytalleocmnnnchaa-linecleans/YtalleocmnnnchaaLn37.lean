/-
  Layer 7: LineCleans.
-/
import Derived.Test.YtalleocmnnnchaaLn27
import Derived.Test.YtalleocmnnnchaaLn36
namespace Go.Proofs.Ytalleocmnnnchaa
open Go.RowKit

set_option maxHeartbeats 2000000 in
set_option maxRecDepth 100000 in
theorem cleans_walk (a : Option Addr) (ca : Nat) (l : List Ln.Cl) (n sf st : Int) (hn : l.length ≤ 1000000000000000) (w : World) (hrow : CRow0 w a l) :
    Calls Try.prog 4 #[.slice a l.length ca, .int .i64 n, .agg #[.int .i64 sf, .int .i64 st]] w fun e w' => VPost (.bool true) w e w' := by
  have HA : Hid (∀ W, Below w.heap.size w W → Calls Try.prog 10 #[] W fun e w' => e = .returned (.bool true) ∧ Below w.heap.size w w' ∧ Below W.heap.size W w') := fun W hW => (awake_any W).mono fun e w' ⟨h1, h2⟩ => ⟨h1, Rg.chain hW h2, h2⟩
  have HH : Hid (∀ W, Below w.heap.size w W → Calls Try.prog 9 #[.slice a l.length ca] W fun e w' => ∃ B : Bool, e = .returned (.bool B) ∧ Hid (B = false → Light l) ∧ Below w.heap.size w w' ∧ Below W.heap.size W w') := fun W hW => (heavy_any a ca l W hn (hrow.below hW)).mono fun e w' ⟨B, h1, h2, h3⟩ => ⟨B, h1, h2, Rg.chain hW h3, h3⟩
  obtain ⟨N, hN⟩ : ∃ N, N = l.length := ⟨_, rfl⟩
  rw [← hN] at hn HH ⊢
  replace hN := Rg.hid hN
  replace hrow := Rg.hid hrow
  have kS0 : Hid (Rg.Bk w.heap.size [.int .i64 sf, .int .i64 st] 39 (w.alloc (.cells #[.int .i64 sf, .int .i64 st] 39))) := Rg.Bk.new rfl
  have hb0 := Rg.hid (Rg.al1 w (.cells #[.int .i64 sf, .int .i64 st] 39))
  go_enter Try.func4, Try.ntmps4
  go_upto_region 1 with fail
  generalize World.alloc _ _ = w0 at *
  obtain ⟨SP, hSP⟩ : ∃ SP, SP = w.heap.size := ⟨_, rfl⟩
  rw [← hSP] at kS0 ⊢
  clear hSP
  go_wp2_with (go_at_call 9; refine (HH.out _ hb0.out).mono ?_)
  rintro e w1 ⟨B, rfl, hL, bH, bH'⟩
  clear HH
  cases B
  case true =>
    go_wp2_with (go_at_call 10; refine (HA.out _ bH).mono ?_)
    rintro e w2 ⟨rfl, b2, -⟩
    go_wp2
    go_ret
    exact ⟨rfl, b2⟩
  case false =>
  have hLt := Rg.hid (hL.out rfl)
  have kS1 := Rg.hid (kS0.out.below bH' kS0.out.lt)
  clear hL kS0 hb0 bH'
  have hln : N ≤ 200 := by have := hLt.out.len; rw [hN.out]; exact this
  have hwl : Ln.wt l ≤ 75000 := hLt.out.wt
  have HNw : Hid (∀ W, Calls Try.prog 12 #[] W fun e w' => e = .returned (.agg #[.string ⟨#[]⟩, .int .i64 0, .slice none 0 0, .slice none 0 0, .string ⟨#[]⟩, .int .i64 0, .slice none 0 0, .slice none 0 0, .bool true]) ∧ Below W.heap.size W w') := fun W => rnew_any W
  go_upto_region 4 with (go_at_call 12; refine (HNw.out _).mono ?_; rintro e w3 ⟨rfl, bN⟩)
  have kV0 : Rg.Bk w3.heap.size [.string ⟨#[]⟩, .int .i64 0, .slice none 0 0, .slice none 0 0, .string ⟨#[]⟩, .int .i64 0, .slice none 0 0, .slice none 0 0, .bool true] 30 (w3.alloc (.cells #[.string ⟨#[]⟩, .int .i64 0, .slice none 0 0, .slice none 0 0, .string ⟨#[]⟩, .int .i64 0, .slice none 0 0, .slice none 0 0, .bool true] 30)) := Rg.Bk.new rfl
  have hS0 : Hid (∃ (x0' : ByteArray) (p0' : Int) (b0' : Option Addr) (bn0' bc0' : Nat) (g0' : Option Addr) (gn0' gc0' : Nat) (x1' : ByteArray) (p1' : Int) (b1' : Option Addr) (bn1' bc1' : Nat) (g1' : Option Addr) (gn1' gc1' : Nat) (up' : Bool), LAt (w3.alloc (.cells #[.string ⟨#[]⟩, .int .i64 0, .slice none 0 0, .slice none 0 0, .string ⟨#[]⟩, .int .i64 0, .slice none 0 0, .slice none 0 0, .bool true] 30)) (.agg #[.string x0', .int .i64 p0', .slice b0' bn0' bc0', .slice g0' gn0' gc0', .string x1', .int .i64 p1', .slice b1' bn1' bc1', .slice g1' gn1' gc1', .bool up']) Ln.new ∧ Rg.Bk w3.heap.size [.string x0', .int .i64 p0', .slice b0' bn0' bc0', .slice g0' gn0' gc0', .string x1', .int .i64 p1', .slice b1' bn1' bc1', .slice g1' gn1' gc1', .bool up'] 30 (w3.alloc (.cells #[.string ⟨#[]⟩, .int .i64 0, .slice none 0 0, .slice none 0 0, .string ⟨#[]⟩, .int .i64 0, .slice none 0 0, .slice none 0 0, .bool true] 30))) := ⟨_, _, _, _, _, _, _, _, _, _, _, _, _, _, _, _, _, ⟨none, 0, none, 0, none, 0, none, 0, rfl, IRow.nil, Nat.le_refl _, IRow.nil, Nat.le_refl _, IRow.nil, Nat.le_refl _, IRow.nil, Nat.le_refl _⟩, kV0⟩
  have hb0 := Rg.chain (Rg.chain bH bN) (Rg.al1 w3 (.cells #[.string ⟨#[]⟩, .int .i64 0, .slice none 0 0, .slice none 0 0, .string ⟨#[]⟩, .int .i64 0, .slice none 0 0, .slice none 0 0, .bool true] 30))
  have hVw := (Rg.chain bH bN).size
  have kS3 := Rg.hid ((kS1.out.below bN kS1.out.lt).old (.cells #[.string ⟨#[]⟩, .int .i64 0, .slice none 0 0, .slice none 0 0, .string ⟨#[]⟩, .int .i64 0, .slice none 0 0, .slice none 0 0, .bool true] 30))
  have hSV : SP ≠ w3.heap.size := by have := (kS1.out.below bN kS1.out.lt).lt; omega
  clear bH bN HNw kV0 kS1
  generalize World.alloc _ _ = W0 at *
  generalize w3.heap.size = V at *
  go_wp2
  go_loopw [16] (fun vi wr => ∃ (i : Nat) (L : Ln.Li), i ≤ N ∧ vi = .int .i64 i ∧ Hid (Ln.LOk (Ln.wt (l.take i) + i) L) ∧ Hid (∃ (x0' : ByteArray) (p0' : Int) (b0' : Option Addr) (bn0' bc0' : Nat) (g0' : Option Addr) (gn0' gc0' : Nat) (x1' : ByteArray) (p1' : Int) (b1' : Option Addr) (bn1' bc1' : Nat) (g1' : Option Addr) (gn1' gc1' : Nat) (up' : Bool), LAt wr (.agg #[.string x0', .int .i64 p0', .slice b0' bn0' bc0', .slice g0' gn0' gc0', .string x1', .int .i64 p1', .slice b1' bn1' bc1', .slice g1' gn1' gc1', .bool up']) L ∧ Rg.Bk V [.string x0', .int .i64 p0', .slice b0' bn0' bc0', .slice g0' gn0' gc0', .string x1', .int .i64 p1', .slice b1' bn1' bc1', .slice g1' gn1' gc1', .bool up'] 30 wr) ∧ Hid (Rg.Bk SP [.int .i64 sf, .int .i64 st] 39 wr) ∧ Below w.heap.size w wr) (fun vi _ => N - (intOf vi).toNat)
  case atStart => exact ⟨0, Ln.new, Nat.zero_le _, rfl, ⟨Ln.empty_ok _, Ln.empty_ok _⟩, hS0, kS3, hb0⟩
  case round =>
    obtain ⟨i, L, hin, rfl, hLp, hLV, kS, hbw⟩ := hrel
    clear hb0 hS0 kS3
    obtain ⟨x0, p0, b0, bn0, bc0, g0, gn0, gc0, x1, p1, b1, bn1, bc1, g1, gn1, gc1, up, hLa, kV⟩ := hLV.out
    clear hLV
    replace hLa := Rg.hid hLa
    replace kV := Rg.hid kV
    have hwi : Ln.wt (l.take i) ≤ Ln.wt l := by
      have h1 := Ln.wt_append (l.take i) (l.drop i)
      rw [List.take_append_drop] at h1
      omega
    by_cases hlt : i < N
    · have hil : i < l.length := by rw [← hN.out]; exact hlt
      obtain ⟨b, o, rfl, hb, hat⟩ : ∃ b o, a = some ⟨b, o, none⟩ ∧ b < w.heap.size ∧ Rg.At w b o (callE.flat l) := by
        rcases hrow.out with h | h
        · rw [h] at hil; simp at hil
        · exact h
      have at1 : Rg.At wr b (o + i * 5) (callE.enc l[i]) := (hat.elem hil).below hbw hb
      have hci : l[i].s.size ≤ 50000 := hLt.out.data _ (List.getElem_mem hil)
      have hwt : Ln.wt (l.take (i + 1)) = Ln.wt (l.take i) + l[i].s.size := Ln.wt_take hil
      generalize l[i] = c at *
      obtain ⟨ck, cy, ca, cm, cx⟩ := c
      obtain ⟨c0, c1, c2, c3, c4⟩ := call_at at1
      dsimp only at hci hwt
      have q3 := hLp.out
      have qn : Hid (Ln.LOk (Ln.wt (l.take (i + 1)) + (i + 1)) (Ln.play L ⟨ck, cy, ca, cm, cx⟩).1) := (Ln.play_ok q3 ⟨ck, cy, ca, cm, cx⟩).mono (by show _ + cx.size + 1 ≤ _; omega)
      have HP : Hid (∀ W, LAt W (.agg #[.string x0, .int .i64 p0, .slice b0 bn0 bc0, .slice g0 gn0 gc0, .string x1, .int .i64 p1, .slice b1 bn1 bc1, .slice g1 gn1 gc1, .bool up]) L → Calls Try.prog 14 #[.agg #[.string x0, .int .i64 p0, .slice b0 bn0 bc0, .slice g0 gn0 gc0, .string x1, .int .i64 p1, .slice b1 bn1 bc1, .slice g1 gn1 gc1, .bool up], .agg #[.int .i64 ck, .int .i64 cy, .int .i64 ca, .int .i64 cm, .string cx]] W fun e w' => ∃ ss ee, ∃ (x0' : ByteArray) (p0' : Int) (b0' : Option Addr) (bn0' bc0' : Nat) (g0' : Option Addr) (gn0' gc0' : Nat) (x1' : ByteArray) (p1' : Int) (b1' : Option Addr) (bn1' bc1' : Nat) (g1' : Option Addr) (gn1' gc1' : Nat) (up' : Bool), e = .returned (.tuple #[.agg #[.string x0', .int .i64 p0', .slice b0' bn0' bc0', .slice g0' gn0' gc0', .string x1', .int .i64 p1', .slice b1' bn1' bc1', .slice g1' gn1' gc1', .bool up'], .string ss, .int .i64 ee]) ∧ Hid (LAt w' (.agg #[.string x0', .int .i64 p0', .slice b0' bn0' bc0', .slice g0' gn0' gc0', .string x1', .int .i64 p1', .slice b1' bn1' bc1', .slice g1' gn1' gc1', .bool up']) (Ln.play L ⟨ck, cy, ca, cm, cx⟩).1) ∧ Below W.heap.size W w') := fun W hW => (told_any _ L ⟨ck, cy, ca, cm, cx⟩ _ W q3 (by omega) (by show cx.size ≤ _; omega) hW).mono fun e w' ⟨v, h1, h2, h3⟩ => by
        have h4 := h2
        obtain ⟨b0, c0, g0, d0, b1, c1, g1, d1, rfl, -⟩ := h4
        exact ⟨_, _, _, _, _, _, _, _, _, _, _, _, _, _, _, _, _, _, _, h1, h2, h3⟩
      have hz0 : (0 : Int) ≤ (i : Int) := by omega
      have hz1 : (i : Int) < (N : Int) := by omega
      clear q3 hwt hwi hci at1 hat hil hLp
      go_upto_region 7 with fail
      have kO1 : Rg.Bk wr.heap.size [.int .i64 ck, .int .i64 cy, .int .i64 ca, .int .i64 cm, .string cx] 33 (wr.alloc (.cells #[.int .i64 ck, .int .i64 cy, .int .i64 ca, .int .i64 cm, .string cx] 33)) := Rg.Bk.new rfl
      have kV1 := kV.out.old (.cells #[.int .i64 ck, .int .i64 cy, .int .i64 ca, .int .i64 cm, .string cx] 33)
      have kS1 := Rg.hid (kS.out.old (.cells #[.int .i64 ck, .int .i64 cy, .int .i64 ca, .int .i64 cm, .string cx] 33))
      have hL1 := Rg.hid (hLa.out.below (Rg.al1 wr (.cells #[.int .i64 ck, .int .i64 cy, .int .i64 ca, .int .i64 cm, .string cx] 33)))
      have hb1 := Rg.chain hbw (Rg.al1 wr (.cells #[.int .i64 ck, .int .i64 cy, .int .i64 ca, .int .i64 cm, .string cx] 33))
      have hVO : V ≠ wr.heap.size := by have := kV.out.lt; omega
      clear c0 c1 c2 c3 c4 kV hLa hbw kS
      generalize World.alloc _ _ = w4 at *
      generalize wr.heap.size = O at *
      have s0 : w4.cell? ⟨O, 0, none⟩ = some (.int .i64 ck) := kO1.cell 0
      have s1 : w4.cell? ⟨O, 1, none⟩ = some (.int .i64 cy) := kO1.cell 1
      have s2 : w4.cell? ⟨O, 2, none⟩ = some (.int .i64 ca) := kO1.cell 2
      have s3 : w4.cell? ⟨O, 3, none⟩ = some (.int .i64 cm) := kO1.cell 3
      have s4 : w4.cell? ⟨O, 4, none⟩ = some (.string cx) := kO1.cell 4
      have z0 : w4.cell? ⟨V, 0, none⟩ = some (.string x0) := kV1.cell 0
      have z1 : w4.cell? ⟨V, 1, none⟩ = some (.int .i64 p0) := kV1.cell 1
      have z2 : w4.cell? ⟨V, 2, none⟩ = some (.slice b0 bn0 bc0) := kV1.cell 2
      have z3 : w4.cell? ⟨V, 3, none⟩ = some (.slice g0 gn0 gc0) := kV1.cell 3
      have z4 : w4.cell? ⟨V, 4, none⟩ = some (.string x1) := kV1.cell 4
      have z5 : w4.cell? ⟨V, 5, none⟩ = some (.int .i64 p1) := kV1.cell 5
      have z6 : w4.cell? ⟨V, 6, none⟩ = some (.slice b1 bn1 bc1) := kV1.cell 6
      have z7 : w4.cell? ⟨V, 7, none⟩ = some (.slice g1 gn1 gc1) := kV1.cell 7
      have z8 : w4.cell? ⟨V, 8, none⟩ = some (.bool up) := kV1.cell 8
      replace kV1 := Rg.hid kV1
      clear kO1
      go_upto_region 8 with (go_at_call 14; refine (HP.out _ hL1.out).mono ?_; rintro e w6 ⟨ss, ee, x0', p0', b0', bn0', bc0', g0', gn0', gc0', x1', p1', b1', bn1', bc1', g1', gn1', gc1', up', rfl, hL6, b6⟩; have kV6 := kV1.out.below b6 kV1.out.lt; have hb6 := Rg.hid (Rg.chain hb1 b6); have r0 := kV6.cell 0; have r1 := kV6.cell 1; have r2 := kV6.cell 2; have r3 := kV6.cell 3; have r4 := kV6.cell 4; have r5 := kV6.cell 5; have r6 := kV6.cell 6; have r7 := kV6.cell 7; have r8 := kV6.cell 8; have rf := kV6.thaw; simp only [List.getElem?_cons_zero, List.getElem?_cons_succ] at r0 r1 r2 r3 r4 r5 r6 r7 r8)
      obtain ⟨kV7, o7⟩ := ret9 kV6 rfl (.string x0') (.int .i64 p0') (.slice b0' bn0' bc0') (.slice g0' gn0' gc0') (.string x1') (.int .i64 p1') (.slice b1' bn1' bc1') (.slice g1' gn1' gc1') (.bool up')
      have hL7 := hL6.out.only kV6 line_int o7
      have hb7 := hb6.out.trans (o7.bel hVw)
      have kS7 := Rg.hid ((kS1.out.below b6 kS1.out.lt).same (o7.block SP hSV))
      have hL7' : Hid (∃ (x0' : ByteArray) (p0' : Int) (b0' : Option Addr) (bn0' bc0' : Nat) (g0' : Option Addr) (gn0' gc0' : Nat) (x1' : ByteArray) (p1' : Int) (b1' : Option Addr) (bn1' bc1' : Nat) (g1' : Option Addr) (gn1' gc1' : Nat) (up' : Bool), LAt _ (.agg #[.string x0', .int .i64 p0', .slice b0' bn0' bc0', .slice g0' gn0' gc0', .string x1', .int .i64 p1', .slice b1' bn1' bc1', .slice g1' gn1' gc1', .bool up']) (Ln.play L ⟨ck, cy, ca, cm, cx⟩).1 ∧ Rg.Bk V [.string x0', .int .i64 p0', .slice b0' bn0' bc0', .slice g0' gn0' gc0', .string x1', .int .i64 p1', .slice b1' bn1' bc1', .slice g1' gn1' gc1', .bool up'] 30 _) := ⟨_, _, _, _, _, _, _, _, _, _, _, _, _, _, _, _, _, hL7, kV7⟩
      clear kV6 kV7 hL7 hL6 hb6 o7 r0 r1 r2 r3 r4 r5 r6 r7 r8 rf z0 z1 z2 z3 z4 z5 z6 z7 z8 s0 s1 s2 s3 s4 HP hL1 kV1 kS1
      generalize World.setCell _ _ _ = w7 at *
      go_wp2
      go_roundw
      case rel => exact ⟨i + 1, _, by omega, by go_num, qn, hL7', kS7, hb7⟩
      case measure => simp [intOf]; omega
    · have hie : i = N := by omega
      subst i
      have q3 := hLp.out
      obtain ⟨C, hC⟩ : ∃ C, C = Ln.clean L n sf st := ⟨_, rfl⟩
      have hCC : (C == C) = true := by simp
      have hfacts : Hid (∀ W, Below wr.heap.size wr W → W.cell? ⟨V, 0, none⟩ = some (.string x0) ∧ W.cell? ⟨V, 1, none⟩ = some (.int .i64 p0) ∧ W.cell? ⟨V, 2, none⟩ = some (.slice b0 bn0 bc0) ∧ W.cell? ⟨V, 3, none⟩ = some (.slice g0 gn0 gc0) ∧ W.cell? ⟨V, 4, none⟩ = some (.string x1) ∧ W.cell? ⟨V, 5, none⟩ = some (.int .i64 p1) ∧ W.cell? ⟨V, 6, none⟩ = some (.slice b1 bn1 bc1) ∧ W.cell? ⟨V, 7, none⟩ = some (.slice g1 gn1 gc1) ∧ W.cell? ⟨V, 8, none⟩ = some (.bool up) ∧ W.cell? ⟨SP, 0, none⟩ = some (.int .i64 sf) ∧ W.cell? ⟨SP, 1, none⟩ = some (.int .i64 st)) := fun W hW => by
        have k1 := kV.out.below hW kV.out.lt
        have k2 := kS.out.below hW kS.out.lt
        exact ⟨k1.cell 0, k1.cell 1, k1.cell 2, k1.cell 3, k1.cell 4, k1.cell 5, k1.cell 6, k1.cell 7, k1.cell 8, k2.cell 0, k2.cell 1⟩
      have HC1 : Hid (∀ W, Below wr.heap.size wr W → Calls Try.prog 16 #[.agg #[.string x0, .int .i64 p0, .slice b0 bn0 bc0, .slice g0 gn0 gc0, .string x1, .int .i64 p1, .slice b1 bn1 bc1, .slice g1 gn1 gc1, .bool up], .int .i64 n, .agg #[.int .i64 sf, .int .i64 st]] W fun e w' => e = .returned (.bool C) ∧ Below wr.heap.size wr w' ∧ w'.cell? ⟨V, 0, none⟩ = some (.string x0) ∧ w'.cell? ⟨V, 1, none⟩ = some (.int .i64 p0) ∧ w'.cell? ⟨V, 2, none⟩ = some (.slice b0 bn0 bc0) ∧ w'.cell? ⟨V, 3, none⟩ = some (.slice g0 gn0 gc0) ∧ w'.cell? ⟨V, 4, none⟩ = some (.string x1) ∧ w'.cell? ⟨V, 5, none⟩ = some (.int .i64 p1) ∧ w'.cell? ⟨V, 6, none⟩ = some (.slice b1 bn1 bc1) ∧ w'.cell? ⟨V, 7, none⟩ = some (.slice g1 gn1 gc1) ∧ w'.cell? ⟨V, 8, none⟩ = some (.bool up) ∧ w'.cell? ⟨SP, 0, none⟩ = some (.int .i64 sf) ∧ w'.cell? ⟨SP, 1, none⟩ = some (.int .i64 st)) := fun W hW => (lclean_at _ L n sf st _ W q3 (by omega) (hLa.out.below hW)).mono fun e w' ⟨h1, h2⟩ => ⟨by rw [hC]; exact h1, Rg.chain hW h2, hfacts.out _ (Rg.chain hW h2)⟩
      have HC2 : Hid (∀ W, Below wr.heap.size wr W → Calls Try.prog 17 #[.agg #[.string x0, .int .i64 p0, .slice b0 bn0 bc0, .slice g0 gn0 gc0, .string x1, .int .i64 p1, .slice b1 bn1 bc1, .slice g1 gn1 gc1, .bool up], .int .i64 n, .agg #[.int .i64 sf, .int .i64 st]] W fun e w' => e = .returned (.bool C) ∧ Below wr.heap.size wr w' ∧ w'.cell? ⟨V, 0, none⟩ = some (.string x0) ∧ w'.cell? ⟨V, 1, none⟩ = some (.int .i64 p0) ∧ w'.cell? ⟨V, 2, none⟩ = some (.slice b0 bn0 bc0) ∧ w'.cell? ⟨V, 3, none⟩ = some (.slice g0 gn0 gc0) ∧ w'.cell? ⟨V, 4, none⟩ = some (.string x1) ∧ w'.cell? ⟨V, 5, none⟩ = some (.int .i64 p1) ∧ w'.cell? ⟨V, 6, none⟩ = some (.slice b1 bn1 bc1) ∧ w'.cell? ⟨V, 7, none⟩ = some (.slice g1 gn1 gc1) ∧ w'.cell? ⟨V, 8, none⟩ = some (.bool up) ∧ w'.cell? ⟨SP, 0, none⟩ = some (.int .i64 sf) ∧ w'.cell? ⟨SP, 1, none⟩ = some (.int .i64 st)) := fun W hW => (rclean_at _ L n sf st _ W q3 (by omega) (hLa.out.below hW)).mono fun e w' ⟨h1, h2⟩ => ⟨by rw [hC]; exact h1, Rg.chain hW h2, hfacts.out _ (Rg.chain hW h2)⟩
      have HA2 : Hid (∀ W, Below wr.heap.size wr W → Calls Try.prog 10 #[] W fun e w' => e = .returned (.bool true) ∧ Hid (Below w.heap.size w w') ∧ w'.cell? ⟨V, 0, none⟩ = some (.string x0) ∧ w'.cell? ⟨V, 1, none⟩ = some (.int .i64 p0) ∧ w'.cell? ⟨V, 2, none⟩ = some (.slice b0 bn0 bc0) ∧ w'.cell? ⟨V, 3, none⟩ = some (.slice g0 gn0 gc0) ∧ w'.cell? ⟨V, 4, none⟩ = some (.string x1) ∧ w'.cell? ⟨V, 5, none⟩ = some (.int .i64 p1) ∧ w'.cell? ⟨V, 6, none⟩ = some (.slice b1 bn1 bc1) ∧ w'.cell? ⟨V, 7, none⟩ = some (.slice g1 gn1 gc1) ∧ w'.cell? ⟨V, 8, none⟩ = some (.bool up) ∧ w'.cell? ⟨SP, 0, none⟩ = some (.int .i64 sf) ∧ w'.cell? ⟨SP, 1, none⟩ = some (.int .i64 st)) := fun W hW => (HA.out W (Rg.chain hbw hW)).mono fun e w' ⟨h1, h2, h3⟩ => ⟨h1, h2, hfacts.out _ (Rg.chain hW h3)⟩
      have z0 : wr.cell? ⟨V, 0, none⟩ = some (.string x0) := kV.out.cell 0
      have z1 : wr.cell? ⟨V, 1, none⟩ = some (.int .i64 p0) := kV.out.cell 1
      have z2 : wr.cell? ⟨V, 2, none⟩ = some (.slice b0 bn0 bc0) := kV.out.cell 2
      have z3 : wr.cell? ⟨V, 3, none⟩ = some (.slice g0 gn0 gc0) := kV.out.cell 3
      have z4 : wr.cell? ⟨V, 4, none⟩ = some (.string x1) := kV.out.cell 4
      have z5 : wr.cell? ⟨V, 5, none⟩ = some (.int .i64 p1) := kV.out.cell 5
      have z6 : wr.cell? ⟨V, 6, none⟩ = some (.slice b1 bn1 bc1) := kV.out.cell 6
      have z7 : wr.cell? ⟨V, 7, none⟩ = some (.slice g1 gn1 gc1) := kV.out.cell 7
      have z8 : wr.cell? ⟨V, 8, none⟩ = some (.bool up) := kV.out.cell 8
      have y0 : wr.cell? ⟨SP, 0, none⟩ = some (.int .i64 sf) := kS.out.cell 0
      have y1 : wr.cell? ⟨SP, 1, none⟩ = some (.int .i64 st) := kS.out.cell 1
      clear hC q3 hwi hLp hrow hLt hLa kV kS HA hin hlt hbw hfacts
      go_upto_region 9 with fail
      go_cut [6] (fun s wx => s = .bool true ∧ Below w.heap.size w wx)
      case first =>
        go_region_held3 (fun w' => w'.cell? ⟨V, 0, none⟩ = some (.string x0) ∧ w'.cell? ⟨V, 1, none⟩ = some (.int .i64 p0) ∧ w'.cell? ⟨V, 2, none⟩ = some (.slice b0 bn0 bc0) ∧ w'.cell? ⟨V, 3, none⟩ = some (.slice g0 gn0 gc0) ∧ w'.cell? ⟨V, 4, none⟩ = some (.string x1) ∧ w'.cell? ⟨V, 5, none⟩ = some (.int .i64 p1) ∧ w'.cell? ⟨V, 6, none⟩ = some (.slice b1 bn1 bc1) ∧ w'.cell? ⟨V, 7, none⟩ = some (.slice g1 gn1 gc1) ∧ w'.cell? ⟨V, 8, none⟩ = some (.bool up) ∧ w'.cell? ⟨SP, 0, none⟩ = some (.int .i64 sf) ∧ w'.cell? ⟨SP, 1, none⟩ = some (.int .i64 st)) (go_keep) (first
          | (go_at_call 10; refine (HA2.out _ ?_).mono ?_; (first | exact bC1 | exact bC2 | exact bC1.drew | exact bC2.drew); rintro e w9 ⟨rfl, b9, x0', x1', x2', x3', x4', x5', x6', x7', x8', x9', x10'⟩)
          | (go_at_call 16; refine (HC1.out _ ?_).mono ?_; (first | exact bC2 | exact bC2.drew | exact Below.refl _ _ | exact (Below.refl _ _).drew); rintro e w6 ⟨rfl, bC1, a0', a1', a2', a3', a4', a5', a6', a7', a8', a9', a10'⟩)
          | (go_at_call 17; refine (HC2.out _ ?_).mono ?_; (first | exact bC1 | exact bC1.drew | exact Below.refl _ _ | exact (Below.refl _ _).drew); rintro e w7 ⟨rfl, bC2, e0', e1', e2', e3', e4', e5', e6', e7', e8', e9', e10'⟩))
        all_goals (go_wp2_with fail; go_meet; exact ⟨rfl, (by first | exact b9.out | exact b9.out.drew)⟩)
      case rest =>
        obtain ⟨rfl, hb⟩ := hcut
        clear HC1 HC2 HA2
        go_wp2
        go_ret
        exact ⟨rfl, hb⟩
end Go.Proofs.Ytalleocmnnnchaa
