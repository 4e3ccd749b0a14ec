/-
  Layer 7: LinePlays.
-/
import Derived.Test.YtalleocmnnnchaaLn36
namespace Go.Proofs.Ytalleocmnnnchaa
open Go.RowKit

set_option maxHeartbeats 4000000 in
set_option maxRecDepth 100000 in
theorem plays_walk (a : Option Addr) (ca : Nat) (l : List Ln.Cl) (hn : l.length ≤ 1000000000000000) (w : World) (hrow : CRow0 w a l) :
    Calls Try.prog 3 #[.slice a l.length ca] w fun e w' => VPost (.bool true) w e w' := by
  have HA : Hid (∀ W, Below w.heap.size w W → Calls Try.prog 10 #[] W fun e w' => VPost (.bool true) w e w') := fun W hW => (awake_any W).mono fun e w' ⟨h1, h2⟩ => ⟨h1, Rg.chain hW h2⟩
  have HH : Hid (∀ W, Below w.heap.size w W → Calls Try.prog 9 #[.slice a l.length ca] W fun e w' => ∃ B : Bool, e = .returned (.bool B) ∧ Hid (B = false → Light l) ∧ Below w.heap.size w w') := fun W hW => (heavy_any a ca l W hn (hrow.below hW)).mono fun e w' ⟨B, h1, h2, h3⟩ => ⟨B, h1, h2, Rg.chain hW h3⟩
  obtain ⟨N, hN⟩ : ∃ N, N = l.length := ⟨_, rfl⟩
  rw [← hN] at hn HH ⊢
  replace hN := Rg.hid hN
  replace hrow := Rg.hid hrow
  go_enter Try.func3, Try.ntmps3
  go_wp2_with (go_at_call 9; refine (HH.out _ (Below.refl _ _)).mono ?_)
  rintro e w1 ⟨B, rfl, hL, bH⟩
  clear HH
  cases B
  case true =>
    go_wp2_with (go_at_call 10; refine (HA.out _ bH).mono ?_)
    rintro e w2 ⟨rfl, b2⟩
    go_wp2
    go_ret
    exact ⟨rfl, b2⟩
  case false =>
  have hLt := Rg.hid (hL.out rfl)
  clear hL
  have hln : N ≤ 200 := by have := hLt.out.len; rw [hN.out]; exact this
  have hwl : Ln.wt l ≤ 75000 := hLt.out.wt
  have HN1 : Hid (∀ W, Calls Try.prog 11 #[] W fun e w' => e = .returned (.agg #[.string ⟨#[]⟩, .int .i64 0, .slice none 0 0, .slice none 0 0, .string ⟨#[]⟩, .int .i64 0, .slice none 0 0, .slice none 0 0, .bool true]) ∧ Below W.heap.size W w') := fun W => lnew_any W
  have HN2 : Hid (∀ W, Calls Try.prog 12 #[] W fun e w' => e = .returned (.agg #[.string ⟨#[]⟩, .int .i64 0, .slice none 0 0, .slice none 0 0, .string ⟨#[]⟩, .int .i64 0, .slice none 0 0, .slice none 0 0, .bool true]) ∧ Below W.heap.size W w') := fun W => rnew_any W
  go_upto_region 4 with (first
    | (go_at_call 11; refine (HN1.out _).mono ?_; rintro e w2 ⟨rfl, bN1⟩)
    | (go_at_call 12; refine (HN2.out _).mono ?_; rintro e w3 ⟨rfl, bN2⟩))
  have hA0 : LAt ((w3.alloc (.cells #[.string ⟨#[]⟩, .int .i64 0, .slice none 0 0, .slice none 0 0, .string ⟨#[]⟩, .int .i64 0, .slice none 0 0, .slice none 0 0, .bool true] 30)).alloc (.cells #[.string ⟨#[]⟩, .int .i64 0, .slice none 0 0, .slice none 0 0, .string ⟨#[]⟩, .int .i64 0, .slice none 0 0, .slice none 0 0, .bool true] 30)) (.agg #[.string ⟨#[]⟩, .int .i64 0, .slice none 0 0, .slice none 0 0, .string ⟨#[]⟩, .int .i64 0, .slice none 0 0, .slice none 0 0, .bool true]) Ln.new := ⟨none, 0, none, 0, none, 0, none, 0, rfl, IRow.nil, Nat.le_refl _, IRow.nil, Nat.le_refl _, IRow.nil, Nat.le_refl _, IRow.nil, Nat.le_refl _⟩
  have hS1 : Hid (∃ (x0' : ByteArray) (p0' : Int) (b0' : Option Addr) (bn0' bc0' : Nat) (g0' : Option Addr) (gn0' gc0' : Nat) (x1' : ByteArray) (p1' : Int) (b1' : Option Addr) (bn1' bc1' : Nat) (g1' : Option Addr) (gn1' gc1' : Nat) (up' : Bool), LAt ((w3.alloc (.cells #[.string ⟨#[]⟩, .int .i64 0, .slice none 0 0, .slice none 0 0, .string ⟨#[]⟩, .int .i64 0, .slice none 0 0, .slice none 0 0, .bool true] 30)).alloc (.cells #[.string ⟨#[]⟩, .int .i64 0, .slice none 0 0, .slice none 0 0, .string ⟨#[]⟩, .int .i64 0, .slice none 0 0, .slice none 0 0, .bool true] 30)) (.agg #[.string x0', .int .i64 p0', .slice b0' bn0' bc0', .slice g0' gn0' gc0', .string x1', .int .i64 p1', .slice b1' bn1' bc1', .slice g1' gn1' gc1', .bool up']) Ln.new ∧ Rg.Bk w3.heap.size [.string x0', .int .i64 p0', .slice b0' bn0' bc0', .slice g0' gn0' gc0', .string x1', .int .i64 p1', .slice b1' bn1' bc1', .slice g1' gn1' gc1', .bool up'] 30 ((w3.alloc (.cells #[.string ⟨#[]⟩, .int .i64 0, .slice none 0 0, .slice none 0 0, .string ⟨#[]⟩, .int .i64 0, .slice none 0 0, .slice none 0 0, .bool true] 30)).alloc (.cells #[.string ⟨#[]⟩, .int .i64 0, .slice none 0 0, .slice none 0 0, .string ⟨#[]⟩, .int .i64 0, .slice none 0 0, .slice none 0 0, .bool true] 30))) := ⟨_, _, _, _, _, _, _, _, _, _, _, _, _, _, _, _, _, hA0, (Rg.Bk.new rfl).old _⟩
  have hS2 : Hid (∃ (x0' : ByteArray) (p0' : Int) (b0' : Option Addr) (bn0' bc0' : Nat) (g0' : Option Addr) (gn0' gc0' : Nat) (x1' : ByteArray) (p1' : Int) (b1' : Option Addr) (bn1' bc1' : Nat) (g1' : Option Addr) (gn1' gc1' : Nat) (up' : Bool), LAt ((w3.alloc (.cells #[.string ⟨#[]⟩, .int .i64 0, .slice none 0 0, .slice none 0 0, .string ⟨#[]⟩, .int .i64 0, .slice none 0 0, .slice none 0 0, .bool true] 30)).alloc (.cells #[.string ⟨#[]⟩, .int .i64 0, .slice none 0 0, .slice none 0 0, .string ⟨#[]⟩, .int .i64 0, .slice none 0 0, .slice none 0 0, .bool true] 30)) (.agg #[.string x0', .int .i64 p0', .slice b0' bn0' bc0', .slice g0' gn0' gc0', .string x1', .int .i64 p1', .slice b1' bn1' bc1', .slice g1' gn1' gc1', .bool up']) Ln.new ∧ Rg.Bk (w3.heap.size + 1) [.string x0', .int .i64 p0', .slice b0' bn0' bc0', .slice g0' gn0' gc0', .string x1', .int .i64 p1', .slice b1' bn1' bc1', .slice g1' gn1' gc1', .bool up'] 30 ((w3.alloc (.cells #[.string ⟨#[]⟩, .int .i64 0, .slice none 0 0, .slice none 0 0, .string ⟨#[]⟩, .int .i64 0, .slice none 0 0, .slice none 0 0, .bool true] 30)).alloc (.cells #[.string ⟨#[]⟩, .int .i64 0, .slice none 0 0, .slice none 0 0, .string ⟨#[]⟩, .int .i64 0, .slice none 0 0, .slice none 0 0, .bool true] 30))) := ⟨_, _, _, _, _, _, _, _, _, _, _, _, _, _, _, _, _, hA0, Rg.Bk.new (by simp)⟩
  have hb0 := Rg.chain (Rg.chain (Rg.chain bH bN1) bN2) (Rg.al2 w3 (.cells #[.string ⟨#[]⟩, .int .i64 0, .slice none 0 0, .slice none 0 0, .string ⟨#[]⟩, .int .i64 0, .slice none 0 0, .slice none 0 0, .bool true] 30) (.cells #[.string ⟨#[]⟩, .int .i64 0, .slice none 0 0, .slice none 0 0, .string ⟨#[]⟩, .int .i64 0, .slice none 0 0, .slice none 0 0, .bool true] 30))
  have hVw := (Rg.chain (Rg.chain bH bN1) bN2).size
  clear bH bN1 bN2 HN1 HN2 hA0
  generalize World.alloc _ _ = W0 at *
  obtain ⟨V, hV⟩ : ∃ V, V = w3.heap.size := ⟨_, rfl⟩
  obtain ⟨Z, hZ⟩ : ∃ Z, Z = w3.heap.size + 1 := ⟨_, rfl⟩
  rw [← hZ] at hS2 ⊢
  rw [← hV] at hS1 hVw ⊢
  have hVZ : V ≠ Z := by omega
  have hZw : w.heap.size ≤ Z := by omega
  clear hV hZ
  go_wp2
  go_loopw [20] (fun vi wr => ∃ (i : Nat) (L : Ln.Li), i ≤ N ∧ vi = .int .i64 i ∧ Hid (Ln.LOk (Ln.wt (l.take i) + i) L) ∧ Hid (∃ (x0' : ByteArray) (p0' : Int) (b0' : Option Addr) (bn0' bc0' : Nat) (g0' : Option Addr) (gn0' gc0' : Nat) (x1' : ByteArray) (p1' : Int) (b1' : Option Addr) (bn1' bc1' : Nat) (g1' : Option Addr) (gn1' gc1' : Nat) (up' : Bool), LAt wr (.agg #[.string x0', .int .i64 p0', .slice b0' bn0' bc0', .slice g0' gn0' gc0', .string x1', .int .i64 p1', .slice b1' bn1' bc1', .slice g1' gn1' gc1', .bool up']) L ∧ Rg.Bk V [.string x0', .int .i64 p0', .slice b0' bn0' bc0', .slice g0' gn0' gc0', .string x1', .int .i64 p1', .slice b1' bn1' bc1', .slice g1' gn1' gc1', .bool up'] 30 wr) ∧ Hid (∃ (x0' : ByteArray) (p0' : Int) (b0' : Option Addr) (bn0' bc0' : Nat) (g0' : Option Addr) (gn0' gc0' : Nat) (x1' : ByteArray) (p1' : Int) (b1' : Option Addr) (bn1' bc1' : Nat) (g1' : Option Addr) (gn1' gc1' : Nat) (up' : Bool), LAt wr (.agg #[.string x0', .int .i64 p0', .slice b0' bn0' bc0', .slice g0' gn0' gc0', .string x1', .int .i64 p1', .slice b1' bn1' bc1', .slice g1' gn1' gc1', .bool up']) L ∧ Rg.Bk Z [.string x0', .int .i64 p0', .slice b0' bn0' bc0', .slice g0' gn0' gc0', .string x1', .int .i64 p1', .slice b1' bn1' bc1', .slice g1' gn1' gc1', .bool up'] 30 wr) ∧ Below w.heap.size w wr) (fun vi _ => N - (intOf vi).toNat)
  case atStart => exact ⟨0, Ln.new, Nat.zero_le _, rfl, ⟨Ln.empty_ok _, Ln.empty_ok _⟩, hS1, hS2, hb0⟩
  case round =>
    obtain ⟨i, L, hin, rfl, hLp, hLV, hLZ, hbw⟩ := hrel
    clear hb0 hS1 hS2
    obtain ⟨x0, p0, b0, bn0, bc0, g0, gn0, gc0, x1, p1, b1, bn1, bc1, g1, gn1, gc1, up, hLa, kV⟩ := hLV.out
    obtain ⟨x02, p02, b02, bn02, bc02, g02, gn02, gc02, x12, p12, b12, bn12, bc12, g12, gn12, gc12, up2, hLb, kZ⟩ := hLZ.out
    clear hLV hLZ
    replace hLa := Rg.hid hLa
    replace kV := Rg.hid kV
    replace hLb := Rg.hid hLb
    replace kZ := Rg.hid kZ
    have hwi : Ln.wt (l.take i) ≤ Ln.wt l := by
      have h1 := Ln.wt_append (l.take i) (l.drop i)
      rw [List.take_append_drop] at h1
      omega
    by_cases hlt : i < N
    · have hil : i < l.length := by rw [← hN.out]; exact hlt
      obtain ⟨b, o, rfl, hb, hat⟩ : ∃ b o, a = some ⟨b, o, none⟩ ∧ b < w.heap.size ∧ Rg.At w b o (callE.flat l) := by
        rcases hrow.out with h | h
        · rw [h] at hil; simp at hil
        · exact h
      have at1 : Rg.At wr b (o + i * 5) (callE.enc l[i]) := (hat.elem hil).below hbw hb
      have hci : l[i].s.size ≤ 50000 := hLt.out.data _ (List.getElem_mem hil)
      have hwt : Ln.wt (l.take (i + 1)) = Ln.wt (l.take i) + l[i].s.size := Ln.wt_take hil
      generalize l[i] = c at *
      obtain ⟨ck, cy, ca, cm, cx⟩ := c
      obtain ⟨c0, c1, c2, c3, c4⟩ := call_at at1
      dsimp only at hci hwt
      have q3 := hLp.out
      have qn0 := (Ln.play_ok q3 ⟨ck, cy, ca, cm, cx⟩).mono (show _ ≤ Ln.wt (l.take (i + 1)) + (i + 1) by show _ + cx.size + 1 ≤ _; omega)
      have HP0 := fun W (v : Value) (hW : LAt W v L) => play_any v L ⟨ck, cy, ca, cm, cx⟩ _ W q3 (by omega) (by show cx.size ≤ _; omega) hW
      have HT0 := fun W (v : Value) (hW : LAt W v L) => told_any v L ⟨ck, cy, ca, cm, cx⟩ _ W q3 (by omega) (by show cx.size ≤ _; omega) hW
      dsimp only at HP0 HT0
      generalize Ln.play L ⟨ck, cy, ca, cm, cx⟩ = r at *
      obtain ⟨M, ss0, ee⟩ := r
      unfold PPost at HP0 HT0
      dsimp only at HP0 HT0 qn0
      obtain ⟨ss, hss⟩ : ∃ ss : ByteArray, ss = ⟨ss0.toArray⟩ := ⟨_, rfl⟩
      rw [← hss] at HP0 HT0
      clear hss
      have qn : Hid (Ln.LOk (Ln.wt (l.take (i + 1)) + (i + 1)) M) := qn0
      have hMN : Hid (Ln.LOk 1000000 M) := qn0.mono (by omega)
      have HP : Hid (∀ W, LAt W (.agg #[.string x0, .int .i64 p0, .slice b0 bn0 bc0, .slice g0 gn0 gc0, .string x1, .int .i64 p1, .slice b1 bn1 bc1, .slice g1 gn1 gc1, .bool up]) L → Calls Try.prog 13 #[.agg #[.string x0, .int .i64 p0, .slice b0 bn0 bc0, .slice g0 gn0 gc0, .string x1, .int .i64 p1, .slice b1 bn1 bc1, .slice g1 gn1 gc1, .bool up], .agg #[.int .i64 ck, .int .i64 cy, .int .i64 ca, .int .i64 cm, .string cx]] W fun e w' => ∃ (x0' : ByteArray) (p0' : Int) (b0' : Option Addr) (bn0' bc0' : Nat) (g0' : Option Addr) (gn0' gc0' : Nat) (x1' : ByteArray) (p1' : Int) (b1' : Option Addr) (bn1' bc1' : Nat) (g1' : Option Addr) (gn1' gc1' : Nat) (up' : Bool), e = .returned (.tuple #[.agg #[.string x0', .int .i64 p0', .slice b0' bn0' bc0', .slice g0' gn0' gc0', .string x1', .int .i64 p1', .slice b1' bn1' bc1', .slice g1' gn1' gc1', .bool up'], .string ss, .int .i64 ee]) ∧ Hid (LAt w' (.agg #[.string x0', .int .i64 p0', .slice b0' bn0' bc0', .slice g0' gn0' gc0', .string x1', .int .i64 p1', .slice b1' bn1' bc1', .slice g1' gn1' gc1', .bool up']) M) ∧ Below W.heap.size W w') := fun W hW => (HP0 W _ hW).mono fun e w' ⟨v, h1, h2, h3⟩ => by
        have h4 := h2
        obtain ⟨b0, c0, g0, d0, b1, c1, g1, d1, rfl, -⟩ := h4
        exact ⟨_, _, _, _, _, _, _, _, _, _, _, _, _, _, _, _, _, h1, h2, h3⟩
      have HT : Hid (∀ W, LAt W (.agg #[.string x02, .int .i64 p02, .slice b02 bn02 bc02, .slice g02 gn02 gc02, .string x12, .int .i64 p12, .slice b12 bn12 bc12, .slice g12 gn12 gc12, .bool up2]) L → Calls Try.prog 14 #[.agg #[.string x02, .int .i64 p02, .slice b02 bn02 bc02, .slice g02 gn02 gc02, .string x12, .int .i64 p12, .slice b12 bn12 bc12, .slice g12 gn12 gc12, .bool up2], .agg #[.int .i64 ck, .int .i64 cy, .int .i64 ca, .int .i64 cm, .string cx]] W fun e w' => ∃ (x0' : ByteArray) (p0' : Int) (b0' : Option Addr) (bn0' bc0' : Nat) (g0' : Option Addr) (gn0' gc0' : Nat) (x1' : ByteArray) (p1' : Int) (b1' : Option Addr) (bn1' bc1' : Nat) (g1' : Option Addr) (gn1' gc1' : Nat) (up' : Bool), e = .returned (.tuple #[.agg #[.string x0', .int .i64 p0', .slice b0' bn0' bc0', .slice g0' gn0' gc0', .string x1', .int .i64 p1', .slice b1' bn1' bc1', .slice g1' gn1' gc1', .bool up'], .string ss, .int .i64 ee]) ∧ Hid (LAt w' (.agg #[.string x0', .int .i64 p0', .slice b0' bn0' bc0', .slice g0' gn0' gc0', .string x1', .int .i64 p1', .slice b1' bn1' bc1', .slice g1' gn1' gc1', .bool up']) M) ∧ Below W.heap.size W w') := fun W hW => (HT0 W _ hW).mono fun e w' ⟨v, h1, h2, h3⟩ => by
        have h4 := h2
        obtain ⟨b0, c0, g0, d0, b1, c1, g1, d1, rfl, -⟩ := h4
        exact ⟨_, _, _, _, _, _, _, _, _, _, _, _, _, _, _, _, _, h1, h2, h3⟩
      have HSm : Hid (∀ W v v', LAt W v M → LAt W v' M → Calls Try.prog 15 #[v, v'] W fun e w' => VPost (.bool true) W e w') := fun W v v' h h' => same_at v v' M _ W hMN.out (by omega) h h'
      have hz0 : (0 : Int) ≤ (i : Int) := by omega
      have hz1 : (i : Int) < (N : Int) := by omega
      clear q3 hwt hwi hci at1 hat hil hLp qn0 HP0 HT0 hMN
      go_upto_region 7 with fail
      have kO1 : Rg.Bk wr.heap.size [.int .i64 ck, .int .i64 cy, .int .i64 ca, .int .i64 cm, .string cx] 33 (wr.alloc (.cells #[.int .i64 ck, .int .i64 cy, .int .i64 ca, .int .i64 cm, .string cx] 33)) := Rg.Bk.new rfl
      have kV1 := kV.out.old (.cells #[.int .i64 ck, .int .i64 cy, .int .i64 ca, .int .i64 cm, .string cx] 33)
      have kZ1 := Rg.hid (kZ.out.old (.cells #[.int .i64 ck, .int .i64 cy, .int .i64 ca, .int .i64 cm, .string cx] 33))
      have hL1 := Rg.hid (hLa.out.below (Rg.al1 wr (.cells #[.int .i64 ck, .int .i64 cy, .int .i64 ca, .int .i64 cm, .string cx] 33)))
      have hM1 := Rg.hid (hLb.out.below (Rg.al1 wr (.cells #[.int .i64 ck, .int .i64 cy, .int .i64 ca, .int .i64 cm, .string cx] 33)))
      have hb1 := Rg.chain hbw (Rg.al1 wr (.cells #[.int .i64 ck, .int .i64 cy, .int .i64 ca, .int .i64 cm, .string cx] 33))
      clear c0 c1 c2 c3 c4 kV hLa hbw kZ hLb
      generalize World.alloc _ _ = w4 at *
      generalize wr.heap.size = O at *
      have s0 : w4.cell? ⟨O, 0, none⟩ = some (.int .i64 ck) := kO1.cell 0
      have s1 : w4.cell? ⟨O, 1, none⟩ = some (.int .i64 cy) := kO1.cell 1
      have s2 : w4.cell? ⟨O, 2, none⟩ = some (.int .i64 ca) := kO1.cell 2
      have s3 : w4.cell? ⟨O, 3, none⟩ = some (.int .i64 cm) := kO1.cell 3
      have s4 : w4.cell? ⟨O, 4, none⟩ = some (.string cx) := kO1.cell 4
      have z0 : w4.cell? ⟨V, 0, none⟩ = some (.string x0) := kV1.cell 0
      have z1 : w4.cell? ⟨V, 1, none⟩ = some (.int .i64 p0) := kV1.cell 1
      have z2 : w4.cell? ⟨V, 2, none⟩ = some (.slice b0 bn0 bc0) := kV1.cell 2
      have z3 : w4.cell? ⟨V, 3, none⟩ = some (.slice g0 gn0 gc0) := kV1.cell 3
      have z4 : w4.cell? ⟨V, 4, none⟩ = some (.string x1) := kV1.cell 4
      have z5 : w4.cell? ⟨V, 5, none⟩ = some (.int .i64 p1) := kV1.cell 5
      have z6 : w4.cell? ⟨V, 6, none⟩ = some (.slice b1 bn1 bc1) := kV1.cell 6
      have z7 : w4.cell? ⟨V, 7, none⟩ = some (.slice g1 gn1 gc1) := kV1.cell 7
      have z8 : w4.cell? ⟨V, 8, none⟩ = some (.bool up) := kV1.cell 8
      replace kV1 := Rg.hid kV1
      replace kO1 := Rg.hid kO1
      go_upto_region 8 with (go_at_call 13; refine (HP.out _ hL1.out).mono ?_; rintro e w5 ⟨x0', p0', b0', bn0', bc0', g0', gn0', gc0', x1', p1', b1', bn1', bc1', g1', gn1', gc1', up', rfl, hX5, b5⟩)
      have b5' := Rg.chain b5 (Rg.al1 w5 (.cells #[.string x0', .int .i64 p0', .slice b0' bn0' bc0', .slice g0' gn0' gc0', .string x1', .int .i64 p1', .slice b1' bn1' bc1', .slice g1' gn1' gc1', .bool up'] 30))
      have kO6 := kO1.out.below b5' kO1.out.lt
      have kV6 := Rg.hid (kV1.out.below b5' kV1.out.lt)
      have kZ6 := kZ1.out.below b5' kZ1.out.lt
      have hM6 := Rg.hid (hM1.out.below b5')
      have kX6 : Hid (Rg.Bk w5.heap.size [.string x0', .int .i64 p0', .slice b0' bn0' bc0', .slice g0' gn0' gc0', .string x1', .int .i64 p1', .slice b1' bn1' bc1', .slice g1' gn1' gc1', .bool up'] 30 (w5.alloc (.cells #[.string x0', .int .i64 p0', .slice b0' bn0' bc0', .slice g0' gn0' gc0', .string x1', .int .i64 p1', .slice b1' bn1' bc1', .slice g1' gn1' gc1', .bool up'] 30))) := Rg.Bk.new rfl
      have hX6 := Rg.hid (hX5.out.below (Rg.al1 w5 (.cells #[.string x0', .int .i64 p0', .slice b0' bn0' bc0', .slice g0' gn0' gc0', .string x1', .int .i64 p1', .slice b1' bn1' bc1', .slice g1' gn1' gc1', .bool up'] 30)))
      have hb6 := Rg.chain hb1 b5'
      have hXV : w5.heap.size ≠ V := by have := (kV1.out.below b5 kV1.out.lt).lt; omega
      have hXZ : w5.heap.size ≠ Z := by have := (kZ1.out.below b5 kZ1.out.lt).lt; omega
      clear s0 s1 s2 s3 s4 z0 z1 z2 z3 z4 z5 z6 z7 z8 kV1 kO1 kZ1 hM1 hL1 hX5 b5 b5' HP hb1
      generalize World.alloc _ _ = w6 at *
      generalize w5.heap.size = X at *
      have s0 : w6.cell? ⟨O, 0, none⟩ = some (.int .i64 ck) := kO6.cell 0
      have s1 : w6.cell? ⟨O, 1, none⟩ = some (.int .i64 cy) := kO6.cell 1
      have s2 : w6.cell? ⟨O, 2, none⟩ = some (.int .i64 ca) := kO6.cell 2
      have s3 : w6.cell? ⟨O, 3, none⟩ = some (.int .i64 cm) := kO6.cell 3
      have s4 : w6.cell? ⟨O, 4, none⟩ = some (.string cx) := kO6.cell 4
      have z0 : w6.cell? ⟨Z, 0, none⟩ = some (.string x02) := kZ6.cell 0
      have z1 : w6.cell? ⟨Z, 1, none⟩ = some (.int .i64 p02) := kZ6.cell 1
      have z2 : w6.cell? ⟨Z, 2, none⟩ = some (.slice b02 bn02 bc02) := kZ6.cell 2
      have z3 : w6.cell? ⟨Z, 3, none⟩ = some (.slice g02 gn02 gc02) := kZ6.cell 3
      have z4 : w6.cell? ⟨Z, 4, none⟩ = some (.string x12) := kZ6.cell 4
      have z5 : w6.cell? ⟨Z, 5, none⟩ = some (.int .i64 p12) := kZ6.cell 5
      have z6 : w6.cell? ⟨Z, 6, none⟩ = some (.slice b12 bn12 bc12) := kZ6.cell 6
      have z7 : w6.cell? ⟨Z, 7, none⟩ = some (.slice g12 gn12 gc12) := kZ6.cell 7
      have z8 : w6.cell? ⟨Z, 8, none⟩ = some (.bool up2) := kZ6.cell 8
      replace kZ6 := Rg.hid kZ6
      clear kO6
      go_upto_region 9 with (go_at_call 14; refine (HT.out _ hM6.out).mono ?_; rintro e w7 ⟨x03, p03, b03, bn03, bc03, g03, gn03, gc03, x13, p13, b13, bn13, bc13, g13, gn13, gc13, up3, rfl, hY7, b7⟩)
      have b7' := Rg.chain b7 (Rg.al1 w7 (.cells #[.string x03, .int .i64 p03, .slice b03 bn03 bc03, .slice g03 gn03 gc03, .string x13, .int .i64 p13, .slice b13 bn13 bc13, .slice g13 gn13 gc13, .bool up3] 30))
      have kV8 := Rg.hid (kV6.out.below b7' kV6.out.lt)
      have kZ8 := Rg.hid (kZ6.out.below b7' kZ6.out.lt)
      have kX8 := kX6.out.below b7' kX6.out.lt
      have hX8 := Rg.hid (hX6.out.below b7')
      have kY8 : Rg.Bk w7.heap.size [.string x03, .int .i64 p03, .slice b03 bn03 bc03, .slice g03 gn03 gc03, .string x13, .int .i64 p13, .slice b13 bn13 bc13, .slice g13 gn13 gc13, .bool up3] 30 (w7.alloc (.cells #[.string x03, .int .i64 p03, .slice b03 bn03 bc03, .slice g03 gn03 gc03, .string x13, .int .i64 p13, .slice b13 bn13 bc13, .slice g13 gn13 gc13, .bool up3] 30)) := Rg.Bk.new rfl
      have hY8 := Rg.hid (hY7.out.below (Rg.al1 w7 (.cells #[.string x03, .int .i64 p03, .slice b03 bn03 bc03, .slice g03 gn03 gc03, .string x13, .int .i64 p13, .slice b13 bn13 bc13, .slice g13 gn13 gc13, .bool up3] 30)))
      have hb8 := Rg.chain hb6 b7'
      have hYV : w7.heap.size ≠ V := by have := (kV6.out.below b7 kV6.out.lt).lt; omega
      have hYZ : w7.heap.size ≠ Z := by have := (kZ6.out.below b7 kZ6.out.lt).lt; omega
      clear s0 s1 s2 s3 s4 z0 z1 z2 z3 z4 z5 z6 z7 z8 kV6 kZ6 kX6 hX6 hM6 hY7 b7 b7' HT hb6
      generalize World.alloc _ _ = w8 at *
      generalize w7.heap.size = Y at *
      have z0 : w8.cell? ⟨X, 0, none⟩ = some (.string x0') := kX8.cell 0
      have z1 : w8.cell? ⟨X, 1, none⟩ = some (.int .i64 p0') := kX8.cell 1
      have z2 : w8.cell? ⟨X, 2, none⟩ = some (.slice b0' bn0' bc0') := kX8.cell 2
      have z3 : w8.cell? ⟨X, 3, none⟩ = some (.slice g0' gn0' gc0') := kX8.cell 3
      have z4 : w8.cell? ⟨X, 4, none⟩ = some (.string x1') := kX8.cell 4
      have z5 : w8.cell? ⟨X, 5, none⟩ = some (.int .i64 p1') := kX8.cell 5
      have z6 : w8.cell? ⟨X, 6, none⟩ = some (.slice b1' bn1' bc1') := kX8.cell 6
      have z7 : w8.cell? ⟨X, 7, none⟩ = some (.slice g1' gn1' gc1') := kX8.cell 7
      have z8 : w8.cell? ⟨X, 8, none⟩ = some (.bool up') := kX8.cell 8
      have y0 : w8.cell? ⟨Y, 0, none⟩ = some (.string x03) := kY8.cell 0
      have y1 : w8.cell? ⟨Y, 1, none⟩ = some (.int .i64 p03) := kY8.cell 1
      have y2 : w8.cell? ⟨Y, 2, none⟩ = some (.slice b03 bn03 bc03) := kY8.cell 2
      have y3 : w8.cell? ⟨Y, 3, none⟩ = some (.slice g03 gn03 gc03) := kY8.cell 3
      have y4 : w8.cell? ⟨Y, 4, none⟩ = some (.string x13) := kY8.cell 4
      have y5 : w8.cell? ⟨Y, 5, none⟩ = some (.int .i64 p13) := kY8.cell 5
      have y6 : w8.cell? ⟨Y, 6, none⟩ = some (.slice b13 bn13 bc13) := kY8.cell 6
      have y7 : w8.cell? ⟨Y, 7, none⟩ = some (.slice g13 gn13 gc13) := kY8.cell 7
      have y8 : w8.cell? ⟨Y, 8, none⟩ = some (.bool up3) := kY8.cell 8
      have es : (ss.toList == ss.toList) = true := by simp
      have ei : (ee == ee) = true := by simp
      have en : (ee != ee) = false := by simp
      replace kX8 := Rg.hid kX8
      replace kY8 := Rg.hid kY8
      go_upto_region 11 with (go_at_call 15; refine (HSm.out _ _ _ hX8.out hY8.out).mono ?_; rintro e w9 ⟨rfl, b9⟩)
      have kV9 := kV8.out.below b9 kV8.out.lt
      have kZ9 := kZ8.out.below b9 kZ8.out.lt
      have kX9 := kX8.out.below b9 kX8.out.lt
      have kY9 := kY8.out.below b9 kY8.out.lt
      have hX9 := hX8.out.below b9
      have hY9 := hY8.out.below b9
      have hb9 := Rg.chain hb8 b9
      clear z0 z1 z2 z3 z4 z5 z6 z7 z8 y0 y1 y2 y3 y4 y5 y6 y7 y8 kV8 kZ8 kX8 kY8 hX8 hY8 b9 HSm es ei en hb8
      obtain ⟨kVa, oVa⟩ := ret9 kV9 rfl (.string x0') (.int .i64 p0') (.slice b0' bn0' bc0') (.slice g0' gn0' gc0') (.string x1') (.int .i64 p1') (.slice b1' bn1' bc1') (.slice g1' gn1' gc1') (.bool up')
      obtain ⟨kZa, oZa⟩ := ret9 (kZ9.same (oVa.block Z (Ne.symm hVZ))) rfl (.string x03) (.int .i64 p03) (.slice b03 bn03 bc03) (.slice g03 gn03 gc03) (.string x13) (.int .i64 p13) (.slice b13 bn13 bc13) (.slice g13 gn13 gc13) (.bool up3)
      have out1 := Rg.hid (And.intro ((hX9.only kV9 line_int oVa).only (kZ9.same (oVa.block Z (Ne.symm hVZ))) line_int oZa) (And.intro ((hY9.only kV9 line_int oVa).only (kZ9.same (oVa.block Z (Ne.symm hVZ))) line_int oZa) (And.intro (kVa.same (oZa.block V hVZ)) (And.intro kZa ((hb9.trans (oVa.bel hVw)).trans (oZa.bel hZw))))))
      clear kVa oVa kZa oZa hX9 hY9 hb9
      have z0 : w9.cell? ⟨X, 0, none⟩ = some (.string x0') := kX9.cell 0
      have z1 : w9.cell? ⟨X, 1, none⟩ = some (.int .i64 p0') := kX9.cell 1
      have z2 : w9.cell? ⟨X, 2, none⟩ = some (.slice b0' bn0' bc0') := kX9.cell 2
      have z3 : w9.cell? ⟨X, 3, none⟩ = some (.slice g0' gn0' gc0') := kX9.cell 3
      have z4 : w9.cell? ⟨X, 4, none⟩ = some (.string x1') := kX9.cell 4
      have z5 : w9.cell? ⟨X, 5, none⟩ = some (.int .i64 p1') := kX9.cell 5
      have z6 : w9.cell? ⟨X, 6, none⟩ = some (.slice b1' bn1' bc1') := kX9.cell 6
      have z7 : w9.cell? ⟨X, 7, none⟩ = some (.slice g1' gn1' gc1') := kX9.cell 7
      have z8 : w9.cell? ⟨X, 8, none⟩ = some (.bool up') := kX9.cell 8
      have y0 : w9.cell? ⟨Y, 0, none⟩ = some (.string x03) := kY9.cell 0
      have y1 : w9.cell? ⟨Y, 1, none⟩ = some (.int .i64 p03) := kY9.cell 1
      have y2 : w9.cell? ⟨Y, 2, none⟩ = some (.slice b03 bn03 bc03) := kY9.cell 2
      have y3 : w9.cell? ⟨Y, 3, none⟩ = some (.slice g03 gn03 gc03) := kY9.cell 3
      have y4 : w9.cell? ⟨Y, 4, none⟩ = some (.string x13) := kY9.cell 4
      have y5 : w9.cell? ⟨Y, 5, none⟩ = some (.int .i64 p13) := kY9.cell 5
      have y6 : w9.cell? ⟨Y, 6, none⟩ = some (.slice b13 bn13 bc13) := kY9.cell 6
      have y7 : w9.cell? ⟨Y, 7, none⟩ = some (.slice g13 gn13 gc13) := kY9.cell 7
      have y8 : w9.cell? ⟨Y, 8, none⟩ = some (.bool up3) := kY9.cell 8
      have u0 : w9.cell? ⟨V, 0, none⟩ = some (.string x0) := kV9.cell 0
      have u1 : w9.cell? ⟨V, 1, none⟩ = some (.int .i64 p0) := kV9.cell 1
      have u2 : w9.cell? ⟨V, 2, none⟩ = some (.slice b0 bn0 bc0) := kV9.cell 2
      have u3 : w9.cell? ⟨V, 3, none⟩ = some (.slice g0 gn0 gc0) := kV9.cell 3
      have u4 : w9.cell? ⟨V, 4, none⟩ = some (.string x1) := kV9.cell 4
      have u5 : w9.cell? ⟨V, 5, none⟩ = some (.int .i64 p1) := kV9.cell 5
      have u6 : w9.cell? ⟨V, 6, none⟩ = some (.slice b1 bn1 bc1) := kV9.cell 6
      have u7 : w9.cell? ⟨V, 7, none⟩ = some (.slice g1 gn1 gc1) := kV9.cell 7
      have u8 : w9.cell? ⟨V, 8, none⟩ = some (.bool up) := kV9.cell 8
      have v0 : w9.cell? ⟨Z, 0, none⟩ = some (.string x02) := kZ9.cell 0
      have v1 : w9.cell? ⟨Z, 1, none⟩ = some (.int .i64 p02) := kZ9.cell 1
      have v2 : w9.cell? ⟨Z, 2, none⟩ = some (.slice b02 bn02 bc02) := kZ9.cell 2
      have v3 : w9.cell? ⟨Z, 3, none⟩ = some (.slice g02 gn02 gc02) := kZ9.cell 3
      have v4 : w9.cell? ⟨Z, 4, none⟩ = some (.string x12) := kZ9.cell 4
      have v5 : w9.cell? ⟨Z, 5, none⟩ = some (.int .i64 p12) := kZ9.cell 5
      have v6 : w9.cell? ⟨Z, 6, none⟩ = some (.slice b12 bn12 bc12) := kZ9.cell 6
      have v7 : w9.cell? ⟨Z, 7, none⟩ = some (.slice g12 gn12 gc12) := kZ9.cell 7
      have v8 : w9.cell? ⟨Z, 8, none⟩ = some (.bool up2) := kZ9.cell 8
      have uf := kV9.thaw
      have vf := kZ9.thaw
      clear kX9 kY9 kV9 kZ9
      go_region
      clear z0 z1 z2 z3 z4 z5 z6 z7 z8 y0 y1 y2 y3 y4 y5 y6 y7 y8 u0 u1 u2 u3 u4 u5 u6 u7 u8 v0 v1 v2 v3 v4 v5 v6 v7 v8 uf vf
      generalize World.setCell _ _ _ = wc at *
      obtain ⟨hXc, hYc, kVc, kZc, hbc⟩ := out1.out
      have r1 : Hid (∃ (x0' : ByteArray) (p0' : Int) (b0' : Option Addr) (bn0' bc0' : Nat) (g0' : Option Addr) (gn0' gc0' : Nat) (x1' : ByteArray) (p1' : Int) (b1' : Option Addr) (bn1' bc1' : Nat) (g1' : Option Addr) (gn1' gc1' : Nat) (up' : Bool), LAt wc.drew (.agg #[.string x0', .int .i64 p0', .slice b0' bn0' bc0', .slice g0' gn0' gc0', .string x1', .int .i64 p1', .slice b1' bn1' bc1', .slice g1' gn1' gc1', .bool up']) M ∧ Rg.Bk V [.string x0', .int .i64 p0', .slice b0' bn0' bc0', .slice g0' gn0' gc0', .string x1', .int .i64 p1', .slice b1' bn1' bc1', .slice g1' gn1' gc1', .bool up'] 30 wc.drew) := ⟨_, _, _, _, _, _, _, _, _, _, _, _, _, _, _, _, _, hXc.below ((Below.refl _ _).drew), kVc.drew⟩
      have r2 : Hid (∃ (x0' : ByteArray) (p0' : Int) (b0' : Option Addr) (bn0' bc0' : Nat) (g0' : Option Addr) (gn0' gc0' : Nat) (x1' : ByteArray) (p1' : Int) (b1' : Option Addr) (bn1' bc1' : Nat) (g1' : Option Addr) (gn1' gc1' : Nat) (up' : Bool), LAt wc.drew (.agg #[.string x0', .int .i64 p0', .slice b0' bn0' bc0', .slice g0' gn0' gc0', .string x1', .int .i64 p1', .slice b1' bn1' bc1', .slice g1' gn1' gc1', .bool up']) M ∧ Rg.Bk Z [.string x0', .int .i64 p0', .slice b0' bn0' bc0', .slice g0' gn0' gc0', .string x1', .int .i64 p1', .slice b1' bn1' bc1', .slice g1' gn1' gc1', .bool up'] 30 wc.drew) := ⟨_, _, _, _, _, _, _, _, _, _, _, _, _, _, _, _, _, hYc.below ((Below.refl _ _).drew), kZc.drew⟩
      have hbd := hbc.drew
      clear out1 hXc hYc kVc kZc hbc
      generalize World.drew _ = wd at *
      go_wp2
      go_roundw
      case rel => exact ⟨i + 1, M, by omega, by go_num, qn, r1, r2, hbd⟩
      case measure => simp [intOf]; omega
    · have hie : i = N := by omega
      subst i
      clear hLa kV hLb kZ hLp hwi
      go_wp2_with (go_at_call 10; refine (HA.out _ hbw).mono ?_)
      rintro e w2 ⟨rfl, b2⟩
      go_wp2
      go_ret
      exact ⟨rfl, b2⟩
end Go.Proofs.Ytalleocmnnnchaa
