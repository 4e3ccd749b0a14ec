/-
  Layer 7: LineApart.
-/
import Derived.Test.YtalleocmnnnchaaLn19
namespace Go.Proofs.Ytalleocmnnnchaa
open Go.RowKit

theorem Ln.play_apart (L : Ln.Li) (c : Ln.Cl) (hu : L.up = true) (hk : c.k < 5) (hy : c.y = 0) : (Ln.play L c).1.b = L.b ∧ (Ln.play L c).1.up = true := by
  obtain ⟨k, y, a, n, s⟩ := c
  dsimp only at hk hy
  subst hy
  have hput : ∀ r, (Ln.put L 0 r).b = L.b ∧ (Ln.put L 0 r).up = true := fun r => by simp [Ln.put, hu]
  unfold Ln.play
  dsimp only
  split
  · unfold Ln.send
    split
    · exact ⟨rfl, hu⟩
    split
    · exact ⟨rfl, hu⟩
    split
    · exact ⟨rfl, hu⟩
    · exact hput _
  split
  · unfold Ln.take
    split
    · exact ⟨rfl, hu⟩
    · exact hput _
  split
  · unfold Ln.flip
    split
    · exact hput _
    · exact ⟨rfl, hu⟩
  split
  · unfold Ln.lose
    split
    · exact hput _
    · exact ⟨rfl, hu⟩
  split
  · unfold Ln.add
    split
    · split
      · exact ⟨rfl, hu⟩
      · exact hput _
    · exact ⟨rfl, hu⟩
  split
  · omega
  · unfold Ln.open_
    rw [if_pos hu]
    exact ⟨rfl, hu⟩

theorem op_int : 33 ≠ 3 := by decide
set_option maxHeartbeats 4000000 in
set_option maxRecDepth 100000 in
theorem apart_walk (a : Option Addr) (ca : Nat) (l : List Ln.Cl) (d : ByteArray) (hn : l.length ≤ 1000000000000000) (w : World) (hrow : CRow0 w a l) :
    Calls Try.prog 7 #[.slice a l.length ca, .string d] w fun e w' => VPost (.bool true) w e w' := by
  have HA : Hid (∀ W, Below w.heap.size w W → Calls Try.prog 10 #[] W fun e w' => VPost (.bool true) w e w') := fun W hW => (awake_any W).mono fun e w' ⟨h1, h2⟩ => ⟨h1, Rg.chain hW h2⟩
  have HH : Hid (∀ W, Below w.heap.size w W → Calls Try.prog 9 #[.slice a l.length ca] W fun e w' => ∃ B : Bool, e = .returned (.bool B) ∧ Hid (B = false → Light l) ∧ Below w.heap.size w w') := fun W hW => (heavy_any a ca l W hn (hrow.below hW)).mono fun e w' ⟨B, h1, h2, h3⟩ => ⟨B, h1, h2, Rg.chain hW h3⟩
  obtain ⟨N, hN⟩ : ∃ N, N = l.length := ⟨_, rfl⟩
  rw [← hN] at hn HH ⊢
  replace hN := Rg.hid hN
  replace hrow := Rg.hid hrow
  go_enter Try.func7, Try.ntmps7
  by_cases hd : (500 : Int) < (d.size : Int)
  case pos =>
    have dd : decide ((500 : Int) < (d.size : Int)) = true := by simp only [decide_eq_true_eq]; exact hd
    clear hd
    go_wp2_with (go_at_call 9; refine (HH.out _ (Below.refl _ _)).mono ?_)
    rintro e w1 ⟨B, rfl, hL, bH⟩
    cases B
    · go_wp2_with (go_at_call 10; refine (HA.out _ bH).mono ?_)
      rintro e w2 ⟨rfl, b2⟩
      go_wp2
      go_ret
      exact ⟨rfl, b2⟩
    · go_wp2_with (go_at_call 10; refine (HA.out _ bH).mono ?_)
      rintro e w2 ⟨rfl, b2⟩
      go_wp2
      go_ret
      exact ⟨rfl, b2⟩
  case neg =>
  have dd : decide ((500 : Int) < (d.size : Int)) = false := by simp only [decide_eq_false_iff_not]; exact hd
  have hds : d.size ≤ 500 := by omega
  clear hd
  go_wp2_with (go_at_call 9; refine (HH.out _ (Below.refl _ _)).mono ?_)
  rintro e w1 ⟨B, rfl, hL, bH⟩
  clear HH
  cases B
  case true =>
    go_wp2_with (go_at_call 10; refine (HA.out _ bH).mono ?_)
    rintro e w2 ⟨rfl, b2⟩
    go_wp2
    go_ret
    exact ⟨rfl, b2⟩
  case false =>
  have hLt := Rg.hid (hL.out rfl)
  clear hL
  have HN : Hid (∀ W, Calls Try.prog 11 #[] W fun e w' => e = .returned (.agg #[.string ⟨#[]⟩, .int .i64 0, .slice none 0 0, .slice none 0 0, .string ⟨#[]⟩, .int .i64 0, .slice none 0 0, .slice none 0 0, .bool true]) ∧ Below W.heap.size W w') := fun W => lnew_any W
  have HS : Hid (∀ W, Calls Try.prog 18 #[.agg #[.string ⟨#[]⟩, .int .i64 0, .slice none 0 0, .slice none 0 0, .string ⟨#[]⟩, .int .i64 0, .slice none 0 0, .slice none 0 0, .bool true], .int .i64 1, .string d] W fun e w' => ∃ (x0' : ByteArray) (p0' : Int) (b0' : Option Addr) (bn0' bc0' : Nat) (g0' : Option Addr) (gn0' gc0' : Nat) (x1' : ByteArray) (p1' : Int) (b1' : Option Addr) (bn1' bc1' : Nat) (g1' : Option Addr) (gn1' gc1' : Nat) (up' : Bool), e = .returned (.tuple #[.agg #[.string x0', .int .i64 p0', .slice b0' bn0' bc0', .slice g0' gn0' gc0', .string x1', .int .i64 p1', .slice b1' bn1' bc1', .slice g1' gn1' gc1', .bool up'], .int .i64 0]) ∧ Hid (LAt w' (.agg #[.string x0', .int .i64 p0', .slice b0' bn0' bc0', .slice g0' gn0' gc0', .string x1', .int .i64 p1', .slice b1' bn1' bc1', .slice g1' gn1' gc1', .bool up']) ⟨Ln.empty, ⟨d.data.toList, 0, [], []⟩, true⟩) ∧ Below W.heap.size W w') := fun W => (lsend_at (.agg #[.string ⟨#[]⟩, .int .i64 0, .slice none 0 0, .slice none 0 0, .string ⟨#[]⟩, .int .i64 0, .slice none 0 0, .slice none 0 0, .bool true]) Ln.new 1 d 0 W ⟨Ln.empty_ok _, Ln.empty_ok _⟩ (by omega) ⟨none, 0, none, 0, none, 0, none, 0, rfl, IRow.nil, Nat.le_refl _, IRow.nil, Nat.le_refl _, IRow.nil, Nat.le_refl _, IRow.nil, Nat.le_refl _⟩).mono fun e w' q => by
    have hs : Ln.send Ln.new 1 d.data.toList = (⟨Ln.empty, ⟨d.data.toList, 0, [], []⟩, true⟩, 0) := by
      have : d.data.toList.length = d.size := rfl
      simp [Ln.send, Ln.new, Ln.nway, Ln.way, Ln.put, Ln.sendW, Ln.empty, this]
      omega
    rw [hs] at q
    obtain ⟨x0', p0', b0', bn0', bc0', g0', gn0', gc0', x1', p1', b1', bn1', bc1', g1', gn1', gc1', up', h1, h2, h3⟩ := q.ex
    exact ⟨x0', p0', b0', bn0', bc0', g0', gn0', gc0', x1', p1', b1', bn1', bc1', g1', gn1', gc1', up', h1, h2, h3⟩
  go_upto_region 4 with (first
    | (go_at_call 11; refine (HN.out _).mono ?_; rintro e w2 ⟨rfl, bN⟩)
    | (go_at_call 18; refine (HS.out _).mono ?_; rintro e w3 ⟨x0, p0, b0, bn0, bc0, g0, gn0, gc0, x1, p1, b1, bn1, bc1, g1, gn1, gc1, up, rfl, hS, bS⟩))
  have kV0 := Rg.hid (show Rg.Bk w3.heap.size [.string x0, .int .i64 p0, .slice b0 bn0 bc0, .slice g0 gn0 gc0, .string x1, .int .i64 p1, .slice b1 bn1 bc1, .slice g1 gn1 gc1, .bool up] 30 (w3.alloc (.cells #[.string x0, .int .i64 p0, .slice b0 bn0 bc0, .slice g0 gn0 gc0, .string x1, .int .i64 p1, .slice b1 bn1 bc1, .slice g1 gn1 gc1, .bool up] 30)) from Rg.Bk.new rfl)
  have hS0 := Rg.hid (hS.out.below (Rg.al1 w3 (.cells #[.string x0, .int .i64 p0, .slice b0 bn0 bc0, .slice g0 gn0 gc0, .string x1, .int .i64 p1, .slice b1 bn1 bc1, .slice g1 gn1 gc1, .bool up] 30)))
  have hb0 := Rg.chain (Rg.chain (Rg.chain bH bN) bS) (Rg.al1 w3 (.cells #[.string x0, .int .i64 p0, .slice b0 bn0 bc0, .slice g0 gn0 gc0, .string x1, .int .i64 p1, .slice b1 bn1 bc1, .slice g1 gn1 gc1, .bool up] 30))
  have hVw := (Rg.chain (Rg.chain bH bN) bS).size
  clear bH bN bS HN HS hS
  generalize World.alloc _ _ = W0 at *
  generalize w3.heap.size = V at *
  go_wp2
  go_loopw [29] (fun vi wr => ∃ (i : Nat) (L : Ln.Li), i ≤ N ∧ vi = .int .i64 i ∧ Hid (L.b = ⟨d.data.toList, 0, [], []⟩ ∧ L.up = true ∧ Ln.LOk (1000 + Ln.wt (l.take i) + i) L) ∧ Hid (∃ (x0' : ByteArray) (p0' : Int) (b0' : Option Addr) (bn0' bc0' : Nat) (g0' : Option Addr) (gn0' gc0' : Nat) (x1' : ByteArray) (p1' : Int) (b1' : Option Addr) (bn1' bc1' : Nat) (g1' : Option Addr) (gn1' gc1' : Nat) (up' : Bool), LAt wr (.agg #[.string x0', .int .i64 p0', .slice b0' bn0' bc0', .slice g0' gn0' gc0', .string x1', .int .i64 p1', .slice b1' bn1' bc1', .slice g1' gn1' gc1', .bool up']) L ∧ Rg.Bk V [.string x0', .int .i64 p0', .slice b0' bn0' bc0', .slice g0' gn0' gc0', .string x1', .int .i64 p1', .slice b1' bn1' bc1', .slice g1' gn1' gc1', .bool up'] 30 wr) ∧ Below w.heap.size w wr) (fun vi _ => N - (intOf vi).toNat)
  case atStart =>
    exact ⟨0, ⟨Ln.empty, ⟨d.data.toList, 0, [], []⟩, true⟩, Nat.zero_le _, rfl, ⟨rfl, rfl, Ln.empty_ok _, ⟨by have : d.data.toList.length = d.size := rfl; simp only [this]; omega, by have : d.data.toList.length = d.size := rfl; simp only [this]; omega, List.Pairwise.nil, List.Pairwise.nil, (fun _ h => by cases h), (fun _ h => by cases h)⟩⟩, ⟨_, _, _, _, _, _, _, _, _, _, _, _, _, _, _, _, _, hS0, kV0⟩, hb0⟩
  case round =>
    obtain ⟨i, L, hin, rfl, hLp, hLV, hbw⟩ := hrel
    clear kV0 hb0 hS0
    obtain ⟨x0, p0, b0, bn0, bc0, g0, gn0, gc0, x1, p1, b1, bn1, bc1, g1, gn1, gc1, up, hLa, kV⟩ := hLV.out
    clear hLV
    replace hLa := Rg.hid hLa
    replace kV := Rg.hid kV
    by_cases hlt : i < N
    · have hil : i < l.length := by rw [← hN.out]; exact hlt
      obtain ⟨b, o, rfl, hb, hat⟩ : ∃ b o, a = some ⟨b, o, none⟩ ∧ b < w.heap.size ∧ Rg.At w b o (callE.flat l) := by
        rcases hrow.out with h | h
        · rw [h] at hil; simp at hil
        · exact h
      have at1 : Rg.At wr b (o + i * 5) (callE.enc l[i]) := (hat.elem hil).below hbw hb
      have hci : l[i].s.size ≤ 50000 := hLt.out.data _ (List.getElem_mem hil)
      have hwt : Ln.wt (l.take (i + 1)) = Ln.wt (l.take i) + l[i].s.size := Ln.wt_take hil
      have hwl : Ln.wt (l.take i) ≤ 75000 := by
        have h1 := Ln.wt_append (l.take i) (l.drop i)
        rw [List.take_append_drop] at h1
        have := hLt.out.wt
        omega
      have hi2 : i ≤ 200 := by have := hLt.out.len; have := hN.out; omega
      generalize l[i] = c at *
      obtain ⟨ck, cy, ca, cm, cx⟩ := c
      obtain ⟨c0, c1, c2, c3, c4⟩ := call_at at1
      dsimp only at hci hwt
      obtain ⟨q1, q2, q3⟩ := hLp.out
      have qn : Ln.LOk (1000 + Ln.wt (l.take (i + 1)) + (i + 1)) (Ln.play L ⟨ck, 0, ca, cm, cx⟩).1 := (Ln.play_ok q3 ⟨ck, 0, ca, cm, cx⟩).mono (by show _ + cx.size + 1 ≤ _; omega)
      have qs : Ln.LOk (1000 + Ln.wt (l.take (i + 1)) + (i + 1)) L := q3.mono (by omega)
      have qa : ck < 5 → (Ln.play L ⟨ck, 0, ca, cm, cx⟩).1.b = L.b ∧ (Ln.play L ⟨ck, 0, ca, cm, cx⟩).1.up = true := fun h => Ln.play_apart L ⟨ck, 0, ca, cm, cx⟩ q2 h rfl
      have HP : Hid (∀ W, LAt W (.agg #[.string x0, .int .i64 p0, .slice b0 bn0 bc0, .slice g0 gn0 gc0, .string x1, .int .i64 p1, .slice b1 bn1 bc1, .slice g1 gn1 gc1, .bool up]) L → Calls Try.prog 13 #[.agg #[.string x0, .int .i64 p0, .slice b0 bn0 bc0, .slice g0 gn0 gc0, .string x1, .int .i64 p1, .slice b1 bn1 bc1, .slice g1 gn1 gc1, .bool up], .agg #[.int .i64 ck, .int .i64 0, .int .i64 ca, .int .i64 cm, .string cx]] W fun e w' => ∃ ss ee, ∃ (x0' : ByteArray) (p0' : Int) (b0' : Option Addr) (bn0' bc0' : Nat) (g0' : Option Addr) (gn0' gc0' : Nat) (x1' : ByteArray) (p1' : Int) (b1' : Option Addr) (bn1' bc1' : Nat) (g1' : Option Addr) (gn1' gc1' : Nat) (up' : Bool), e = .returned (.tuple #[.agg #[.string x0', .int .i64 p0', .slice b0' bn0' bc0', .slice g0' gn0' gc0', .string x1', .int .i64 p1', .slice b1' bn1' bc1', .slice g1' gn1' gc1', .bool up'], .string ss, .int .i64 ee]) ∧ Hid (LAt w' (.agg #[.string x0', .int .i64 p0', .slice b0' bn0' bc0', .slice g0' gn0' gc0', .string x1', .int .i64 p1', .slice b1' bn1' bc1', .slice g1' gn1' gc1', .bool up']) (Ln.play L ⟨ck, 0, ca, cm, cx⟩).1) ∧ Below W.heap.size W w') := fun W hW => (play_any _ L ⟨ck, 0, ca, cm, cx⟩ _ W q3 (by omega) (by show cx.size ≤ _; omega) hW).mono fun e w' ⟨v, h1, h2, h3⟩ => by
        have h4 := h2
        obtain ⟨b0, c0, g0, d0, b1, c1, g1, d1, rfl, -⟩ := h4
        exact ⟨_, _, _, _, _, _, _, _, _, _, _, _, _, _, _, _, _, _, _, h1, h2, h3⟩
      have hz0 : (0 : Int) ≤ (i : Int) := by omega
      have hz1 : (i : Int) < (N : Int) := by omega
      have hqs : Hid (L.b = ⟨d.data.toList, 0, [], []⟩ ∧ L.up = true ∧ Ln.LOk (1000 + Ln.wt (l.take (i + 1)) + (i + 1)) L) := ⟨q1, q2, qs⟩
      have hqn : Hid (ck < 5 → (Ln.play L ⟨ck, 0, ca, cm, cx⟩).1.b = ⟨d.data.toList, 0, [], []⟩ ∧ (Ln.play L ⟨ck, 0, ca, cm, cx⟩).1.up = true ∧ Ln.LOk (1000 + Ln.wt (l.take (i + 1)) + (i + 1)) (Ln.play L ⟨ck, 0, ca, cm, cx⟩).1) := fun h => ⟨(qa h).1.trans q1, (qa h).2, qn⟩
      clear q1 q2 q3 qn qs qa hwt hwl hci at1 hat hil hLp
      go_upto_region 9 with fail
      have kO1 : Rg.Bk wr.heap.size [.int .i64 ck, .int .i64 cy, .int .i64 ca, .int .i64 cm, .string cx] 33 (wr.alloc (.cells #[.int .i64 ck, .int .i64 cy, .int .i64 ca, .int .i64 cm, .string cx] 33)) := Rg.Bk.new rfl
      have kV1 := kV.out.old (.cells #[.int .i64 ck, .int .i64 cy, .int .i64 ca, .int .i64 cm, .string cx] 33)
      have hL1 := hLa.out.below (Rg.al1 wr (.cells #[.int .i64 ck, .int .i64 cy, .int .i64 ca, .int .i64 cm, .string cx] 33))
      have hb1 := Rg.chain hbw (Rg.al1 wr (.cells #[.int .i64 ck, .int .i64 cy, .int .i64 ca, .int .i64 cm, .string cx] 33))
      have hVO : V ≠ wr.heap.size := by have := kV.out.lt; omega
      have hOw := hbw.size
      clear c0 c1 c2 c3 c4 kV hLa hbw
      generalize World.alloc _ _ = w4 at *
      generalize wr.heap.size = O at *
      have kO2 : Rg.Bk O [.int .i64 ck, .int .i64 0, .int .i64 ca, .int .i64 cm, .string cx] 33 (w4.setCell ⟨O, 1, none⟩ (.int .i64 0)) := kO1.set 1 (.int .i64 0)
      have o2 := Rg.Only.setCell w4 O 1 (.int .i64 0)
      have kV2 := Rg.hid (kV1.same (o2.block V hVO))
      have hL2 := Rg.hid (hL1.only kO1 op_int o2)
      have hb2 := hb1.trans (o2.bel hOw)
      have y1 : w4.cell? ⟨O, 1, none⟩ = some (.int .i64 cy) := kO1.cell 1
      have yf := kO1.thaw
      replace kO2 := Rg.hid kO2
      clear kO1 o2 kV1 hL1 hb1
      go_upto_region 10 with fail
      clear y1 yf
      generalize World.setCell _ _ _ = w5 at *
      have s0 : w5.cell? ⟨O, 0, none⟩ = some (.int .i64 ck) := kO2.out.cell 0
      by_cases hk : ck < 5
      · have dk : decide (ck < 5) = true := by simp only [decide_eq_true_eq]; exact hk
        have hqn2 := Rg.hid (hqn.out hk)
        clear hk hqn hqs
        have s1 : w5.cell? ⟨O, 1, none⟩ = some (.int .i64 0) := kO2.out.cell 1
        have s2 : w5.cell? ⟨O, 2, none⟩ = some (.int .i64 ca) := kO2.out.cell 2
        have s3 : w5.cell? ⟨O, 3, none⟩ = some (.int .i64 cm) := kO2.out.cell 3
        have s4 : w5.cell? ⟨O, 4, none⟩ = some (.string cx) := kO2.out.cell 4
        have z0 : w5.cell? ⟨V, 0, none⟩ = some (.string x0) := kV2.out.cell 0
        have z1 : w5.cell? ⟨V, 1, none⟩ = some (.int .i64 p0) := kV2.out.cell 1
        have z2 : w5.cell? ⟨V, 2, none⟩ = some (.slice b0 bn0 bc0) := kV2.out.cell 2
        have z3 : w5.cell? ⟨V, 3, none⟩ = some (.slice g0 gn0 gc0) := kV2.out.cell 3
        have z4 : w5.cell? ⟨V, 4, none⟩ = some (.string x1) := kV2.out.cell 4
        have z5 : w5.cell? ⟨V, 5, none⟩ = some (.int .i64 p1) := kV2.out.cell 5
        have z6 : w5.cell? ⟨V, 6, none⟩ = some (.slice b1 bn1 bc1) := kV2.out.cell 6
        have z7 : w5.cell? ⟨V, 7, none⟩ = some (.slice g1 gn1 gc1) := kV2.out.cell 7
        have z8 : w5.cell? ⟨V, 8, none⟩ = some (.bool up) := kV2.out.cell 8
        go_upto_region 12 with (go_at_call 13; refine (HP.out _ hL2.out).mono ?_; rintro e w6 ⟨ss, ee, x0', p0', b0', bn0', bc0', g0', gn0', gc0', x1', p1', b1', bn1', bc1', g1', gn1', gc1', up', rfl, hL6, b6⟩; have kV6 := kV2.out.below b6 kV2.out.lt; have hb6 := Rg.hid (Rg.chain hb2 b6); have r0 := kV6.cell 0; have r1 := kV6.cell 1; have r2 := kV6.cell 2; have r3 := kV6.cell 3; have r4 := kV6.cell 4; have r5 := kV6.cell 5; have r6 := kV6.cell 6; have r7 := kV6.cell 7; have r8 := kV6.cell 8; have rf := kV6.thaw; simp only [List.getElem?_cons_zero, List.getElem?_cons_succ] at r0 r1 r2 r3 r4 r5 r6 r7 r8)
        obtain ⟨kV7, o7⟩ := ret9 kV6 rfl (.string x0') (.int .i64 p0') (.slice b0' bn0' bc0') (.slice g0' gn0' gc0') (.string x1') (.int .i64 p1') (.slice b1' bn1' bc1') (.slice g1' gn1' gc1') (.bool up')
        have hL7 := hL6.out.only kV6 line_int o7
        have hb7 := hb6.out.trans (o7.bel hVw)
        have hL7' : Hid (∃ (x0' : ByteArray) (p0' : Int) (b0' : Option Addr) (bn0' bc0' : Nat) (g0' : Option Addr) (gn0' gc0' : Nat) (x1' : ByteArray) (p1' : Int) (b1' : Option Addr) (bn1' bc1' : Nat) (g1' : Option Addr) (gn1' gc1' : Nat) (up' : Bool), LAt _ (.agg #[.string x0', .int .i64 p0', .slice b0' bn0' bc0', .slice g0' gn0' gc0', .string x1', .int .i64 p1', .slice b1' bn1' bc1', .slice g1' gn1' gc1', .bool up']) (Ln.play L ⟨ck, 0, ca, cm, cx⟩).1 ∧ Rg.Bk V [.string x0', .int .i64 p0', .slice b0' bn0' bc0', .slice g0' gn0' gc0', .string x1', .int .i64 p1', .slice b1' bn1' bc1', .slice g1' gn1' gc1', .bool up'] 30 _) := ⟨_, _, _, _, _, _, _, _, _, _, _, _, _, _, _, _, _, hL7, kV7⟩
        clear kV6 kV7 hL7 hL6 hb6 o7 r0 r1 r2 r3 r4 r5 r6 r7 r8 rf z0 z1 z2 z3 z4 z5 z6 z7 z8 s0 s1 s2 s3 s4 kO2 HP hL2 kV2
        generalize World.setCell _ _ _ = w7 at *
        go_wp2
        go_roundw
        case rel => exact ⟨i + 1, _, by omega, by go_num, hqn2, hL7', hb7⟩
        case measure => simp [intOf]; omega
      · have dk : decide (ck < 5) = false := by simp only [decide_eq_false_iff_not]; exact hk
        have hL7' : Hid (∃ (x0' : ByteArray) (p0' : Int) (b0' : Option Addr) (bn0' bc0' : Nat) (g0' : Option Addr) (gn0' gc0' : Nat) (x1' : ByteArray) (p1' : Int) (b1' : Option Addr) (bn1' bc1' : Nat) (g1' : Option Addr) (gn1' gc1' : Nat) (up' : Bool), LAt w5 (.agg #[.string x0', .int .i64 p0', .slice b0' bn0' bc0', .slice g0' gn0' gc0', .string x1', .int .i64 p1', .slice b1' bn1' bc1', .slice g1' gn1' gc1', .bool up']) L ∧ Rg.Bk V [.string x0', .int .i64 p0', .slice b0' bn0' bc0', .slice g0' gn0' gc0', .string x1', .int .i64 p1', .slice b1' bn1' bc1', .slice g1' gn1' gc1', .bool up'] 30 w5) := ⟨_, _, _, _, _, _, _, _, _, _, _, _, _, _, _, _, _, hL2.out, kV2.out⟩
        clear hk hqn HP hL2 kV2
        go_wp2
        go_roundw
        case rel => exact ⟨i + 1, L, by omega, by go_num, hqs, hL7', hb2⟩
        case measure => simp [intOf]; omega
    · obtain rfl : i = N := by omega
      obtain ⟨q1, q2, q3⟩ := hLp.out
      have hwl : Ln.wt (l.take i) ≤ 75000 := by
        have h1 := Ln.wt_append (l.take i) (l.drop i)
        rw [List.take_append_drop] at h1
        have := hLt.out.wt
        omega
      have hi2 : i ≤ 200 := by have := hLt.out.len; have := hN.out; omega
      have ht1 : (Ln.take L 1 1073741824).2 = d.data.toList := by
        have : d.data.toList.length = d.size := rfl
        rw [Ln.take, if_neg (by intro q; rcases q with q | q; (· revert q; decide); omega), Ln.way, if_neg (by decide), q1]
        exact List.take_of_length_le (by unfold Ln.much; dsimp only; omega)
      have ht2 : Ln.clean (Ln.take L 1 1073741824).1 1 0 1073741824 = true := by
        rw [Ln.take, if_neg (by intro q; rcases q with q | q; (· revert q; decide); omega), Ln.way, if_neg (by decide), q1]
        rfl
      have q4 := Ln.take_ok q3 1 1073741824
      have HT : Hid (∀ W, LAt W (.agg #[.string x0, .int .i64 p0, .slice b0 bn0 bc0, .slice g0 gn0 gc0, .string x1, .int .i64 p1, .slice b1 bn1 bc1, .slice g1 gn1 gc1, .bool up]) L → Calls Try.prog 19 #[.agg #[.string x0, .int .i64 p0, .slice b0 bn0 bc0, .slice g0 gn0 gc0, .string x1, .int .i64 p1, .slice b1 bn1 bc1, .slice g1 gn1 gc1, .bool up], .int .i64 1, .int .i64 1073741824] W fun e w' => ∃ (x0' : ByteArray) (p0' : Int) (b0' : Option Addr) (bn0' bc0' : Nat) (g0' : Option Addr) (gn0' gc0' : Nat) (x1' : ByteArray) (p1' : Int) (b1' : Option Addr) (bn1' bc1' : Nat) (g1' : Option Addr) (gn1' gc1' : Nat) (up' : Bool), e = .returned (.tuple #[.agg #[.string x0', .int .i64 p0', .slice b0' bn0' bc0', .slice g0' gn0' gc0', .string x1', .int .i64 p1', .slice b1' bn1' bc1', .slice g1' gn1' gc1', .bool up'], .string d]) ∧ Hid (LAt w' (.agg #[.string x0', .int .i64 p0', .slice b0' bn0' bc0', .slice g0' gn0' gc0', .string x1', .int .i64 p1', .slice b1' bn1' bc1', .slice g1' gn1' gc1', .bool up']) (Ln.take L 1 1073741824).1) ∧ Below W.heap.size W w') := fun W hW => (ltake_at _ L 1 1073741824 _ W q3 (by omega) hW).mono fun e w' q => by
        obtain ⟨x0', p0', b0', bn0', bc0', g0', gn0', gc0', x1', p1', b1', bn1', bc1', g1', gn1', gc1', up', h1, h2, h3⟩ := q.ex
        rw [ht1] at h1
        exact ⟨x0', p0', b0', bn0', bc0', g0', gn0', gc0', x1', p1', b1', bn1', bc1', g1', gn1', gc1', up', h1, h2, h3⟩
      have HCl : Hid (∀ W v, LAt W v (Ln.take L 1 1073741824).1 → Calls Try.prog 16 #[v, .int .i64 1, .agg #[.int .i64 0, .int .i64 1073741824]] W fun e w' => VPost (.bool true) W e w') := fun W v hv => by
        have := lclean_at v _ 1 0 1073741824 _ W q4 (by omega) hv
        rw [ht2] at this
        exact this
      have de : (d.toList == d.toList) = true := by simp
      have z0 : wr.cell? ⟨V, 0, none⟩ = some (.string x0) := kV.out.cell 0
      have z1 : wr.cell? ⟨V, 1, none⟩ = some (.int .i64 p0) := kV.out.cell 1
      have z2 : wr.cell? ⟨V, 2, none⟩ = some (.slice b0 bn0 bc0) := kV.out.cell 2
      have z3 : wr.cell? ⟨V, 3, none⟩ = some (.slice g0 gn0 gc0) := kV.out.cell 3
      have z4 : wr.cell? ⟨V, 4, none⟩ = some (.string x1) := kV.out.cell 4
      have z5 : wr.cell? ⟨V, 5, none⟩ = some (.int .i64 p1) := kV.out.cell 5
      have z6 : wr.cell? ⟨V, 6, none⟩ = some (.slice b1 bn1 bc1) := kV.out.cell 6
      have z7 : wr.cell? ⟨V, 7, none⟩ = some (.slice g1 gn1 gc1) := kV.out.cell 7
      have z8 : wr.cell? ⟨V, 8, none⟩ = some (.bool up) := kV.out.cell 8
      clear q1 q2 q3 q4 ht1 ht2 hwl hLp hrow hLt
      go_upto_region 14 with (go_at_call 19; refine (HT.out _ hLa.out).mono ?_; rintro e w2 ⟨x0', p0', b0', bn0', bc0', g0', gn0', gc0', x1', p1', b1', bn1', bc1', g1', gn1', gc1', up', rfl, hT, b2⟩)
      have hT2 := Rg.hid (hT.out.below (Rg.al1 w2 (.cells #[.string x0', .int .i64 p0', .slice b0' bn0' bc0', .slice g0' gn0' gc0', .string x1', .int .i64 p1', .slice b1' bn1' bc1', .slice g1' gn1' gc1', .bool up'] 30)))
      have kX : Rg.Bk w2.heap.size [.string x0', .int .i64 p0', .slice b0' bn0' bc0', .slice g0' gn0' gc0', .string x1', .int .i64 p1', .slice b1' bn1' bc1', .slice g1' gn1' gc1', .bool up'] 30 (w2.alloc (.cells #[.string x0', .int .i64 p0', .slice b0' bn0' bc0', .slice g0' gn0' gc0', .string x1', .int .i64 p1', .slice b1' bn1' bc1', .slice g1' gn1' gc1', .bool up'] 30)) := Rg.Bk.new rfl
      have hb2 := Rg.chain (Rg.chain hbw b2) (Rg.al1 w2 (.cells #[.string x0', .int .i64 p0', .slice b0' bn0' bc0', .slice g0' gn0' gc0', .string x1', .int .i64 p1', .slice b1' bn1' bc1', .slice g1' gn1' gc1', .bool up'] 30))
      clear z0 z1 z2 z3 z4 z5 z6 z7 z8 b2 hbw HT kV hT hLa
      generalize World.alloc _ _ = w3 at *
      generalize w2.heap.size = X at *
      have z0 : w3.cell? ⟨X, 0, none⟩ = some (.string x0') := kX.cell 0
      have z1 : w3.cell? ⟨X, 1, none⟩ = some (.int .i64 p0') := kX.cell 1
      have z2 : w3.cell? ⟨X, 2, none⟩ = some (.slice b0' bn0' bc0') := kX.cell 2
      have z3 : w3.cell? ⟨X, 3, none⟩ = some (.slice g0' gn0' gc0') := kX.cell 3
      have z4 : w3.cell? ⟨X, 4, none⟩ = some (.string x1') := kX.cell 4
      have z5 : w3.cell? ⟨X, 5, none⟩ = some (.int .i64 p1') := kX.cell 5
      have z6 : w3.cell? ⟨X, 6, none⟩ = some (.slice b1' bn1' bc1') := kX.cell 6
      have z7 : w3.cell? ⟨X, 7, none⟩ = some (.slice g1' gn1' gc1') := kX.cell 7
      have z8 : w3.cell? ⟨X, 8, none⟩ = some (.bool up') := kX.cell 8
      clear kX
      go_wp2_with (first
        | (go_at_call 16; refine (HCl.out _ _ hT2.out).mono ?_; rintro e w4 ⟨rfl, b4⟩)
        | (go_at_call 10; refine (HA.out _ (Rg.chain hb2 b4)).mono ?_; rintro e w5 ⟨rfl, b5⟩))
      go_ret
      exact ⟨rfl, b5⟩
end Go.Proofs.Ytalleocmnnnchaa
